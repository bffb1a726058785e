/- The document's few of layer 8: not too many names, nor types. -/
import Derived.Test.YtjmfpgalepahoaaGreatDoorGE
namespace Go.Proofs.YtjmfpgalepahoaaGreatDoor
open Go.RowKit

theorem few8_any (A B : Option Addr) (l c m d : Nat) (w : World) : Calls Tryz.prog 21 #[.slice A l c, .slice B m d] w fun e w' => e = .returned (.bool (decide (l ≤ 50 ∧ m ≤ 50))) ∧ w = w' := by
  by_cases h1 : l ≤ 50
  · have h1z : (l : Int) ≤ 50 := by omega
    by_cases h2 : m ≤ 50
    · have h2z : (m : Int) ≤ 50 := by omega
      rw [decide_eq_true ⟨h1, h2⟩]
      go_enter Tryz.func21, Tryz.ntmps21
      go_wp2_with fail
      go_ret
      exact ⟨rfl, rfl⟩
    · have h2z : ¬ (m : Int) ≤ 50 := by omega
      rw [decide_eq_false (fun h => h2 h.2)]
      go_enter Tryz.func21, Tryz.ntmps21
      go_wp2_with fail
      go_ret
      exact ⟨rfl, rfl⟩
  · have h1z : ¬ (l : Int) ≤ 50 := by omega
    rw [decide_eq_false (fun h => h1 h.1)]
    go_enter Tryz.func21, Tryz.ntmps21
    go_wp2_with fail
    go_ret
    exact ⟨rfl, rfl⟩
end Go.Proofs.YtjmfpgalepahoaaGreatDoor
