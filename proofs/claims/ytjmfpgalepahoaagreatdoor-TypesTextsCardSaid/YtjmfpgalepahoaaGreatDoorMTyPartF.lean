/- types.part: more operations. -/
import Derived.Test.YtjmfpgalepahoaaGreatDoorGT
namespace Go.Proofs.YtjmfpgalepahoaaGreatDoor
open Go.RowKit
set_option linter.unusedSimpArgs false

set_option maxHeartbeats 1000000 in
set_option maxRecDepth 100000 in
theorem tpart_19 (w : World) (g cap : Nat) (a : Int) (c0 : w.cell? ⟨g, 0, none⟩ = some (.int .i64 a)) :
    Calls Tryz.prog 85 #[.int .i64 19, (.slice (some ⟨g, 0, none⟩) 1 cap)] w fun e w' => e = .returned (.int .i64 (partT 19 [a])) ∧ Below w.heap.size w w' := by
  go_enter Tryz.func85, Tryz.ntmps85
  go_wp2_with fail
  refine (tonly_any 3 a 1 w).mono ?_
  rintro e w1 ⟨rfl, rfl⟩
  go_wp2_with fail
  go_ret
  exact ⟨by by_cases h : a = 3 <;> simp [partT, onlyT, h, eq_comm], Below.refl _ _⟩

set_option maxHeartbeats 1000000 in
set_option maxRecDepth 100000 in
theorem tpart_22 (w : World) (g cap : Nat) (a : Int) (_ : w.cell? ⟨g, 0, none⟩ = some (.int .i64 a)) :
    Calls Tryz.prog 85 #[.int .i64 22, (.slice (some ⟨g, 0, none⟩) 1 cap)] w fun e w' => e = .returned (.int .i64 (partT 22 [a])) ∧ Below w.heap.size w w' := by
  go_enter Tryz.func85, Tryz.ntmps85
  go_wp2_with fail
  go_ret
  exact ⟨by first | rfl | simp [partT, onlyT], Below.refl _ _⟩

set_option maxHeartbeats 1000000 in
set_option maxRecDepth 100000 in
theorem tpart_23 (w : World) (g cap : Nat) (a : Int) (c0 : w.cell? ⟨g, 0, none⟩ = some (.int .i64 a)) :
    Calls Tryz.prog 85 #[.int .i64 23, (.slice (some ⟨g, 0, none⟩) 1 cap)] w fun e w' => e = .returned (.int .i64 (partT 23 [a])) ∧ Below w.heap.size w w' := by
  go_enter Tryz.func85, Tryz.ntmps85
  go_wp2_with fail
  refine (tonly_any 3 a 3 w).mono ?_
  rintro e w1 ⟨rfl, rfl⟩
  go_wp2_with fail
  go_ret
  exact ⟨by by_cases h : a = 3 <;> simp [partT, onlyT, h, eq_comm], Below.refl _ _⟩
end Go.Proofs.YtjmfpgalepahoaaGreatDoor
