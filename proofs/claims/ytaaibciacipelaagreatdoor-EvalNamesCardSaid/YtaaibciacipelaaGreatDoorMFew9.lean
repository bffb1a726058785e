/- palaverlaw09.few. -/
import Derived.Test.YtaaibciacipelaaGreatDoorMEvY
namespace Go.Proofs.YtaaibciacipelaaGreatDoor
open Go.RowKit

/-- How few ends. -/
def Few9End (N : List ByteArray) (V : List Va) (w : World) (e : Ending) (w' : World) : Prop := (∃ b, e = .returned (.bool b) ∧ (b = true → N.length ≤ 50 ∧ V.length ≤ 50)) ∧ w = w'
set_option maxHeartbeats 2000000 in
set_option maxRecDepth 100000 in
theorem few9_any (N : List ByteArray) (V : List Va) (A B : Option Addr) (cA cB : Nat) (w : World) (hV : Vs w B V) :
    Calls Tryz.prog 16 #[.slice A N.length cA, .slice B V.length cB] w (Few9End N V w) := by
  by_cases h1 : N.length ≤ 50
  · have h1z : (N.length : Int) ≤ 50 := by omega
    by_cases h2 : V.length ≤ 50
    · have h2z : (V.length : Int) ≤ 50 := by omega
      have HV := Lib.hid hV
      have H12 := Lib.hid (show N.length ≤ 50 ∧ V.length ≤ 50 from ⟨h1, h2⟩)
      clear hV
      go_enter Tryz.func16, Tryz.ntmps16
      go_wp2_with fail
      go_loopg [5] (V.length) (fun a si wr => ∃ k : Nat, k + a = V.length ∧ si = .int .i64 (k : Int) ∧ wr = w)
      case atStart => exact ⟨0, by omega, rfl, rfl⟩
      case round =>
        obtain ⟨k, hka, rfl, hw⟩ := hrel
        subst hw
        have HKA := Lib.hid hka
        by_cases hk : k < V.length
        · have hkz : (k : Int) < (V.length : Int) := by omega
          obtain ⟨g, o, rfl, hc⟩ := HV.out (by omega)
          obtain ⟨-, -, c2⟩ := hc k V[k] (List.getElem?_eq_getElem hk)
          generalize (⟨(V[k]).s.toArray⟩ : ByteArray) = t at *
          clear hc hka
          by_cases ht : (1000 : Int) < (t.size : Int)
          · go_wp2_with fail
            exact bodyPost_ret (v := .bool false) (by simp [results, Tryz.results16, go_sem]) rfl ⟨⟨false, rfl, fun h => by cases h⟩, rfl⟩
          · go_wp2_with fail
            go_roundg (V.length - (k + 1))
            case measure => have := HKA.out; omega
            case rel => exact ⟨k + 1, by have := HKA.out; omega, by go_num, rfl⟩
        · have hkz : ¬ (k : Int) < (V.length : Int) := by omega
          go_wp2_with fail
          exact bodyPost_ret (v := .bool true) (by simp [results, Tryz.results16, go_sem]) rfl ⟨⟨true, rfl, fun _ => H12.out⟩, rfl⟩
    · have h2z : ¬ (V.length : Int) ≤ 50 := by omega
      go_enter Tryz.func16, Tryz.ntmps16
      go_wp2_with fail
      go_ret
      exact ⟨⟨false, rfl, fun h => by cases h⟩, rfl⟩
  · have h1z : ¬ (N.length : Int) ≤ 50 := by omega
    go_enter Tryz.func16, Tryz.ntmps16
    go_wp2_with fail
    go_ret
    exact ⟨⟨false, rfl, fun h => by cases h⟩, rfl⟩
end Go.Proofs.YtaaibciacipelaaGreatDoor
