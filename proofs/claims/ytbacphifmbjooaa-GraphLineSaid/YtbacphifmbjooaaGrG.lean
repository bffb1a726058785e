/- gcd; the needs of a line, as they are written down. -/
import Derived.Test.YtbacphifmbjooaaGrQ
namespace Go.Proofs.Ytbacphifmbjooaa
open Go.RowKit

set_option maxHeartbeats 2000000 in
theorem gcd_any (a b : Nat) (w : World) (ha : a ≤ 1000) (hb : b ≤ 1000) :
    Calls Try.prog 20 #[.int .i64 (a : Int), .int .i64 (b : Int)] w fun e w' => e = .returned (.int .i64 ((Nat.gcd a b : Nat) : Int)) ∧ Below w.heap.size w w' := by
  generalize hG : Nat.gcd a b = g
  have HG := Lib.hid hG
  clear hG
  go_enter Try.func20, Try.ntmps20
  go_wp2_with fail
  go_loopg [0, 1] (b) (fun q s0 s1 wr => ∃ x y : Nat, y ≤ q ∧ x ≤ 1000 ∧ y ≤ 1000 ∧ s0 = .int .i64 (x : Int) ∧ s1 = .int .i64 (y : Int) ∧ Hid (Nat.gcd x y = g) ∧ Hid (Below w.heap.size w wr))
  case atStart => exact ⟨a, b, Nat.le_refl _, ha, hb, rfl, rfl, HG, Lib.hid (Below.refl _ _)⟩
  case round =>
    obtain ⟨x, y, hyq, hx, hy, rfl, rfl, HX, HW⟩ := hrel
    have HYQ := Lib.hid hyq
    clear hyq
    by_cases h0 : 0 < y
    · have h0z : (0 : Int) < (y : Int) := by omega
      have hne : ¬ (y : Int) = 0 := by omega
      have hne2 : ((y : Int) == 0) = false := by simp; omega
      have hm : (x : Int).tmod (y : Int) = ((x % y : Nat) : Int) := by rw [Int.tmod_eq_emod_of_nonneg (by omega)]; omega
      have hml := Nat.mod_lt x h0
      have HS := Lib.hid (show Nat.gcd y (x % y) = g by rw [← HX.out, Nat.gcd_comm x y, Nat.gcd_rec y x, Nat.gcd_comm])
      generalize x % y = r at *
      go_wp2_with fail
      go_quiet (fail)
      go_wp2_with fail
      go_roundg (r)
      case measure => have := HYQ.out; omega
      case rel => exact ⟨y, r, Nat.le_refl _, hy, by omega, rfl, rfl, HS, Lib.hid (below_drw HW.out _)⟩
    · have h0z : ¬ (0 : Int) < (y : Int) := by omega
      obtain rfl : y = 0 := by omega
      have HE := Lib.hid (show x = g by rw [← HX.out]; simp)
      go_wp2_with fail
      go_ret
      exact ⟨by rw [HE.out]; rfl, HW.out⟩
end Go.Proofs.Ytbacphifmbjooaa
