/- A place among n. -/
import Derived.Test.YtindkpfmflcibaaDoorGB
namespace Go.Proofs.YtindkpfmflcibaaDoor
open Go.RowKit

set_option maxRecDepth 100000 in
set_option maxHeartbeats 400000 in
theorem place_z (v n : Int) (w : World) (h0 : -9223372036854775808 ≤ v) (h1 : v ≤ 9223372036854775807) (hn : 1 ≤ n) (hn1 : n ≤ 4611686018427387904) :
    Calls Tryd.prog 8 #[.int .i64 v, .int .i64 n] w fun e w' => e = .returned (.int .i64 (placeZ v n)) ∧ w = w' := by
  by_cases hv : 0 ≤ v
  · have hp : v % n = placeZ v n := rfl
    have hlo := placeZ_lo v n (by omega)
    go_enter Tryd.func8, Tryd.ntmps8
    go_wp2
    go_ret
    exact ⟨rfl, rfl⟩
  · obtain ⟨ht0, ht1⟩ := tmod_neg v n (by omega) hn
    have hpt := placeZ_tmod v n
    have HP := Lib.hid hpt
    clear hpt
    go_enter Tryd.func8, Tryd.ntmps8
    go_wp2
    · have hlt : v.tmod n < 0 := by assumption
      go_ret
      exact ⟨ret_int (by rw [HP.out]; exact placeZ_low (by omega) hlt), rfl⟩
    · have hge : 0 ≤ v.tmod n := by assumption
      go_ret
      exact ⟨ret_int (by rw [HP.out]; exact placeZ_high hge (by omega)), rfl⟩

/-- A place among n, as a natural number. -/
theorem place_n (v : Int) (n : Nat) (h0 : -9223372036854775808 ≤ v) (h1 : v ≤ 9223372036854775807) (hn : 1 ≤ n) (hn1 : n ≤ 4611686018427387904) :
    ∃ k : Nat, k < n ∧ ∀ w : World, Calls Tryd.prog 8 #[.int .i64 v, .int .i64 n] w fun e w' => e = .returned (.int .i64 (k : Int)) ∧ w = w' := by
  have lo := placeZ_lo v n (by omega)
  have hi := placeZ_hi v n (by omega)
  refine ⟨(placeZ v n).toNat, by omega, fun w => ?_⟩
  have c := place_z v n w h0 h1 (by omega) (by omega)
  rwa [show (((placeZ v n).toNat : Nat) : Int) = placeZ v n by omega]
end Go.Proofs.YtindkpfmflcibaaDoor
