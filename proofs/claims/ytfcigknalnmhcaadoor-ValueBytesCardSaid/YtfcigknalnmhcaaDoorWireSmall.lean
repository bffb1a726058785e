/- Contracts of wire.unsigned, wire.signed: for every number. -/
import Derived.Test.YtfcigknalnmhcaaDoorBytes
import Derived.Test.YtfcigknalnmhcaaDoorWireMath
namespace Go.Proofs.YtfcigknalnmhcaaDoor
open Go.RowKit

set_option maxHeartbeats 400000 in
theorem unsigned_any (v : Int) (w : World) (h0 : -9223372036854775808 ≤ v) (h1 : v ≤ 9223372036854775807) :
    Calls Tryd.prog 90 #[.int .i64 v] w fun e w' => e = .returned (.int .u64 (uz v : Int)) ∧ w = w' := by
  by_cases h : v < 0
  · have hu := uz_neg h
    go_enter Tryd.func90, Tryd.ntmps90
    go_wp2
    go_ret
    exact ⟨ret_int (by omega), rfl⟩
  · have hu := uz_pos (v := v) (by omega)
    go_enter Tryd.func90, Tryd.ntmps90
    go_wp2
    go_ret
    exact ⟨ret_int (by omega), rfl⟩

set_option maxHeartbeats 400000 in
theorem signed_any (u : Nat) (w : World) (h : u < 18446744073709551616) :
    Calls Tryd.prog 91 #[.int .u64 (u : Int)] w fun e w' => e = .returned (.int .i64 (zz u)) ∧ w = w' := by
  by_cases h2 : u % 2 = 1
  · have hz : zz u = -((u / 2 : Nat) : Int) - 1 := by unfold zz; rw [if_pos h2]
    go_enter Tryd.func91, Tryd.ntmps91
    go_wp2
    go_ret
    exact ⟨ret_int (by rw [hz]; omega), rfl⟩
  · have hz : zz u = ((u / 2 : Nat) : Int) := by unfold zz; rw [if_neg h2]
    go_enter Tryd.func91, Tryd.ntmps91
    go_wp2
    go_ret
    exact ⟨ret_int (by rw [hz]; omega), rfl⟩
end Go.Proofs.YtfcigknalnmhcaaDoor
