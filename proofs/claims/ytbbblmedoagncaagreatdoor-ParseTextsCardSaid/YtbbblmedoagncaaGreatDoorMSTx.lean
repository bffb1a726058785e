/- palaverlaw00.SameTexts of one list at two places. -/
import Derived.Test.YtbbblmedoagncaaGreatDoorGB
import Derived.Test.YtbbblmedoagncaaGreatDoorGX
import Derived.Test.YtbbblmedoagncaaGreatDoorGE
import Derived.Test.YtbbblmedoagncaaGreatDoorGQ
namespace Go.Proofs.YtbbblmedoagncaaGreatDoor
open Go.RowKit

theorem ts_at {w : World} {A : Option Addr} {L : List ByteArray} (h : Ts w A L) {j : Nat} (hj : j < L.length) : ∃ b off, A = some ⟨b, off, none⟩ ∧ w.cell? ⟨b, off + j, none⟩ = some (.string L[j]) := by
  obtain ⟨b, off, rfl, hc⟩ := h (by omega)
  refine ⟨b, off, rfl, (hc j hj).trans ?_⟩
  rw [List.getD_eq_getElem?_getD, List.getElem?_eq_getElem hj]
  rfl
set_option maxHeartbeats 1000000 in
theorem same_texts (A B : Option Addr) (L : List ByteArray) (ca cb : Nat) (w : World) (hl : L.length ≤ 17592186044416) (hA : Ts w A L) (hB : Ts w B L) :
    Calls Tryz.prog 12 #[.slice A L.length ca, .slice B L.length cb] w fun e w' => e = .returned (.bool true) ∧ Below w.heap.size w w' := by
  have HA := Lib.hid hA
  have HB := Lib.hid hB
  obtain ⟨N, hN⟩ : ∃ N, N = L.length := ⟨_, rfl⟩
  have hl2 : N ≤ 17592186044416 := by omega
  have HN := Lib.hid hN
  rw [← hN]
  clear hA hB hN hl
  go_enter Tryz.func12, Tryz.ntmps12
  go_wp2_with fail
  go_loopg [5] (N) (fun m s5 wr => ∃ k : Nat, k + m = N ∧ s5 = .int .i64 (k : Int) ∧ Hid (Below w.heap.size w wr))
  case atStart => exact ⟨0, by omega, rfl, Lib.hid (Below.refl _ _)⟩
  case round =>
    obtain ⟨k, hkm, rfl, HW⟩ := hrel
    have HKM := Lib.hid hkm
    by_cases hk : k < N
    · have hkz : (k : Int) < (N : Int) := by omega
      have hkx : k < L.length := by rw [← HN.out]; exact hk
      obtain ⟨b, off, rfl, hc0⟩ := ts_at HA.out hkx
      obtain ⟨b2, off2, rfl, hc20⟩ := ts_at HB.out hkx
      have hc := (HW.out.cell (p := ⟨b, off + k, none⟩) (World.block_lt_of_cell? w _ hc0)).trans hc0
      have hc2 := (HW.out.cell (p := ⟨b2, off2 + k, none⟩) (World.block_lt_of_cell? w _ hc20)).trans hc20
      clear hc0 hc20
      generalize L[k] = x at *
      clear hkm hkx
      have hq : (x.toList == x.toList) = true := by simp
      have hne : (x.toList != x.toList) = false := by simp
      go_wp2_with fail
      go_quiet (fail)
      go_wp2_with fail
      go_roundg (N - (k + 1))
      case measure => have := HKM.out; omega
      case rel => exact ⟨k + 1, by have := HKM.out; omega, by go_num, Lib.hid (below_dr HW.out _)⟩
    · have hkz : ¬ (k : Int) < (N : Int) := by omega
      clear hkm
      go_wp2_with fail
      go_ret
      exact ⟨rfl, HW.out⟩
end Go.Proofs.YtbbblmedoagncaaGreatDoor
