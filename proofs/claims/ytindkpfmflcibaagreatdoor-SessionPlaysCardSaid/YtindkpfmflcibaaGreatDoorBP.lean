/- Several texts in one: By14, Plc. -/
import Derived.Test.YtindkpfmflcibaaGreatDoorGB
namespace Go.Proofs.YtindkpfmflcibaaGreatDoor
/- The contracts of palaverlaw00.Bytes and Place: what came in, in new memory; a place among some. -/
section
open Go.ChangeShapes Go.WideShapes Go.ChangeAt Go.RowKit

set_option maxRecDepth 100000 in
set_option maxHeartbeats 400000 in
theorem bytes_any (A : Option Addr) (L : List UInt8) (cap : Nat) (w : World) (hl : L.length ≤ 140737488351232) (hB : Bs w A L) (hcap : A = none → cap = 0) :
    Calls Tryz.prog 24 #[.slice A L.length cap] w (OwnBytes w L) := by
  obtain ⟨i0, hi, hz0, hz1, hz2⟩ := info_parts (show (Tryz.prog.info? 5).map (fun i => (i.zero, i.size, i.bytes)) = some (some (.int .u8 0), 1, 1) by kernel_rfl)
  cases A with
  | none =>
    obtain rfl := hcap rfl
    have h0 : L = [] := by
      cases L with
      | nil => rfl
      | cons c L => obtain ⟨b, off, e, _⟩ := hB (by simp); cases e
    subst h0
    go_enter Tryz.func24, Tryz.ntmps24
    go_wp2_with (at_builtin; refine wpList_append_own_none rfl (.const (.slice none 0 0)) (.tmp 3) _ rfl w.heap.size 5 i0 1 Tryz.underlying35 hi (.slice none 0 0) 0 [] rfl (World.ownsRow_nil _ _ _ _) rfl ?_)
    go_ret
    exact ⟨none, 0, rfl, Bs.nil _ _, fun _ => rfl, World.ownsRow_nil _ _ _ _, Below.refl _ _⟩
  | some ad =>
    have hc := bs_cells hB
    have ho := bytes_one L
    have HC := Lib.hid hc
    have HO := Lib.hid ho
    clear hc ho hB hcap
    go_enter Tryz.func24, Tryz.ntmps24
    go_wp2_with (at_builtin; refine wpList_append_own _ rfl (.const (.slice none 0 0)) (.tmp 3) _ rfl w.heap.size 5 i0 _ 1 1 Tryz.underlying35 hi hz0 hz1 hz2 rfl (by omega) (.slice none 0 0) 0 [] rfl (World.ownsRow_nil _ _ _ _) ad L.length cap (Lib.byteCells L) rfl (by rw [Lib.byteCells_length]; omega) HC.out HO.out (by unfold maxLen; omega) (by omega) (Nat.le_refl _) ?_; intro v1 w1 hown1 hg1 _)
    simp only [Nat.zero_add, List.nil_append] at hown1
    have hb1 : Below w.heap.size w w1 := (Below.refl _ _).grown hg1 (Nat.le_refl _) (by simp [Value.ownBlock])
    obtain ⟨A1, cap1, rfl, hB1⟩ := bs_own hown1
    go_ret
    refine ⟨A1, cap1, rfl, hB1, ?_, hown1, hb1⟩
    rintro rfl
    rcases hown1.2 with ⟨h, _⟩ | ⟨g, c', cur, h, _⟩
    · injection h
    · injection h with h; cases h
set_option maxRecDepth 100000 in
set_option maxHeartbeats 400000 in
theorem place_any (v n : Int) (w : World) (h0 : -9223372036854775808 ≤ v) (h1 : v ≤ 9223372036854775807) (hn : 1 ≤ n) (hn1 : n ≤ 4611686018427387904) :
    Calls Tryz.prog 13 #[.int .i64 v, .int .i64 n] w fun e w' => e = .returned (.int .i64 (placeZ v n)) ∧ w = w' := by
  by_cases hv : 0 ≤ v
  · have hp : v % n = placeZ v n := rfl
    have hlo := placeZ_lo v n (by omega)
    go_enter Tryz.func13, Tryz.ntmps13
    go_wp2
    go_ret
    exact ⟨rfl, rfl⟩
  · obtain ⟨ht0, ht1⟩ := tmod_neg v n (by omega) hn
    have hpt := placeZ_tmod v n
    have HP := Lib.hid hpt
    clear hpt
    go_enter Tryz.func13, Tryz.ntmps13
    go_wp2
    · have hlt : v.tmod n < 0 := by assumption
      go_ret
      exact ⟨ret_int (by rw [HP.out]; exact placeZ_low (by omega) hlt), rfl⟩
    · have hge : 0 ≤ v.tmod n := by assumption
      go_ret
      exact ⟨ret_int (by rw [HP.out]; exact placeZ_high hge (by omega)), rfl⟩

/-- A place among n, as a natural number. -/
theorem place_nat (v : Int) (n : Nat) (h0 : -9223372036854775808 ≤ v) (h1 : v ≤ 9223372036854775807) (hn : 1 ≤ n) (hn1 : n ≤ 4611686018427387904) :
    ∃ k : Nat, k < n ∧ ∀ w : World, Calls Tryz.prog 13 #[.int .i64 v, .int .i64 n] w fun e w' => e = .returned (.int .i64 (k : Int)) ∧ w = w' := by
  have lo := placeZ_lo v n (by omega)
  have hi := placeZ_hi v n (by omega)
  refine ⟨(placeZ v n).toNat, by omega, fun w => ?_⟩
  have c := place_any v n w h0 h1 (by omega) (by omega)
  rwa [show (((placeZ v n).toNat : Nat) : Int) = placeZ v n by omega]
end
/- A place among n. -/
section
open Go.RowKit

set_option maxRecDepth 100000 in
set_option maxHeartbeats 400000 in
theorem place_z (v n : Int) (w : World) (h0 : -9223372036854775808 ≤ v) (h1 : v ≤ 9223372036854775807) (hn : 1 ≤ n) (hn1 : n ≤ 4611686018427387904) :
    Calls Tryz.prog 13 #[.int .i64 v, .int .i64 n] w fun e w' => e = .returned (.int .i64 (placeZ v n)) ∧ w = w' := by
  by_cases hv : 0 ≤ v
  · have hp : v % n = placeZ v n := rfl
    have hlo := placeZ_lo v n (by omega)
    go_enter Tryz.func13, Tryz.ntmps13
    go_wp2
    go_ret
    exact ⟨rfl, rfl⟩
  · obtain ⟨ht0, ht1⟩ := tmod_neg v n (by omega) hn
    have hpt := placeZ_tmod v n
    have HP := Lib.hid hpt
    clear hpt
    go_enter Tryz.func13, Tryz.ntmps13
    go_wp2
    · have hlt : v.tmod n < 0 := by assumption
      go_ret
      exact ⟨ret_int (by rw [HP.out]; exact placeZ_low (by omega) hlt), rfl⟩
    · have hge : 0 ≤ v.tmod n := by assumption
      go_ret
      exact ⟨ret_int (by rw [HP.out]; exact placeZ_high hge (by omega)), rfl⟩

/-- A place among n, as a natural number. -/
theorem place_n (v : Int) (n : Nat) (h0 : -9223372036854775808 ≤ v) (h1 : v ≤ 9223372036854775807) (hn : 1 ≤ n) (hn1 : n ≤ 4611686018427387904) :
    ∃ k : Nat, k < n ∧ ∀ w : World, Calls Tryz.prog 13 #[.int .i64 v, .int .i64 n] w fun e w' => e = .returned (.int .i64 (k : Int)) ∧ w = w' := by
  have lo := placeZ_lo v n (by omega)
  have hi := placeZ_hi v n (by omega)
  refine ⟨(placeZ v n).toNat, by omega, fun w => ?_⟩
  have c := place_z v n w h0 h1 (by omega) (by omega)
  rwa [show (((placeZ v n).toNat : Nat) : Int) = placeZ v n by omega]
end
end Go.Proofs.YtindkpfmflcibaaGreatDoor
