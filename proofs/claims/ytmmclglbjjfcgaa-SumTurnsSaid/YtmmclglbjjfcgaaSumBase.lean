/- Contracts of what the laws of the sum share: the chapter's example is true; a place among n; bytes in new memory; a text made of bytes. -/
import Derived.Test.YtmmclglbjjfcgaaSumRef
import Derived.Laws.AppendOwnNone
import Derived.Laws.BytesArg
import Derived.Laws.BytesString
import Derived.Lib.UnsafeStr
import Derived.Maps.AppendAt
import Derived.RegionTactic
import Derived.Lib.SlBytesConst
namespace Go.Proofs.Ytmmclglbjjfcgaa
open Go.RowKit

theorem bs_own {w : World} {B : Nat} {e : TypeId} {v : Value} {L : List UInt8} (h : w.ownsRow B e 1 v L.length (Lib.byteCells L)) :
    ∃ A cap, v = .slice A L.length cap ∧ Bs w A L := by
  have h' := h
  rcases h.2 with ⟨rfl, hn⟩ | ⟨g, cap, cur, rfl, hbg, hg, hnc, hcm, rest⟩
  · exact ⟨none, 0, by rw [hn], fun hp => absurd hp (by omega)⟩
  · refine ⟨_, cap, rfl, fun _ => ⟨g, 0, rfl, fun j hj => ?_⟩⟩
    rw [Nat.zero_add, h'.cellAt j (by omega)]
    unfold Lib.byteCells
    rw [List.getElem?_map, List.getElem?_eq_getElem hj, List.getD_eq_getElem?_getD, List.getElem?_eq_getElem hj]
    rfl
theorem bytes_one (l : List UInt8) : ∀ v ∈ Lib.byteCells l, v.oneCell' = true := by
  intro v hv; unfold Lib.byteCells at hv; obtain ⟨x, _, rfl⟩ := List.mem_map.1 hv; rfl
theorem bs_cells {w : World} {ad : Addr} {L : List UInt8} (h : Bs w (some ad) L) : ∀ j u, (Lib.byteCells L)[j]? = some u → w.cell? (ad.add j) = some u := by
  intro j u hu
  have hj : j < L.length := by
    have := (List.getElem?_eq_some_iff.1 hu).1
    rwa [Lib.byteCells_length] at this
  obtain ⟨b, off, e, hc⟩ := h (by omega)
  injection e with e
  subst e
  have e2 : (⟨b, off, none⟩ : Addr).add j = ⟨b, off + j, none⟩ := by unfold Addr.add; split <;> simp_all
  rw [e2, hc j hj, ← hu]
  unfold Lib.byteCells
  rw [List.getElem?_map, List.getElem?_eq_getElem hj, List.getD_eq_getElem?_getD, List.getElem?_eq_getElem hj]
  rfl

def OwnBytes (w : World) (L : List UInt8) (e : Ending) (w' : World) : Prop := ∃ A cap, e = .returned (.slice A L.length cap) ∧ Bs w' A L ∧ (A = none → cap = 0) ∧ w'.ownsRow w.heap.size 5 1 (.slice A L.length cap) L.length (Lib.byteCells L) ∧ Below w.heap.size w w'

set_option maxHeartbeats 400000 in
theorem bytes_any (A : Option Addr) (L : List UInt8) (cap : Nat) (w : World) (hl : L.length ≤ 140737488351232) (hB : Bs w A L) (hcap : A = none → cap = 0) :
    Calls Try.prog 8 #[.slice A L.length cap] w (OwnBytes w L) := by
  obtain ⟨i0, hi, hz0, hz1, hz2⟩ := info_parts (show (Try.prog.info? 5).map (fun i => (i.zero, i.size, i.bytes)) = some (some (.int .u8 0), 1, 1) by kernel_rfl)
  cases A with
  | none =>
    obtain rfl := hcap rfl
    have h0 : L = [] := by
      cases L with
      | nil => rfl
      | cons c L => obtain ⟨b, off, e, _⟩ := hB (by simp); cases e
    subst h0
    go_enter Try.func8, Try.ntmps8
    go_wp2_with (at_builtin; refine wpList_append_own_none rfl (.const (.slice none 0 0)) (.tmp 3) _ rfl w.heap.size 5 i0 1 Try.underlying23 hi (.slice none 0 0) 0 [] rfl (World.ownsRow_nil _ _ _ _) rfl ?_)
    go_ret
    exact ⟨none, 0, rfl, Bs.nil _ _, fun _ => rfl, World.ownsRow_nil _ _ _ _, Below.refl _ _⟩
  | some ad =>
    have hc := bs_cells hB
    have ho := bytes_one L
    have HC := Lib.hid hc
    have HO := Lib.hid ho
    clear hc ho hB hcap
    go_enter Try.func8, Try.ntmps8
    go_wp2_with (at_builtin; refine wpList_append_own _ rfl (.const (.slice none 0 0)) (.tmp 3) _ rfl w.heap.size 5 i0 _ 1 1 Try.underlying23 hi hz0 hz1 hz2 rfl (by omega) (.slice none 0 0) 0 [] rfl (World.ownsRow_nil _ _ _ _) ad L.length cap (Lib.byteCells L) rfl (by rw [Lib.byteCells_length]; omega) HC.out HO.out (by unfold maxLen; omega) (by omega) (Nat.le_refl _) ?_; intro v1 w1 hown1 hg1 _)
    simp only [Nat.zero_add, List.nil_append] at hown1
    have hb1 : Below w.heap.size w w1 := (Below.refl _ _).grown hg1 (Nat.le_refl _) (by simp [Value.ownBlock])
    obtain ⟨A1, cap1, rfl, hB1⟩ := bs_own hown1
    go_ret
    refine ⟨A1, cap1, rfl, hB1, ?_, hown1, hb1⟩
    rintro rfl
    rcases hown1.2 with ⟨h, _⟩ | ⟨g, c', cur, h, _⟩
    · injection h
    · injection h with h; cases h

def placeZ (v n : Int) : Int := v % n
theorem placeZ_lo (v n : Int) (hn : 0 < n) : 0 ≤ placeZ v n := Int.emod_nonneg _ (by omega)
theorem placeZ_hi (v n : Int) (hn : 0 < n) : placeZ v n < n := Int.emod_lt_of_pos _ hn
theorem tmod_neg (v n : Int) (hv : v < 0) (hn : 1 ≤ n) : -n < v.tmod n ∧ v.tmod n ≤ 0 := by
  have h1 : (-v).tmod n = -(v.tmod n) := Int.neg_tmod _ _
  have h2 : (-v).tmod n = (-v) % n := Int.tmod_eq_emod_of_nonneg (by omega)
  have h3 := Int.emod_nonneg (-v) (show n ≠ 0 by omega)
  have h4 := Int.emod_lt_of_pos (-v) (show 0 < n by omega)
  omega
theorem placeZ_tmod (v n : Int) : placeZ v n = placeZ (v.tmod n) n := by
  unfold placeZ
  have h := Int.mul_tdiv_add_tmod v n
  have h2 : (n * v.tdiv n + v.tmod n) % n = v.tmod n % n := by rw [Int.add_comm]; exact Int.add_mul_emod_self_left ..
  rw [h] at h2
  exact h2
theorem placeZ_low {t n : Int} (h0 : 0 ≤ t + n) (h1 : t < 0) : t + n = placeZ t n := by
  unfold placeZ
  rw [← Int.add_emod_right]
  exact (Int.emod_eq_of_lt h0 (by omega)).symm
theorem placeZ_high {t n : Int} (h0 : 0 ≤ t) (h1 : t < n) : t = placeZ t n := (Int.emod_eq_of_lt h0 h1).symm

set_option maxHeartbeats 400000 in
theorem place_any (v n : Int) (w : World) (h0 : -9223372036854775808 ≤ v) (h1 : v ≤ 9223372036854775807) (hn : 1 ≤ n) (hn1 : n ≤ 4611686018427387904) :
    Calls Try.prog 14 #[.int .i64 v, .int .i64 n] w fun e w' => e = .returned (.int .i64 (placeZ v n)) ∧ w = w' := by
  by_cases hv : 0 ≤ v
  · have hp : v % n = placeZ v n := rfl
    have hlo := placeZ_lo v n (by omega)
    go_enter Try.func14, Try.ntmps14
    go_wp2
    go_ret
    exact ⟨rfl, rfl⟩
  · obtain ⟨ht0, ht1⟩ := tmod_neg v n (by omega) hn
    have hpt := placeZ_tmod v n
    have HP := Lib.hid hpt
    clear hpt
    go_enter Try.func14, Try.ntmps14
    go_wp2
    · have hlt : v.tmod n < 0 := by assumption
      go_ret
      exact ⟨ret_int (by rw [HP.out]; exact placeZ_low (by omega) hlt), rfl⟩
    · have hge : 0 ≤ v.tmod n := by assumption
      go_ret
      exact ⟨ret_int (by rw [HP.out]; exact placeZ_high hge (by omega)), rfl⟩

theorem awake_sum : Z (moreB 0#32 [49, 50, 51, 52, 53, 54, 55, 56, 57]) = 3421780262 := by decide +kernel
def awakeCells : Array Value := #[.int .u8 49, .int .u8 50, .int .u8 51, .int .u8 52, .int .u8 53, .int .u8 54, .int .u8 55, .int .u8 56, .int .u8 57]
theorem awake_bs (w : World) (t : TypeId) (z : Nat × Nat) : Bs (w.alloc (.cells awakeCells t z)) (some ⟨w.heap.size, 0, none⟩) [49, 50, 51, 52, 53, 54, 55, 56, 57] := by
  refine fun _ => ⟨_, 0, rfl, fun j hj => ?_⟩
  rw [Nat.zero_add, cell_of_row _ _ j awakeCells t z (heap_alloc_new w _)]
  simp only [List.length_cons, List.length_nil] at hj
  have : j = 0 ∨ j = 1 ∨ j = 2 ∨ j = 3 ∨ j = 4 ∨ j = 5 ∨ j = 6 ∨ j = 7 ∨ j = 8 := by omega
  rcases this with rfl | rfl | rfl | rfl | rfl | rfl | rfl | rfl | rfl <;> rfl
theorem awake_of (w : World) (t : TypeId) (z : Nat × Nat) :
    Calls Try.prog 9 #[.slice (some ⟨w.heap.size, 0, none⟩) 9 9] (w.alloc (.cells #[.int .u8 49, .int .u8 50, .int .u8 51, .int .u8 52, .int .u8 53, .int .u8 54, .int .u8 55, .int .u8 56, .int .u8 57] t z)) fun e w' => e = .returned (.int .u32 3421780262) ∧ Below w.heap.size w w' := by
  have c := of_any (some ⟨w.heap.size, 0, none⟩) [49, 50, 51, 52, 53, 54, 55, 56, 57] 9 _ (by decide) (awake_bs w t z)
  rw [awake_sum] at c
  exact c.mono fun e w' ⟨he, hw⟩ => ⟨he, by rw [← hw]; exact (Below.refl _ w).alloc (Nat.le_refl _) _⟩
set_option maxHeartbeats 400000 in
theorem awake_any (w : World) : Calls Try.prog 13 #[] w fun e w' => e = .returned (.bool true) ∧ Below w.heap.size w w' := by
  have kc := fun (w : World) (C : Array Value) (n c : Nat) => Lib.run_convert_bytes_const (P := Try.prog) w 23 5 C n c Try.underlying23 Try.underlying5
  go_enter Try.func13, Try.ntmps13
  go_wp2_with fail
  refine (awake_of w _ _).mono ?_
  rintro e w1 ⟨rfl, hb⟩
  go_wp2
  go_ret
  exact ⟨rfl, hb⟩
end Go.Proofs.Ytmmclglbjjfcgaa
