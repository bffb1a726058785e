/- palaverlaw00.Lists: lists in new memory. -/
import Derived.Test.YtbacphifmbjooaaGrL
namespace Go.Proofs.Ytbacphifmbjooaa
open Go.RowKit

theorem rows_tags {w : World} {n₀ n₁ e1 e2 s1 s2 n m : Nat} {v1 v2 : Value} {xs ys : List Value} (r1 : w.ownsRow n₀ e1 s1 v1 n xs) (r2 : w.ownsRow n₁ e2 s2 v2 m ys) (he : e1 ≠ e2) : v1.ownBlock = none ∨ v1.ownBlock ≠ v2.ownBlock := by
  rcases r1.2 with ⟨rfl, _⟩ | ⟨g, cap, cur, rfl, _, hgb, _⟩
  · exact .inl rfl
  · refine .inr fun e' => ?_
    rcases r2.2 with ⟨rfl, _⟩ | ⟨g2, cap2, cur2, rfl, _, hgb2, _⟩
    · cases e'
    · injection e' with e'
      subst e'
      rw [hgb] at hgb2
      injection hgb2 with h
      injection h with _ h
      exact he h
/-- A row of the call's own that holds these lists, each in a row of its own. -/
def OwnL (w : World) (B : Nat) (v : Value) (L : List (List Int)) : Prop := ∃ V : Nat → Value, w.ownsRow B 26 1 v L.length ((List.range L.length).map V) ∧ ∀ j, j < L.length → OwnZ w B (V j) (rowL L j)
theorem OwnL.nil (w : World) (B : Nat) : OwnL w B (.slice none 0 0) [] := ⟨fun _ => undef, World.ownsRow_nil _ _ _ _, fun j h => absurd h (by simp)⟩
/-- What may be of a list that came in. -/
def Fit (L : List (List Int)) : Prop := ∀ j, j < L.length → (rowL L j).length ≤ 17592186044416 ∧ ∀ z ∈ rowL L j, -9223372036854775808 ≤ z ∧ z ≤ 9223372036854775807
theorem LL.fit {w : World} {A : Option Addr} {L : List (List Int)} (h : LL w A L) : Fit L := fun j hj => by
  obtain ⟨b, off, B, c, _, _, _, h2, _, _, h5⟩ := h.at hj
  exact ⟨h2, h5⟩
theorem OwnL.ll {w : World} {B : Nat} {v : Value} {L : List (List Int)} (h : OwnL w B v L) (hf : Fit L) : ∃ A cap, v = .slice A L.length cap ∧ L.length ≤ cap ∧ (A = none → cap = 0) ∧ LL w A L := by
  obtain ⟨V, h1, h2⟩ := h
  have h1' := h1
  rcases h1.2 with ⟨rfl, hn⟩ | ⟨g, cap, cur, rfl, hbg, hg, hnc, hcm, rest⟩
  · exact ⟨none, 0, by rw [hn], by omega, fun _ => rfl, V, fun hp => absurd hp (by omega), fun j hj => by omega⟩
  · refine ⟨_, cap, rfl, hnc, fun h => by (cases h), V, fun _ => ⟨g, 0, rfl, fun j hj => ?_⟩, fun j hj => RowV.of_own (h2 j hj) (hf j hj).1 (hf j hj).2⟩
    rw [Nat.zero_add, h1'.cellAt j (by omega), List.getElem?_map, List.getElem?_range hj]
    rfl
theorem rowL_snoc (L : List (List Int)) (l : List Int) : rowL (L ++ [l]) L.length = l := by
  unfold rowL; rw [List.getD_eq_getElem?_getD, List.getElem?_append_right (Nat.le_refl _), Nat.sub_self]; rfl
theorem rowL_app {L : List (List Int)} (l : List Int) {j : Nat} (hj : j < L.length) : rowL (L ++ [l]) j = rowL L j := by
  unfold rowL; rw [List.getD_eq_getElem?_getD, List.getElem?_append_left hj, List.getD_eq_getElem?_getD]
theorem OwnL.step {w w1 w2 : World} {B : Nat} {v v' va : Value} {L : List (List Int)} {l : List Int} {V : Nat → Value} {o : Obj}
    (h1 : w.ownsRow B 26 1 v L.length ((List.range L.length).map V)) (h2 : ∀ j, j < L.length → OwnZ w B (V j) (rowL L j)) (hB : B ≤ w.heap.size)
    (ha : OwnZ w1 w.heap.size va l) (hb : Below w.heap.size w w1) (ho : w2.ownsRow B 26 1 v' (L.length + 1) ((List.range L.length).map V ++ [va])) (hg : (w1.alloc o).grownBy w2 v.ownBlock) : OwnL w2 B v' (L ++ [l]) := by
  have hrow := (own_later h1 hb).alloc o
  refine ⟨fun j => if j = L.length then va else V j, ?_, fun j hj => ?_⟩
  · rw [List.length_append, List.length_singleton, List.range_succ, List.map_append]
    have e : (List.range L.length).map (fun j => if j = L.length then va else V j) = (List.range L.length).map V := List.map_congr_left fun j hj => by
      have := List.mem_range.1 hj
      rw [if_neg (by omega)]
    rw [e]
    simpa using ho
  · rw [List.length_append, List.length_singleton] at hj
    by_cases e : j = L.length
    · subst e
      rw [rowL_snoc]
      simp only [if_true]
      exact ((own_low ha hB).alloc o).kept hg (rows_tags ((own_low ha hB).alloc o) hrow (by decide))
    · rw [rowL_app l (by omega)]
      simp only [if_neg e]
      have hx := (own_later (h2 j (by omega)) hb).alloc o
      exact hx.kept hg (rows_tags hx hrow (by decide))
theorem take_row {L : List (List Int)} {k : Nat} (h : k < L.length) : L.take (k + 1) = L.take k ++ [rowL L k] := by
  rw [List.take_succ_eq_append_getElem h, rowL_in h]
def ListsEnd (w : World) (L : List (List Int)) (e : Ending) (w' : World) : Prop := ∃ A cap, e = .returned (.slice A L.length cap) ∧ L.length ≤ cap ∧ (A = none → cap = 0) ∧ LL w' A L ∧ Below w.heap.size w w'
set_option maxHeartbeats 2000000 in
theorem lists_any (A : Option Addr) (L : List (List Int)) (cap : Nat) (w : World) (hL : LL w A L) (hl : L.length ≤ 5864062014805) :
    Calls Try.prog 10 #[.slice A L.length cap] w (ListsEnd w L) := by
  obtain ⟨i0, hi, hz0, hz1, hz2⟩ := info_parts info_ints
  have HL := Lib.hid hL
  have HF := Lib.hid hL.fit
  clear hL
  go_enter Try.func10, Try.ntmps10
  go_wp2_with fail
  go_loopg [3, 4] (L.length) (fun m s3 s4 wr => ∃ k : Nat, k + m = L.length ∧ s4 = .int .i64 (k : Int) ∧ Hid (OwnL wr w.heap.size s3 (L.take k)) ∧ Hid (Below w.heap.size w wr))
  case atStart => exact ⟨0, by omega, rfl, Lib.hid (by rw [List.take_zero]; exact OwnL.nil _ _), Lib.hid (Below.refl _ _)⟩
  case round =>
    obtain ⟨k, hkm, rfl, HO, HW⟩ := hrel
    have HKM := Lib.hid hkm
    by_cases hk : k < L.length
    · have hkz : (k : Int) < (L.length : Int) := by omega
      obtain ⟨b, off, B, c, rfl, hc, h1, h2, h3, h4, -⟩ := (HL.out.below HW.out).at hk
      have ci := ints_any B (rowL L k) c wr h2 h3 h4
      have HT := Lib.hid (take_row hk)
      have hsz := HW.out.size
      obtain ⟨V, ho1, ho2⟩ := HO.out
      have htl : (L.take k).length = k := by rw [List.length_take]; omega
      have HO1 := Lib.hid ho1
      have HO2 := Lib.hid ho2
      have HTL := Lib.hid htl
      clear hkm h3 h4 ho1 ho2 htl
      generalize rowL L k = l at *
      go_wp2_with fail
      (with_reducible refine ci.mono ?_)
      rintro e w1 ⟨A1, c1, rfl, -, -, -, hown, hb1⟩
      have HA := Lib.hid hown
      have HB1 := Lib.hid hb1
      have hs1 := hb1.size
      clear ci hown hb1
      go_wp2_with (at_builtin; refine wpList_append_own _ rfl _ _ 22 rfl w.heap.size 26 i0 (.slice none 0 0) 1 24 Try.underlying22 hi hz0 hz1 hz2 rfl (by decide) _ _ _ rfl ((own_later HO1.out HB1.out).alloc _) ⟨w1.heap.size, 0, none⟩ 1 1 [.slice A1 l.length c1] rfl rfl (one_cell _ _ _) ?c2 ?c3 ?c4 ?c5 ?_)
      case c2 => intro u hu; simp at hu; subst hu; rfl
      case c3 => have := HTL.out; unfold maxLen; omega
      case c4 => have := HTL.out; omega
      case c5 => rw [alloc_size]; omega
      intro v' w2 hown' hgrow' _
      have HN : Hid (OwnL w2 w.heap.size v' (L.take (k + 1))) := Lib.hid (by rw [HT.out]; exact OwnL.step HO1.out HO2.out hsz HA.out HB1.out (by rw [List.length_take]; exact hown') hgrow')
      have HB2 := Lib.hid (((HW.out.trans (HB1.out.mono hsz)).alloc (Nat.le_trans hsz hs1) _).trans (below_own ((own_later HO1.out HB1.out).alloc _) hgrow' (by rw [alloc_size]; omega)))
      clear hown' hgrow'
      go_wp2_with fail
      go_roundg (L.length - (k + 1))
      case measure => have := HKM.out; omega
      case rel => exact ⟨k + 1, by have := HKM.out; omega, by go_num, HN, HB2⟩
    · have hkz : ¬ (k : Int) < (L.length : Int) := by omega
      have hO := HO.out
      rw [List.take_of_length_le (by omega)] at hO
      obtain ⟨A2, c2, rfl, h1, h2, h3⟩ := hO.ll HF.out
      have HR : Hid (ListsEnd w L (.returned (.slice A2 L.length c2)) wr) := Lib.hid ⟨A2, c2, rfl, h1, h2, h3, HW.out⟩
      clear hkm HO hO h2 h3
      go_wp2_with fail
      go_ret
      exact HR.out
end Go.Proofs.Ytbacphifmbjooaa
