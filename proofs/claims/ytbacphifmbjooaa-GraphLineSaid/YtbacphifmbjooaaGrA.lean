/- The chapter's examples are true. -/
import Derived.Test.YtbacphifmbjooaaGrO
namespace Go.Proofs.Ytbacphifmbjooaa
open Go.RowKit

/-- A list that is written out in the text. -/
theorem lit_row (w : World) (l : List Int) (hz : ∀ z ∈ l, -9223372036854775808 ≤ z ∧ z ≤ 9223372036854775807) (hl : l.length ≤ 1000) : RowV (w.alloc (.cells (zs l).toArray 3)) (.slice (some ⟨w.heap.size, 0, none⟩) l.length l.length) l := by
  refine ⟨_, _, rfl, Nat.le_refl _, by omega, fun h0 => ⟨_, 0, rfl, fun j hj => ?_⟩, (fun h => by cases h), hz⟩
  rw [Nat.zero_add, cell_of_row _ _ j _ _ _ (heap_alloc_new w _), List.getElem?_toArray]
  unfold zs
  rw [List.getElem?_map, List.getElem?_eq_getElem hj, getD_at hj]
  rfl
theorem lit_is {w : World} {B : Option Addr} {l : List Int} {n c : Nat} (h : RowV w (.slice B n c) l) : Is w B l := by
  obtain ⟨B', c', e, _, _, h3, _⟩ := h
  injection e with e1 _ _
  rw [e1]
  exact h3
theorem lit_rows (w : World) (L : List (List Int)) (Vs : List Value) (hl : Vs.length = L.length) (h : ∀ j, j < L.length → RowV w (Vs.getD j undef) (rowL L j)) : LL (w.alloc (.cells Vs.toArray 26)) (some ⟨w.heap.size, 0, none⟩) L := by
  refine ⟨fun j => Vs.getD j undef, fun h0 => ⟨_, 0, rfl, fun j hj => ?_⟩, fun j hj => (h j hj).below (below_alloc _ _)⟩
  rw [Nat.zero_add, cell_of_row _ _ j _ _ _ (heap_alloc_new w _), List.getElem?_toArray]
  simp only [List.getD_eq_getElem?_getD]
  rw [List.getElem?_eq_getElem (by omega)]
  rfl
abbrev ex3 (w : World) : World := (((w.alloc (.cells #[.int .i64 2] 3)).alloc (.cells #[] 3)).alloc (.cells #[.int .i64 1] 3)).alloc (.cells #[.slice (some ⟨w.heap.size, 0, none⟩) 1 1, .slice (some ⟨w.heap.size + 1, 0, none⟩) 0 0, .slice (some ⟨w.heap.size + 1 + 1, 0, none⟩) 1 1] 26)
abbrev ex2 (w : World) : World := ((w.alloc (.cells #[.int .i64 1] 3)).alloc (.cells #[.int .i64 0] 3)).alloc (.cells #[.slice (some ⟨w.heap.size, 0, none⟩) 1 1, .slice (some ⟨w.heap.size + 1, 0, none⟩) 1 1] 26)
theorem ll3 (w : World) : LL (ex3 w) (some ⟨w.heap.size + 1 + 1 + 1, 0, none⟩) [[2], [], [1]] := by
  have r0 := (((lit_row w [2] (by decide) (by decide)).below (below_alloc _ (.cells #[] 3))).below (below_alloc _ (.cells #[.int .i64 1] 3)))
  have r1 := (lit_row (w.alloc (.cells #[.int .i64 2] 3)) [] (by decide) (by decide)).below (below_alloc _ (.cells #[.int .i64 1] 3))
  have r2 := lit_row ((w.alloc (.cells #[.int .i64 2] 3)).alloc (.cells #[] 3)) [1] (by decide) (by decide)
  rw [alloc_size] at r1
  rw [alloc_size, alloc_size] at r2
  have h := lit_rows (((w.alloc (.cells #[.int .i64 2] 3)).alloc (.cells #[] 3)).alloc (.cells #[.int .i64 1] 3)) [[2], [], [1]] [.slice (some ⟨w.heap.size, 0, none⟩) 1 1, .slice (some ⟨w.heap.size + 1, 0, none⟩) 0 0, .slice (some ⟨w.heap.size + 1 + 1, 0, none⟩) 1 1] rfl (fun j hj => by
    match j, hj with
    | 0, _ => exact r0
    | 1, _ => exact r1
    | 2, _ => exact r2)
  rw [alloc_size, alloc_size, alloc_size] at h
  exact h
theorem ll2 (w : World) : LL (ex2 w) (some ⟨w.heap.size + 1 + 1, 0, none⟩) [[1], [0]] := by
  have r0 := (lit_row w [1] (by decide) (by decide)).below (below_alloc _ (.cells #[.int .i64 0] 3))
  have r1 := lit_row (w.alloc (.cells #[.int .i64 1] 3)) [0] (by decide) (by decide)
  rw [alloc_size] at r1
  have h := lit_rows ((w.alloc (.cells #[.int .i64 1] 3)).alloc (.cells #[.int .i64 0] 3)) [[1], [0]] [.slice (some ⟨w.heap.size, 0, none⟩) 1 1, .slice (some ⟨w.heap.size + 1, 0, none⟩) 1 1] rfl (fun j hj => by
    match j, hj with
    | 0, _ => exact r0
    | 1, _ => exact r1)
  rw [alloc_size, alloc_size] at h
  exact h
theorem ex_a : ordI 3 [[2], [], [1]] = [1, 2, 0] := by decide +kernel
theorem ex_b : ordIB 3 [[2], [], [1]] = true := by decide +kernel
theorem ex_c : ordI 2 [[1], [0]] = [] := by decide +kernel
theorem ex_d : ordIB 2 [[1], [0]] = false := by decide +kernel
theorem ex_e : stuckI 2 [[1], [0]] = [0, 1] := by decide +kernel
set_option maxHeartbeats 4000000 in
theorem awake_any (w : World) : Calls Try.prog 9 #[] w fun e w' => e = .returned (.bool true) ∧ Below w.heap.size w w' := by
  have c1 : Calls Try.prog 11 #[.int .i64 3, .slice (some ⟨w.heap.size + 1 + 1 + 1, 0, none⟩) 3 3] (ex3 w) (TwoEnd (ex3 w) [1, 2, 0] true) := by
    have := order_any 3 _ _ 3 (ex3 w) (ll3 w)
    rw [ex_a, ex_b] at this
    exact this
  have c2 : ∀ w : World, Calls Try.prog 11 #[.int .i64 2, .slice (some ⟨w.heap.size + 1 + 1, 0, none⟩) 2 2] (ex2 w) (TwoEnd (ex2 w) [] false) := fun w => by
    have := order_any 2 _ _ 2 (ex2 w) (ll2 w)
    rw [ex_c, ex_d] at this
    exact this
  have c3 : ∀ w : World, Calls Try.prog 14 #[.int .i64 2, .slice (some ⟨w.heap.size + 1 + 1, 0, none⟩) 2 2] (ex2 w) (OneEnd (ex2 w) [0, 1]) := fun w => by
    have := stuck_any 2 _ _ 2 (ex2 w) (ll2 w)
    rw [ex_e] at this
    exact this
  have c4 : ∀ (w : World) (A : Option Addr) (c : Nat), Is w A [1, 2, 0] → Calls Try.prog 13 #[.slice A 3 c, .slice (some ⟨w.heap.size, 0, none⟩) 3 3] (w.alloc (.cells #[.int .i64 1, .int .i64 2, .int .i64 0] 3)) fun e w' => e = .returned (.bool true) ∧ Below (w.heap.size + 1) (w.alloc (.cells #[.int .i64 1, .int .i64 2, .int .i64 0] 3)) w' := fun w A c h => by
    have := same_any A (some ⟨w.heap.size, 0, none⟩) [1, 2, 0] [1, 2, 0] c 3 (w.alloc (.cells (zs [1, 2, 0]).toArray 3)) (by decide) (h.below (below_alloc _ _)) (lit_is (lit_row w [1, 2, 0] (by decide) (by decide)))
    rw [alloc_size] at this
    exact this
  have c5 : ∀ (w : World) (A : Option Addr) (c : Nat), Is w A [0, 1] → Calls Try.prog 13 #[.slice A 2 c, .slice (some ⟨w.heap.size, 0, none⟩) 2 2] (w.alloc (.cells #[.int .i64 0, .int .i64 1] 3)) fun e w' => e = .returned (.bool true) ∧ Below (w.heap.size + 1) (w.alloc (.cells #[.int .i64 0, .int .i64 1] 3)) w' := fun w A c h => by
    have := same_any A (some ⟨w.heap.size, 0, none⟩) [0, 1] [0, 1] c 2 (w.alloc (.cells (zs [0, 1]).toArray 3)) (by decide) (h.below (below_alloc _ _)) (lit_is (lit_row w [0, 1] (by decide) (by decide)))
    rw [alloc_size] at this
    exact this
  have b2 : ∀ w : World, Below w.heap.size w (ex2 w) := fun w => (((Below.refl _ w).alloc (Nat.le_refl _) _).alloc (by simp) _).alloc (by simp; omega) _
  have b3 : Below w.heap.size w (ex3 w) := ((((Below.refl _ w).alloc (Nat.le_refl _) _).alloc (by simp) _).alloc (by simp; omega) _).alloc (by simp; omega) _
  go_enter Try.func9, Try.ntmps9
  go_wp2_with fail
  (with_reducible refine c1.mono ?_)
  rintro e w1 ⟨A1, k1, rfl, -, h1, hb1⟩
  have H1 := Lib.hid h1
  have HB1 := Lib.hid (b3.trans (hb1.mono b3.size))
  clear c1 h1 hb1 b3
  go_wp2_with fail
  (with_reducible refine (c2 w1).mono ?_)
  rintro e w2 ⟨A2, k2, rfl, -, -, hb2⟩
  have hb12 : Below w1.heap.size w1 w2 := (b2 w1).trans (hb2.mono (b2 w1).size)
  have HB2 := Lib.hid (HB1.out.trans (hb12.mono HB1.out.size))
  have c4' := c4 w2 A1 k1 (H1.out.below hb12)
  clear c2 c4 hb2 hb12
  go_wp2_with fail
  (with_reducible refine c4'.mono ?_)
  rintro e w3 ⟨rfl, hb3⟩
  have hb23 : Below w2.heap.size w2 w3 := (below_alloc w2 _).trans (hb3.mono (Nat.le_succ _))
  have HB3 := Lib.hid (HB2.out.trans (hb23.mono HB2.out.size))
  clear c4' hb3 hb23
  go_wp2_with fail
  (with_reducible refine (c3 w3).mono ?_)
  rintro e w4 ⟨A4, k4, rfl, -, -, h4, hb4⟩
  have hb34 : Below w3.heap.size w3 w4 := (b2 w3).trans (hb4.mono (b2 w3).size)
  have HB4 := Lib.hid (HB3.out.trans (hb34.mono HB3.out.size))
  have c5' := c5 w4 A4 k4 h4
  clear c3 c5 b2 hb4 hb34 h4
  go_wp2_with fail
  (with_reducible refine c5'.mono ?_)
  rintro e w5 ⟨rfl, hb5⟩
  have HB5 := Lib.hid (HB4.out.trans (((below_alloc w4 _).trans (hb5.mono (Nat.le_succ _))).mono HB4.out.size))
  clear c5' hb5
  go_wp2_with fail
  go_ret
  exact ⟨rfl, HB5.out⟩
end Go.Proofs.Ytbacphifmbjooaa
