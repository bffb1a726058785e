/- EvX -/
import Derived.Test.YtjmfpgalepahoaaGreatDoorSMEvD
namespace Go.Proofs.YtjmfpgalepahoaaGreatDoor
section
set_option maxHeartbeats 4000000
set_option maxRecDepth 100000
open Go.RowKit
theorem compared_any (A B : Option Addr) (l c m d : Nat) (g o len cap : Nat) (opx nx : Int) (sx : ByteArray) (kvx : Value) (opy ny : Int) (sy : ByteArray) (kvy : Value) (op : Int) (a b : Va) (w : World) (ho : 12 ≤ op ∧ op ≤ 15) (ha : a.ok) (hb : b.ok) (hT : Tabs w) (hlen : 1 < len) (hcap : len ≤ cap)
    (x0 : w.cell? ⟨g, o, none⟩ = some (.int .i64 opx)) (x1 : w.cell? ⟨g, o + 1, none⟩ = some (.int .i64 nx)) (x2 : w.cell? ⟨g, o + 2, none⟩ = some (.string sx)) (x3 : w.cell? ⟨g, o + 3, none⟩ = some kvx)
    (y0 : w.cell? ⟨g, o + 4, none⟩ = some (.int .i64 opy)) (y1 : w.cell? ⟨g, o + 4 + 1, none⟩ = some (.int .i64 ny)) (y2 : w.cell? ⟨g, o + 4 + 2, none⟩ = some (.string sy)) (y3 : w.cell? ⟨g, o + 4 + 3, none⟩ = some kvy)
    (kx : ∀ w', Below w.heap.size w w' → Calls Tryz.prog 52 #[KE A l c B m d, .agg #[.int .i64 opx, .int .i64 nx, .string sx, kvx]] w' (Comes w' a))
    (ky : ∀ w', Below w.heap.size w w' → Calls Tryz.prog 52 #[KE A l c B m d, .agg #[.int .i64 opy, .int .i64 ny, .string sy, kvy]] w' (Comes w' b)) :
    Calls Tryz.prog 100 #[KE A l c B m d, .int .i64 op, .slice (some ⟨g, o, none⟩) len cap] w (Comes w (cmpV op a b)) := by
  have hmf := mkfunc
  have hlz : (0 : Int) < (len : Int) := by omega
  have hl0 : 0 < len := by omega
  have hl1 : (1 : Int) ≤ (len : Int) := by omega
  have hcz : ¬ cap = 1 := by omega
  have hkz : 1 ≤ len := by omega
  have hgl : g < w.heap.size := World.block_lt_of_cell? w ⟨g, o, none⟩ x0
  have hb1 := below_alloc w (.cells #[.slice A l c, .slice B m d] 88)
  have hs1 := alloc_size w (.cells #[.slice A l c, .slice B m d] 88)
  have k0 : (w.alloc (.cells #[.slice A l c, .slice B m d] 88)).cell? ⟨w.heap.size, 0, none⟩ = some (.slice A l c) := by rw [cells_of_alloc]; rfl
  have k1 : (w.alloc (.cells #[.slice A l c, .slice B m d] 88)).cell? ⟨w.heap.size, 1, none⟩ = some (.slice B m d) := by rw [cells_of_alloc]; rfl
  obtain ⟨w1, hw1⟩ : ∃ w1, w.alloc (.cells #[.slice A l c, .slice B m d] 88) = w1 := ⟨_, rfl⟩
  rw [hw1] at hb1 hs1 k0 k1
  have hb2 := below_alloc w1 (.cells #[.int .i64 op] 3)
  have hs2 := alloc_size w1 (.cells #[.int .i64 op] 3)
  have p0 : (w1.alloc (.cells #[.int .i64 op] 3)).cell? ⟨w1.heap.size, 0, none⟩ = some (.int .i64 op) := by rw [cells_of_alloc]; rfl
  obtain ⟨w2, hw2⟩ : ∃ w2, w1.alloc (.cells #[.int .i64 op] 3) = w2 := ⟨_, rfl⟩
  rw [hw2] at hb2 hs2 p0
  have hB := below_to hb1 hb2
  have HB := Lib.hid hB
  have k0 := (hb2.cell (p := ⟨w.heap.size, 0, none⟩) (show w.heap.size < w1.heap.size by omega)).trans k0
  have k1 := (hb2.cell (p := ⟨w.heap.size, 1, none⟩) (show w.heap.size < w1.heap.size by omega)).trans k1
  have HT := Lib.hid (hT.later hB)
  have HX := Lib.hid kx
  have HY := Lib.hid ky
  have g0 : w.heap.size < w2.heap.size := by omega
  have g1 : w1.heap.size < w2.heap.size := by omega
  have gg : g < w2.heap.size := by omega
  have x0 := (hB.cell (p := ⟨g, o, none⟩) hgl).trans x0
  have x1 := (hB.cell (p := ⟨g, o + 1, none⟩) hgl).trans x1
  have x2 := (hB.cell (p := ⟨g, o + 2, none⟩) hgl).trans x2
  have x3 := (hB.cell (p := ⟨g, o + 3, none⟩) hgl).trans x3
  have y0 := (hB.cell (p := ⟨g, o + 4, none⟩) hgl).trans y0
  have y1 := (hB.cell (p := ⟨g, o + 4 + 1, none⟩) hgl).trans y1
  have y2 := (hB.cell (p := ⟨g, o + 4 + 2, none⟩) hgl).trans y2
  have y3 := (hB.cell (p := ⟨g, o + 4 + 3, none⟩) hgl).trans y3
  have cK : ∀ w', Below w2.heap.size w2 w' → Calls Tryz.prog 52 #[KE A l c B m d, .agg #[.int .i64 opx, .int .i64 nx, .string sx, kvx]] w' (Comes w' a) := fun w' hw => HX.out w' (below_to HB.out hw)
  clear hT hgl hb1 hb2 hs1 hs2 kx ky hB
  go_enter Tryz.func100, Tryz.ntmps100
  go_wp2_with fail
  refine wp_region_held_drew (S := fun w' => Below w2.heap.size w2 w') (by kernel_rfl) ((Below.refl _ _).drew) (fun hHeld => ?_)
  refine held_take (i := 0) (v := ?_) rfl (by kernel_rfl) (by kernel_rfl) (by kernel_rfl) (fun _ _ _ h => h) (by rfl) hHeld ?_ ?_
  rotate_left
  · intro wz hSz; have q0 := (hSz.cell (p := ⟨w.heap.size, 0, none⟩) g0).trans k0; have q1 := (hSz.cell (p := ⟨w.heap.size, 1, none⟩) g0).trans k1; go_simp; try with_reducible rfl
  simp only [Act.put, List.setIfInBounds_toArray, List.set_cons_zero, List.set_cons_succ]
  refine held_take (i := 1) (v := ?_) rfl (by kernel_rfl) (by kernel_rfl) (by kernel_rfl) (fun _ _ _ h => h) (by rfl) hHeld ?_ ?_
  rotate_left
  · intro wz hSz; go_simp; try with_reducible rfl
  simp only [Act.put, List.setIfInBounds_toArray, List.set_cons_zero, List.set_cons_succ]
  refine held_take (i := 2) (v := ?_) rfl (by kernel_rfl) (by kernel_rfl) (by kernel_rfl) (fun _ _ _ h => h) (by rfl) hHeld ?_ ?_
  rotate_left
  · intro wz hSz; go_simp; try with_reducible rfl
  simp only [Act.put, List.setIfInBounds_toArray, List.set_cons_zero, List.set_cons_succ]
  refine held_take (i := 3) (v := ?_) rfl (by kernel_rfl) (by kernel_rfl) (by kernel_rfl) (fun _ _ _ h => h) (by rfl) hHeld ?_ ?_
  rotate_left
  · intro wz hSz; have q0 := (hSz.cell (p := ⟨g, o, none⟩) gg).trans x0; have q1 := (hSz.cell (p := ⟨g, o + 1, none⟩) gg).trans x1; have q2 := (hSz.cell (p := ⟨g, o + 2, none⟩) gg).trans x2; have q3 := (hSz.cell (p := ⟨g, o + 3, none⟩) gg).trans x3; go_simp; try with_reducible rfl
  simp only [Act.put, List.setIfInBounds_toArray, List.set_cons_zero, List.set_cons_succ]
  refine held_call (i := 4) (by kernel_rfl) rfl (by rfl) (by go_simp; try with_reducible rfl) (cK _ hHeld) ?_
  rintro e wy ⟨rfl, hy⟩
  refine ⟨_, rfl, below_to hHeld hy, ?_⟩
  replace hHeld := below_to hHeld hy
  simp only [Act.put, List.setIfInBounds_toArray, List.set_cons_zero, List.set_cons_succ]
  refine wpAnyH_done (by kernel_rfl) ?_ _
  have HB2 := Lib.hid (below_to HB.out hHeld)
  have HT2 := Lib.hid (HT.out.later hHeld)
  have k0 := (hHeld.cell (p := ⟨w.heap.size, 0, none⟩) g0).trans k0
  have k1 := (hHeld.cell (p := ⟨w.heap.size, 1, none⟩) g0).trans k1
  have p0 := (hHeld.cell (p := ⟨w1.heap.size, 0, none⟩) g1).trans p0
  have y0 := (hHeld.cell (p := ⟨g, o + 4, none⟩) gg).trans y0
  have y1 := (hHeld.cell (p := ⟨g, o + 4 + 1, none⟩) gg).trans y1
  have y2 := (hHeld.cell (p := ⟨g, o + 4 + 2, none⟩) gg).trans y2
  have y3 := (hHeld.cell (p := ⟨g, o + 4 + 3, none⟩) gg).trans y3
  have gs2 := hHeld.size
  have g0 : w.heap.size < wy.heap.size := by omega
  have g1 : w1.heap.size < wy.heap.size := by omega
  have gg : g < wy.heap.size := by omega
  clear cK hy hHeld gs2 hw1 hw2 x0 x1 x2 x3

  rcases bx_cases ha with ⟨hk, hbx⟩ | ⟨hk, hbx⟩ | ⟨hk, hbx⟩ | ⟨hk, hbx⟩ | ⟨hk, hbx⟩
  · skip
    have HV := Lib.hid (show cmpV op a b = wantV 1 b (truV (holdB op (decide (a.n < b.n)) (decide (a.n = b.n)))) by unfold cmpV; rw [if_pos hk])
    generalize bxV a = X at *
    subst hbx
    have h1 := fun w => asN_yes w (.int .i64 a.n)
    have hb4 := below_alloc wy (.cells #[.int .i64 a.n] 2)
    have hs4 := alloc_size wy (.cells #[.int .i64 a.n] 2)
    have a0 : (wy.alloc (.cells #[.int .i64 a.n] 2)).cell? ⟨wy.heap.size, 0, none⟩ = some (.int .i64 a.n) := by rw [cells_of_alloc]; rfl
    obtain ⟨w4, hw4⟩ : ∃ w4, wy.alloc (.cells #[.int .i64 a.n] 2) = w4 := ⟨_, rfl⟩
    rw [hw4] at hb4 hs4 a0
    have HB4 := Lib.hid (below_to HB2.out hb4)
    have HT4 := Lib.hid (HT2.out.later hb4)
    have k0 := (hb4.cell (p := ⟨w.heap.size, 0, none⟩) g0).trans k0
    have k1 := (hb4.cell (p := ⟨w.heap.size, 1, none⟩) g0).trans k1
    have p0 := (hb4.cell (p := ⟨w1.heap.size, 0, none⟩) g1).trans p0
    have y0 := (hb4.cell (p := ⟨g, o + 4, none⟩) gg).trans y0
    have y1 := (hb4.cell (p := ⟨g, o + 4 + 1, none⟩) gg).trans y1
    have y2 := (hb4.cell (p := ⟨g, o + 4 + 2, none⟩) gg).trans y2
    have y3 := (hb4.cell (p := ⟨g, o + 4 + 3, none⟩) gg).trans y3
    have ga : wy.heap.size < w4.heap.size := by omega
    have g0 : w.heap.size < w4.heap.size := by omega
    have g1 : w1.heap.size < w4.heap.size := by omega
    have gg : g < w4.heap.size := by omega
    have hen : ∀ xs w, (callFunc 171 xs).run Tryz.prog w = .ok (.enter 171 xs) w := fun _ _ => by kernel_rfl
    have c1 : ∀ w', Below w4.heap.size w4 w' → Calls Tryz.prog 92 #[KE A l c B m d, .slice (some ⟨g, o + 4, none⟩) (len - 1) (cap - 1), .func (.func 171) #[] #[.pointer (some ⟨w1.heap.size, 0, none⟩), .pointer (some ⟨wy.heap.size, 0, none⟩)]] w' (Comes w' (wantV 1 b (truV (holdB op (decide (a.n < b.n)) (decide (a.n = b.n)))))) := fun w' hw =>
      one_num A B l c m d g (o + 4) (len - 1) (cap - 1) opy ny sy kvy b (truV (holdB op (decide (a.n < b.n)) (decide (a.n = b.n)))) 171 hen _ w' hb (HT4.out.later hw) (by omega) ((hw.cell (p := ⟨g, o + 4, none⟩) gg).trans y0) ((hw.cell (p := ⟨g, o + 4 + 1, none⟩) gg).trans y1) ((hw.cell (p := ⟨g, o + 4 + 2, none⟩) gg).trans y2) ((hw.cell (p := ⟨g, o + 4 + 3, none⟩) gg).trans y3)
        (fun w2 hw2 => HY.out w2 (below_to HB4.out (below_to hw hw2)))
        (fun hkb w2 hw2 => do_cmpi op a.n b.n w1.heap.size wy.heap.size w2 ho (((below_to hw hw2).cell (p := ⟨w1.heap.size, 0, none⟩) g1).trans p0) (((below_to hw hw2).cell (p := ⟨wy.heap.size, 0, none⟩) ga).trans a0))
    clear hb4 hs4 hen
    generalize (wantV 1 b (truV (holdB op (decide (a.n < b.n)) (decide (a.n = b.n))))) = V at *
    go_wp2_with fail
    refine wp_region_held_drew (S := fun w' => Below w4.heap.size w4 w') (by kernel_rfl) ((Below.refl _ _).drew) (fun hHeld => ?_)
    refine held_take (i := 0) (v := ?_) rfl (by kernel_rfl) (by kernel_rfl) (by kernel_rfl) (fun _ _ _ h => h) (by rfl) hHeld ?_ ?_
    rotate_left
    · intro wz hSz; have q0 := (hSz.cell (p := ⟨w.heap.size, 0, none⟩) g0).trans k0; have q1 := (hSz.cell (p := ⟨w.heap.size, 1, none⟩) g0).trans k1; go_simp; try with_reducible rfl
    simp only [Act.put, List.setIfInBounds_toArray, List.set_cons_zero, List.set_cons_succ]
    refine held_take (i := 1) (v := ?_) rfl (by kernel_rfl) (by kernel_rfl) (by kernel_rfl) (fun _ _ _ h => h) (by rfl) hHeld ?_ ?_
    rotate_left
    · intro wz hSz; go_simp; try with_reducible rfl
    simp only [Act.put, List.setIfInBounds_toArray, List.set_cons_zero, List.set_cons_succ]
    refine held_take (i := 2) (v := ?_) rfl (by kernel_rfl) (by kernel_rfl) (by kernel_rfl) (fun _ _ _ h => h) (by rfl) hHeld ?_ ?_
    rotate_left
    · intro wz hSz; go_simp; try with_reducible rfl
    simp only [Act.put, List.setIfInBounds_toArray, List.set_cons_zero, List.set_cons_succ]
    refine held_take (i := 3) (v := ?_) rfl (by kernel_rfl) (by kernel_rfl) (by kernel_rfl) (fun _ _ _ h => h) (by rfl) hHeld ?_ ?_
    rotate_left
    · intro wz hSz; go_simp; try with_reducible rfl
    simp only [Act.put, List.setIfInBounds_toArray, List.set_cons_zero, List.set_cons_succ]
    refine held_call (i := 4) (by kernel_rfl) rfl (by rfl) (by go_simp; try with_reducible rfl) (c1 _ hHeld) ?_
    rintro e wy ⟨rfl, hy4⟩
    refine ⟨_, rfl, below_to hHeld hy4, ?_⟩
    replace hHeld := below_to hHeld hy4
    simp only [Act.put, List.setIfInBounds_toArray, List.set_cons_zero, List.set_cons_succ]
    refine held_take (i := 5) (v := ?_) rfl (by kernel_rfl) (by kernel_rfl) (by kernel_rfl) (fun _ _ _ h => h) (by rfl) hHeld ?_ ?_
    rotate_left
    · intro wz hSz; go_simp; try with_reducible rfl
    simp only [Act.put, List.setIfInBounds_toArray, List.set_cons_zero, List.set_cons_succ]
    refine wpAnyH_done (by kernel_rfl) ?_ _
    have HB5 := Lib.hid (below_to HB4.out hHeld)
    go_wp2_with fail
    go_ret
    exact ⟨by rw [HV.out]; rfl, HB5.out⟩
  · by_cases hlt : op = 14 ∨ op = 15
    · have HV := Lib.hid (show cmpV op a b = badV 3 by unfold cmpV; rw [if_neg (by omega), if_neg (by omega), if_pos hk, if_pos hlt])
      generalize bxV a = X at *
      subst hbx
      have h1 := fun w => asN_no w 4 (.bool (a.n == 1)) (by decide)
      have h2 := fun w => asS_no w 4 (.bool (a.n == 1)) (by decide)
      have h3 := fun w => asB_yes w (.bool (a.n == 1))
      have hb4 := below_alloc wy (.cells #[.bool (a.n == 1)] 4)
      have p0 := (hb4.cell (p := ⟨w1.heap.size, 0, none⟩) g1).trans p0
      have HB4 := Lib.hid (below_to HB2.out hb4)
      have cB := bad_any 3 (by decide) (by decide) _ (HT2.out.later hb4)
      obtain ⟨w4, hw4⟩ : ∃ w4, wy.alloc (.cells #[.bool (a.n == 1)] 4) = w4 := ⟨_, rfl⟩
      rw [hw4] at p0 HB4 cB
      clear hb4
      rcases hlt with rfl | rfl
      all_goals
        go_wp2_with fail
        refine cB.mono ?_
        rintro e w5 ⟨rfl, b5⟩
        go_wp2_with fail
        go_ret
        exact ⟨by rw [HV.out]; rfl, below_to HB4.out b5⟩
    · skip
      have HV := Lib.hid (show cmpV op a b = wantV 2 b (truV (holdB op false (decide (a.n = b.n)))) by unfold cmpV; rw [if_neg (by omega), if_neg (by omega), if_pos hk, if_neg (by omega)])
      generalize bxV a = X at *
      subst hbx
      have h1 := fun w => asN_no w 4 (.bool (a.n == 1)) (by decide)
      have h2 := fun w => asS_no w 4 (.bool (a.n == 1)) (by decide)
      have h3 := fun w => asB_yes w (.bool (a.n == 1))
      have hb4 := below_alloc wy (.cells #[.bool (a.n == 1)] 4)
      have hs4 := alloc_size wy (.cells #[.bool (a.n == 1)] 4)
      have a0 : (wy.alloc (.cells #[.bool (a.n == 1)] 4)).cell? ⟨wy.heap.size, 0, none⟩ = some (.bool (a.n == 1)) := by rw [cells_of_alloc]; rfl
      obtain ⟨w4, hw4⟩ : ∃ w4, wy.alloc (.cells #[.bool (a.n == 1)] 4) = w4 := ⟨_, rfl⟩
      rw [hw4] at hb4 hs4 a0
      have HB4 := Lib.hid (below_to HB2.out hb4)
      have HT4 := Lib.hid (HT2.out.later hb4)
      have k0 := (hb4.cell (p := ⟨w.heap.size, 0, none⟩) g0).trans k0
      have k1 := (hb4.cell (p := ⟨w.heap.size, 1, none⟩) g0).trans k1
      have p0 := (hb4.cell (p := ⟨w1.heap.size, 0, none⟩) g1).trans p0
      have y0 := (hb4.cell (p := ⟨g, o + 4, none⟩) gg).trans y0
      have y1 := (hb4.cell (p := ⟨g, o + 4 + 1, none⟩) gg).trans y1
      have y2 := (hb4.cell (p := ⟨g, o + 4 + 2, none⟩) gg).trans y2
      have y3 := (hb4.cell (p := ⟨g, o + 4 + 3, none⟩) gg).trans y3
      have ga : wy.heap.size < w4.heap.size := by omega
      have g0 : w.heap.size < w4.heap.size := by omega
      have g1 : w1.heap.size < w4.heap.size := by omega
      have gg : g < w4.heap.size := by omega
      have hen : ∀ xs w, (callFunc 176 xs).run Tryz.prog w = .ok (.enter 176 xs) w := fun _ _ => by kernel_rfl
      have c1 : ∀ w', Below w4.heap.size w4 w' → Calls Tryz.prog 97 #[KE A l c B m d, .slice (some ⟨g, o + 4, none⟩) (len - 1) (cap - 1), .func (.func 176) #[] #[.pointer (some ⟨wy.heap.size, 0, none⟩), .pointer (some ⟨w1.heap.size, 0, none⟩)]] w' (Comes w' (wantV 2 b (truV (holdB op false (decide (a.n = b.n)))))) := fun w' hw =>
        one_bool A B l c m d g (o + 4) (len - 1) (cap - 1) opy ny sy kvy b (truV (holdB op false (decide (a.n = b.n)))) 176 hen _ w' hb (HT4.out.later hw) (by omega) ((hw.cell (p := ⟨g, o + 4, none⟩) gg).trans y0) ((hw.cell (p := ⟨g, o + 4 + 1, none⟩) gg).trans y1) ((hw.cell (p := ⟨g, o + 4 + 2, none⟩) gg).trans y2) ((hw.cell (p := ⟨g, o + 4 + 3, none⟩) gg).trans y3)
          (fun w2 hw2 => HY.out w2 (below_to HB4.out (below_to hw hw2)))
          (fun hkb w2 hw2 => do_cmpb op a.n b.n w1.heap.size wy.heap.size w2 (by omega) (ha.truth hk).1 (hb.truth hkb).1 (((below_to hw hw2).cell (p := ⟨w1.heap.size, 0, none⟩) g1).trans p0) (((below_to hw hw2).cell (p := ⟨wy.heap.size, 0, none⟩) ga).trans a0))
      clear hb4 hs4 hen
      generalize (wantV 2 b (truV (holdB op false (decide (a.n = b.n))))) = V at *
      rcases (show op = 12 ∨ op = 13 by omega) with rfl | rfl
      all_goals
        go_wp2_with fail
        refine wp_region_held_drew (S := fun w' => Below w4.heap.size w4 w') (by kernel_rfl) ((Below.refl _ _).drew) (fun hHeld => ?_)
        refine held_take (i := 0) (v := ?_) rfl (by kernel_rfl) (by kernel_rfl) (by kernel_rfl) (fun _ _ _ h => h) (by rfl) hHeld ?_ ?_
        rotate_left
        · intro wz hSz; have q0 := (hSz.cell (p := ⟨w.heap.size, 0, none⟩) g0).trans k0; have q1 := (hSz.cell (p := ⟨w.heap.size, 1, none⟩) g0).trans k1; go_simp; try with_reducible rfl
        simp only [Act.put, List.setIfInBounds_toArray, List.set_cons_zero, List.set_cons_succ]
        refine held_take (i := 1) (v := ?_) rfl (by kernel_rfl) (by kernel_rfl) (by kernel_rfl) (fun _ _ _ h => h) (by rfl) hHeld ?_ ?_
        rotate_left
        · intro wz hSz; go_simp; try with_reducible rfl
        simp only [Act.put, List.setIfInBounds_toArray, List.set_cons_zero, List.set_cons_succ]
        refine held_take (i := 2) (v := ?_) rfl (by kernel_rfl) (by kernel_rfl) (by kernel_rfl) (fun _ _ _ h => h) (by rfl) hHeld ?_ ?_
        rotate_left
        · intro wz hSz; go_simp; try with_reducible rfl
        simp only [Act.put, List.setIfInBounds_toArray, List.set_cons_zero, List.set_cons_succ]
        refine held_take (i := 3) (v := ?_) rfl (by kernel_rfl) (by kernel_rfl) (by kernel_rfl) (fun _ _ _ h => h) (by rfl) hHeld ?_ ?_
        rotate_left
        · intro wz hSz; go_simp; try with_reducible rfl
        simp only [Act.put, List.setIfInBounds_toArray, List.set_cons_zero, List.set_cons_succ]
        refine held_call (i := 4) (by kernel_rfl) rfl (by rfl) (by go_simp; try with_reducible rfl) (c1 _ hHeld) ?_
        rintro e wy ⟨rfl, hy4⟩
        refine ⟨_, rfl, below_to hHeld hy4, ?_⟩
        replace hHeld := below_to hHeld hy4
        simp only [Act.put, List.setIfInBounds_toArray, List.set_cons_zero, List.set_cons_succ]
        refine held_take (i := 5) (v := ?_) rfl (by kernel_rfl) (by kernel_rfl) (by kernel_rfl) (fun _ _ _ h => h) (by rfl) hHeld ?_ ?_
        rotate_left
        · intro wz hSz; go_simp; try with_reducible rfl
        simp only [Act.put, List.setIfInBounds_toArray, List.set_cons_zero, List.set_cons_succ]
        refine wpAnyH_done (by kernel_rfl) ?_ _
        have HB5 := Lib.hid (below_to HB4.out hHeld)
        go_wp2_with fail
        go_ret
        exact ⟨by rw [HV.out]; rfl, HB5.out⟩
  · skip
    have HV := Lib.hid (show cmpV op a b = wantV 3 b (truV (holdB op (decide (a.s < b.s)) (decide (a.s = b.s)))) by unfold cmpV; rw [if_neg (by omega), if_pos hk])
    generalize bxV a = X at *
    subst hbx
    have h1 := fun w => asN_no w 9 (.string ⟨a.s.toArray⟩) (by decide)
    have h2 := fun w => asS_yes w (.string ⟨a.s.toArray⟩)
    have hb4 := below_alloc wy (.cells #[.string ⟨a.s.toArray⟩] 9)
    have hs4 := alloc_size wy (.cells #[.string ⟨a.s.toArray⟩] 9)
    have a0 : (wy.alloc (.cells #[.string ⟨a.s.toArray⟩] 9)).cell? ⟨wy.heap.size, 0, none⟩ = some (.string ⟨a.s.toArray⟩) := by rw [cells_of_alloc]; rfl
    obtain ⟨w4, hw4⟩ : ∃ w4, wy.alloc (.cells #[.string ⟨a.s.toArray⟩] 9) = w4 := ⟨_, rfl⟩
    rw [hw4] at hb4 hs4 a0
    have HB4 := Lib.hid (below_to HB2.out hb4)
    have HT4 := Lib.hid (HT2.out.later hb4)
    have k0 := (hb4.cell (p := ⟨w.heap.size, 0, none⟩) g0).trans k0
    have k1 := (hb4.cell (p := ⟨w.heap.size, 1, none⟩) g0).trans k1
    have p0 := (hb4.cell (p := ⟨w1.heap.size, 0, none⟩) g1).trans p0
    have y0 := (hb4.cell (p := ⟨g, o + 4, none⟩) gg).trans y0
    have y1 := (hb4.cell (p := ⟨g, o + 4 + 1, none⟩) gg).trans y1
    have y2 := (hb4.cell (p := ⟨g, o + 4 + 2, none⟩) gg).trans y2
    have y3 := (hb4.cell (p := ⟨g, o + 4 + 3, none⟩) gg).trans y3
    have ga : wy.heap.size < w4.heap.size := by omega
    have g0 : w.heap.size < w4.heap.size := by omega
    have g1 : w1.heap.size < w4.heap.size := by omega
    have gg : g < w4.heap.size := by omega
    have hen : ∀ xs w, (callFunc 174 xs).run Tryz.prog w = .ok (.enter 174 xs) w := fun _ _ => by kernel_rfl
    have c1 : ∀ w', Below w4.heap.size w4 w' → Calls Tryz.prog 102 #[KE A l c B m d, .slice (some ⟨g, o + 4, none⟩) (len - 1) (cap - 1), .func (.func 174) #[] #[.pointer (some ⟨w1.heap.size, 0, none⟩), .pointer (some ⟨wy.heap.size, 0, none⟩)]] w' (Comes w' (wantV 3 b (truV (holdB op (decide (a.s < b.s)) (decide (a.s = b.s)))))) := fun w' hw =>
      one_text A B l c m d g (o + 4) (len - 1) (cap - 1) opy ny sy kvy b (truV (holdB op (decide (a.s < b.s)) (decide (a.s = b.s)))) 174 hen _ w' hb (HT4.out.later hw) (by omega) ((hw.cell (p := ⟨g, o + 4, none⟩) gg).trans y0) ((hw.cell (p := ⟨g, o + 4 + 1, none⟩) gg).trans y1) ((hw.cell (p := ⟨g, o + 4 + 2, none⟩) gg).trans y2) ((hw.cell (p := ⟨g, o + 4 + 3, none⟩) gg).trans y3)
        (fun w2 hw2 => HY.out w2 (below_to HB4.out (below_to hw hw2)))
        (fun hkb w2 hw2 => do_cmps op a.s b.s w1.heap.size wy.heap.size w2 ho (((below_to hw hw2).cell (p := ⟨w1.heap.size, 0, none⟩) g1).trans p0) (((below_to hw hw2).cell (p := ⟨wy.heap.size, 0, none⟩) ga).trans a0))
    clear hb4 hs4 hen
    generalize (wantV 3 b (truV (holdB op (decide (a.s < b.s)) (decide (a.s = b.s))))) = V at *
    go_wp2_with fail
    refine wp_region_held_drew (S := fun w' => Below w4.heap.size w4 w') (by kernel_rfl) ((Below.refl _ _).drew) (fun hHeld => ?_)
    refine held_take (i := 0) (v := ?_) rfl (by kernel_rfl) (by kernel_rfl) (by kernel_rfl) (fun _ _ _ h => h) (by rfl) hHeld ?_ ?_
    rotate_left
    · intro wz hSz; have q0 := (hSz.cell (p := ⟨w.heap.size, 0, none⟩) g0).trans k0; have q1 := (hSz.cell (p := ⟨w.heap.size, 1, none⟩) g0).trans k1; go_simp; try with_reducible rfl
    simp only [Act.put, List.setIfInBounds_toArray, List.set_cons_zero, List.set_cons_succ]
    refine held_take (i := 1) (v := ?_) rfl (by kernel_rfl) (by kernel_rfl) (by kernel_rfl) (fun _ _ _ h => h) (by rfl) hHeld ?_ ?_
    rotate_left
    · intro wz hSz; go_simp; try with_reducible rfl
    simp only [Act.put, List.setIfInBounds_toArray, List.set_cons_zero, List.set_cons_succ]
    refine held_take (i := 2) (v := ?_) rfl (by kernel_rfl) (by kernel_rfl) (by kernel_rfl) (fun _ _ _ h => h) (by rfl) hHeld ?_ ?_
    rotate_left
    · intro wz hSz; go_simp; try with_reducible rfl
    simp only [Act.put, List.setIfInBounds_toArray, List.set_cons_zero, List.set_cons_succ]
    refine held_take (i := 3) (v := ?_) rfl (by kernel_rfl) (by kernel_rfl) (by kernel_rfl) (fun _ _ _ h => h) (by rfl) hHeld ?_ ?_
    rotate_left
    · intro wz hSz; go_simp; try with_reducible rfl
    simp only [Act.put, List.setIfInBounds_toArray, List.set_cons_zero, List.set_cons_succ]
    refine held_call (i := 4) (by kernel_rfl) rfl (by rfl) (by go_simp; try with_reducible rfl) (c1 _ hHeld) ?_
    rintro e wy ⟨rfl, hy4⟩
    refine ⟨_, rfl, below_to hHeld hy4, ?_⟩
    replace hHeld := below_to hHeld hy4
    simp only [Act.put, List.setIfInBounds_toArray, List.set_cons_zero, List.set_cons_succ]
    refine held_take (i := 5) (v := ?_) rfl (by kernel_rfl) (by kernel_rfl) (by kernel_rfl) (fun _ _ _ h => h) (by rfl) hHeld ?_ ?_
    rotate_left
    · intro wz hSz; go_simp; try with_reducible rfl
    simp only [Act.put, List.setIfInBounds_toArray, List.set_cons_zero, List.set_cons_succ]
    refine wpAnyH_done (by kernel_rfl) ?_ _
    have HB5 := Lib.hid (below_to HB4.out hHeld)
    go_wp2_with fail
    go_ret
    exact ⟨by rw [HV.out]; rfl, HB5.out⟩
  all_goals
    have HV := Lib.hid (show cmpV op a b = wrongV a by unfold cmpV; rw [if_neg (by omega), if_neg (by omega), if_neg (by omega)])
    have cW := wrong_any a ha wy HT2.out
    rw [hbx] at cW
    generalize bxV a = X at *
    subst hbx
    first
      | (have h1 := fun w => asN_no w 47 (V3 4 a.n ⟨#[]⟩) (by decide)
         have h2 := fun w => asS_no w 47 (V3 4 a.n ⟨#[]⟩) (by decide)
         have h3 := fun w => asB_no w 47 (V3 4 a.n ⟨#[]⟩) (by decide)
         go_wp2_with fail
         refine cW.mono ?_)
      | (have h1 := asN_nil
         have h2 := asS_nil
         have h3 := asB_nil
         go_wp2_with fail
         refine cW.mono ?_)
    rintro e w5 ⟨rfl, b5⟩
    go_wp2_with fail
    go_ret
    exact ⟨by rw [HV.out]; rfl, below_to HB2.out b5⟩
end
end Go.Proofs.YtjmfpgalepahoaaGreatDoor
