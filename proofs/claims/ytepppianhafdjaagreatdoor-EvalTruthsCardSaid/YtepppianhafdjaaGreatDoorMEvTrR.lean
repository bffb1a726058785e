/- EvalTruths, the first of the two being blank. -/
import Derived.Test.YtepppianhafdjaaGreatDoorGZ
import Derived.Test.YtepppianhafdjaaGreatDoorGE
namespace Go.Proofs.YtepppianhafdjaaGreatDoor
open Go.RowKit
set_option maxHeartbeats 8000000 in
set_option maxRecDepth 100000 in
theorem tr_20 (p q : Int) (w : World) (r t : Int) (hr : p.tmod 3 = r) (r0 : -2 ≤ r) (r1 : r ≤ 2) (ht : q.tmod 3 = t) (t0 : -2 ≤ t) (t1 : t ≤ 2) (hr3 : (r + 3).tmod 3 = 2) (ht3 : (t + 3).tmod 3 = 0) (hE : EnvP w) :
    Calls Tryz.prog 8 #[.int .i64 p, .int .i64 q] w fun e w' => e = .returned (.bool true) ∧ Below w.heap.size w w' := by
  obtain ⟨w6, hw6⟩ : ∃ w6, ((((((w.alloc (.cells #[.int .i64 2, .int .i64 0, .string ⟨#[]⟩, .int .i64 2, .int .i64 1, .string ⟨#[]⟩, .int .i64 0, .int .i64 0, .string ⟨#[]⟩] 23)).alloc (.cells #[.int .i64 0, .int .i64 0, .string ⟨#[]⟩] 23)).alloc (.cells #[.int .i64 2, .int .i64 0, .string ⟨#[]⟩] 23)).alloc (.cells #[.string ⟨#[112]⟩, .string ⟨#[113]⟩] 9)).alloc (.cells #[.slice (some ⟨w.heap.size + 1 + 1 + 1, 0, none⟩) 2 2] 31)).alloc (.cells #[.int .i64 4, .int .i64 3, .string ⟨#[]⟩] 23)) = w6 := ⟨_, rfl⟩
  obtain ⟨hs6, hB6, hS6, hX6⟩ := tru_mem w 0 0 2 0 w6 hw6
  have hE6 := hE.later hB6
  have cN := nt_call ⟨0, 0, []⟩ ⟨2, 0, []⟩ 4 3 (w.heap.size + 1 + 1 + 1) w6 ⟨by decide, by decide, by decide⟩ ⟨by decide, by decide, by decide⟩ (by decide) (by decide) hE6 hS6.names rfl
  rw [hs6] at cN
  dsimp only [vCells, ntCells] at cN
  have HE := Lib.hid hE6
  have HB6 := Lib.hid hB6
  have HS6 := Lib.hid hS6
  have HX6 := Lib.hid hX6
  have HW6 := Lib.hid hw6
  clear hE hE6 hB6 hS6 hX6 hw6
  go_enter Tryz.func8, Tryz.ntmps8
  go_wp2_with fail
  rw [HW6.out]
  (with_reducible refine cN.mono ?_)
  rintro e w7 ⟨rfl, d7⟩
  rw [← hs6] at d7
  have HS7 := Lib.hid (HS6.out.later d7)
  have HX7 := Lib.hid (HX6.out.later d7)
  have HB7 := Lib.hid (below_to HB6.out d7)
  have HE7 := Lib.hid (HE.out.later d7)
  clear cN d7 hs6 HE HS6 HX6 HB6 HW6
  obtain ⟨n0, -, ⟨ga, a0, a1, a2⟩, ⟨gb, b0, b1, b2⟩⟩ := HS7.out
  obtain ⟨⟨gx, x0, x1, x2⟩, -⟩ := HX7.out
  go_wp2_with fail
  obtain ⟨w8, hw8⟩ : ∃ w8, w7.alloc (.cells #[.int .i64 4, .int .i64 3, .string ⟨#[]⟩] 23) = w8 := ⟨_, rfl⟩
  rw [hw8]
  obtain ⟨HT8, hb8⟩ : Hid (Bx w8 w7.heap.size 4 3) ∧ Below w7.heap.size w7 w8 := by rw [← hw8]; exact ⟨Lib.hid (Bx.new w7 4 3), below_alloc w7 _⟩
  have HS8 := Lib.hid (HS7.out.later hb8)
  have HX8 := Lib.hid (HX7.out.later hb8)
  have HE8 := Lib.hid (HE7.out.later hb8)
  have HB8 := Lib.hid (below_to HB7.out hb8)
  clear n0 ga a0 a1 a2 gb b0 b1 b2 gx x0 x1 x2 HS7 HX7 HE7 HB7 hb8 hw8
  obtain ⟨⟨gx, x0, x1, x2⟩, -⟩ := HX8.out
  obtain ⟨⟨-, yz0, yz1, yz2⟩, -⟩ := HX8.out.later (below_alloc w8 (.cells #[.int .i64 0, .int .i64 0, .string ⟨#[]⟩] 23))
  obtain ⟨⟨-, yzz0, yzz1, yzz2⟩, -⟩ := (HX8.out.later (below_alloc w8 (.cells #[.int .i64 0, .int .i64 0, .string ⟨#[]⟩] 23))).later (below_alloc (w8.alloc (.cells #[.int .i64 0, .int .i64 0, .string ⟨#[]⟩] 23)) (.cells #[.int .i64 0, .int .i64 0, .string ⟨#[]⟩] 23))
  obtain ⟨⟨-, yzd0, yzd1, yzd2⟩, -⟩ := (HX8.out.later (below_alloc w8 (.cells #[.int .i64 0, .int .i64 0, .string ⟨#[]⟩] 23))).later (below_alloc (w8.alloc (.cells #[.int .i64 0, .int .i64 0, .string ⟨#[]⟩] 23)) (.cells #[.int .i64 4, .int .i64 3, .string ⟨#[]⟩] 23))
  obtain ⟨⟨-, yd0, yd1, yd2⟩, -⟩ := HX8.out.later (below_alloc w8 (.cells #[.int .i64 4, .int .i64 3, .string ⟨#[]⟩] 23))
  obtain ⟨⟨-, ydz0, ydz1, ydz2⟩, -⟩ := (HX8.out.later (below_alloc w8 (.cells #[.int .i64 4, .int .i64 3, .string ⟨#[]⟩] 23))).later (below_alloc (w8.alloc (.cells #[.int .i64 4, .int .i64 3, .string ⟨#[]⟩] 23)) (.cells #[.int .i64 0, .int .i64 0, .string ⟨#[]⟩] 23))
  obtain ⟨⟨-, ydd0, ydd1, ydd2⟩, -⟩ := (HX8.out.later (below_alloc w8 (.cells #[.int .i64 4, .int .i64 3, .string ⟨#[]⟩] 23))).later (below_alloc (w8.alloc (.cells #[.int .i64 4, .int .i64 3, .string ⟨#[]⟩] 23)) (.cells #[.int .i64 4, .int .i64 3, .string ⟨#[]⟩] 23))
  go_region
  · obtain ⟨w9, hw9⟩ : ∃ w9, ((w8.alloc (.cells #[.int .i64 4, .int .i64 3, .string ⟨#[]⟩] 23)).alloc (.cells #[.int .i64 4, .int .i64 3, .string ⟨#[]⟩] 23)).drew = w9 := ⟨_, rfl⟩
    obtain ⟨F0, F1, hs9, hb9⟩ := tru_two w8 w9 hw9
    rw [hw9]
    obtain ⟨gA, hgA⟩ : ∃ g, w8.heap.size = g := ⟨_, rfl⟩
    obtain ⟨gB, hgB⟩ : ∃ g, (w8.heap.size + 1) = g := ⟨_, rfl⟩
    have hAB : gA ≠ gB := by omega
    have hA8 : w8.heap.size ≤ gA := by omega
    have hB8 : w8.heap.size ≤ gB := by omega
    have A9 := Lib.hid (hgA ▸ F0)
    have B9 := Lib.hid (hgB ▸ F1)
    have D9 := Lib.hid hb9
    clear yz0 yz1 yz2 yzz0 yzz1 yzz2 yzd0 yzd1 yzd2 yd0 yd1 yd2 ydz0 ydz1 ydz2 ydd0 ydd1 ydd2 F0 F1 hb9 hw9 hs9 gx x0 x1 x2
    rw [hgB]
    rw [hgA]
    clear hgA hgB
    obtain ⟨⟨gx, x0, x1, x2⟩, -⟩ := HX8.out.later D9.out
    obtain ⟨-, -, ⟨ga, a0, a1, a2⟩, ⟨gb, b0, b1, b2⟩⟩ := HS8.out.later D9.out
    go_wp2_with fail
    clear gx x0 x1 x2 ga a0 a1 a2 gb b0 b1 b2
    obtain ⟨w10, hw10⟩ : ∃ x, w9.alloc (.cells #[.int .i64 4, .int .i64 3, .string ⟨#[]⟩] 23) = x := ⟨_, rfl⟩
    have hb10 := below_alloc w9 (.cells #[.int .i64 4, .int .i64 3, .string ⟨#[]⟩] 23)
    have W0 := Bx.new w9 4 3
    rw [hw10] at hb10 W0
    rw [hw10]
    have A10 := Lib.hid (A9.out.later hb10)
    have B10 := Lib.hid (B9.out.later hb10)
    have D10 := Lib.hid (below_to D9.out hb10)
    have nAW : gA ≠ w9.heap.size := by have := A9.out.at3.lt; omega
    have nBW : gB ≠ w9.heap.size := by have := B9.out.at3.lt; omega
    have hW8 : w8.heap.size ≤ w9.heap.size := D9.out.size
    obtain ⟨gW, hgW⟩ : ∃ g, w9.heap.size = g := ⟨_, rfl⟩
    rw [hgW] at W0 nAW nBW hW8
    rw [hgW]
    have W10 := Lib.hid W0
    clear hgW W0 hb10 hw10 A9 B9 D9
    have T10 := Lib.hid (HT8.out.later D10.out)
    refine wp_region_held_drew (S := fun w' => Below w10.heap.size w10 w') (by kernel_rfl) ((Below.refl _ _).drew) (fun hHeld => ?_)
    refine held_take (i := 0) (v := ?_) rfl (by kernel_rfl) (by kernel_rfl) (by kernel_rfl) (fun _ _ _ h => h) (by rfl) hHeld ?_ ?_
    rotate_left
    · intro wz hSz; go_simp; try with_reducible rfl
    simp only [Act.put, List.setIfInBounds_toArray, List.set_cons_zero, List.set_cons_succ]
    refine held_take (i := 2) (v := ?_) rfl (by kernel_rfl) (by kernel_rfl) (by kernel_rfl) (fun _ _ _ h => h) (by rfl) hHeld ?_ ?_
    rotate_left
    · intro wz hSz; obtain ⟨⟨-, q0, q1, q2⟩, -⟩ := A10.out.later hSz; go_simp; try with_reducible rfl
    simp only [Act.put, List.setIfInBounds_toArray, List.set_cons_zero, List.set_cons_succ]
    refine held_call (i := 1) (by kernel_rfl) rfl (by rfl) (by go_simp; try with_reducible rfl) (pq_any 16 4 3 _ _ _ _ ⟨0, 0, []⟩ ⟨2, 0, []⟩ _ (by decide) (by decide) ⟨by decide, by decide, by decide⟩ ⟨by decide, by decide, by decide⟩ (HE8.out.later (below_to D10.out hHeld)) (HS8.out.later (below_to D10.out hHeld)) rfl) ?_
    rintro e wy ⟨rfl, hy⟩
    refine ⟨_, rfl, below_to hHeld hy, ?_⟩
    replace hHeld := below_to hHeld hy
    simp only [Act.put, List.setIfInBounds_toArray, List.set_cons_zero, List.set_cons_succ]
    refine held_take (i := 3) (v := .bool true) rfl (by kernel_rfl) (by kernel_rfl) (by kernel_rfl) (fun _ _ _ h => h) (by rfl) hHeld ?_ ?_
    · intro wz hSz; (have ye := same_yes 4 3 ⟨#[]⟩ wz; go_simp; first | done | rfl | exact ye)
    simp only [Act.put, List.setIfInBounds_toArray, List.set_cons_zero, List.set_cons_succ]
    refine held_take (i := 4) (v := ?_) rfl (by kernel_rfl) (by kernel_rfl) (by kernel_rfl) (fun _ _ _ h => h) (by rfl) hHeld ?_ ?_
    rotate_left
    · intro wz hSz; go_simp; try with_reducible rfl
    simp only [Act.put, List.setIfInBounds_toArray, List.set_cons_zero, List.set_cons_succ]
    refine held_take (i := 5) (v := ?_) rfl (by kernel_rfl) (by kernel_rfl) (by kernel_rfl) (fun _ _ _ h => h) (by rfl) hHeld ?_ ?_
    rotate_left
    · intro wz hSz; go_simp; try with_reducible rfl
    simp only [Act.put, List.setIfInBounds_toArray, List.set_cons_zero, List.set_cons_succ]
    refine held_take (i := 7) (v := ?_) rfl (by kernel_rfl) (by kernel_rfl) (by kernel_rfl) (fun _ _ _ h => h) (by rfl) hHeld ?_ ?_
    rotate_left
    · intro wz hSz; obtain ⟨⟨-, q0, q1, q2⟩, -⟩ := B10.out.later hSz; go_simp; try with_reducible rfl
    simp only [Act.put, List.setIfInBounds_toArray, List.set_cons_zero, List.set_cons_succ]
    refine held_call (i := 6) (by kernel_rfl) rfl (by rfl) (by go_simp; try with_reducible rfl) (pq_any 17 4 3 _ _ _ _ ⟨0, 0, []⟩ ⟨2, 0, []⟩ _ (by decide) (by decide) ⟨by decide, by decide, by decide⟩ ⟨by decide, by decide, by decide⟩ (HE8.out.later (below_to D10.out hHeld)) (HS8.out.later (below_to D10.out hHeld)) rfl) ?_
    rintro e wy ⟨rfl, hy⟩
    refine ⟨_, rfl, below_to hHeld hy, ?_⟩
    replace hHeld := below_to hHeld hy
    simp only [Act.put, List.setIfInBounds_toArray, List.set_cons_zero, List.set_cons_succ]
    refine held_take (i := 8) (v := .bool true) rfl (by kernel_rfl) (by kernel_rfl) (by kernel_rfl) (fun _ _ _ h => h) (by rfl) hHeld ?_ ?_
    · intro wz hSz; (have ye := same_yes 4 3 ⟨#[]⟩ wz; go_simp; first | done | rfl | exact ye)
    simp only [Act.put, List.setIfInBounds_toArray, List.set_cons_zero, List.set_cons_succ]
    refine held_take (i := 9) (v := ?_) rfl (by kernel_rfl) (by kernel_rfl) (by kernel_rfl) (fun _ _ _ h => h) (by rfl) hHeld ?_ ?_
    rotate_left
    · intro wz hSz; go_simp; try with_reducible rfl
    simp only [Act.put, List.setIfInBounds_toArray, List.set_cons_zero, List.set_cons_succ]
    refine held_take (i := 10) (v := ?_) rfl (by kernel_rfl) (by kernel_rfl) (by kernel_rfl) (fun _ _ _ h => h) (by rfl) hHeld ?_ ?_
    rotate_left
    · intro wz hSz; go_simp; try with_reducible rfl
    simp only [Act.put, List.setIfInBounds_toArray, List.set_cons_zero, List.set_cons_succ]
    refine held_take (i := 11) (v := ?_) rfl (by kernel_rfl) (by kernel_rfl) (by kernel_rfl) (fun _ _ _ h => h) (by rfl) hHeld ?_ ?_
    rotate_left
    · intro wz hSz; obtain ⟨⟨-, q0, q1, q2⟩, -⟩ := T10.out.later hSz; go_simp; try with_reducible rfl
    simp only [Act.put, List.setIfInBounds_toArray, List.set_cons_zero, List.set_cons_succ]
    refine held_take (i := 12) (v := ?_) rfl (by kernel_rfl) (by kernel_rfl) (by kernel_rfl) (fun _ _ _ h => h) (by rfl) hHeld ?_ ?_
    rotate_left
    · intro wz hSz; obtain ⟨⟨-, q0, q1, q2⟩, -⟩ := W10.out.later hSz; go_simp; try with_reducible rfl
    simp only [Act.put, List.setIfInBounds_toArray, List.set_cons_zero, List.set_cons_succ]
    refine held_take (i := 13) (v := .bool true) rfl (by kernel_rfl) (by kernel_rfl) (by kernel_rfl) (fun _ _ _ h => h) (by rfl) hHeld ?_ ?_
    · intro wz hSz; (have ye := same_yes 4 3 ⟨#[]⟩ wz; go_simp; first | done | rfl | exact ye)
    simp only [Act.put, List.setIfInBounds_toArray, List.set_cons_zero, List.set_cons_succ]
    refine held_take (i := 14) (v := ?_) rfl (by kernel_rfl) (by kernel_rfl) (by kernel_rfl) (fun _ _ _ h => h) (by rfl) hHeld ?_ ?_
    rotate_left
    · intro wz hSz; go_simp; try with_reducible rfl
    simp only [Act.put, List.setIfInBounds_toArray, List.set_cons_zero, List.set_cons_succ]
    refine held_take (i := 15) (v := ?_) rfl (by kernel_rfl) (by kernel_rfl) (by kernel_rfl) (fun _ _ _ h => h) (by rfl) hHeld ?_ ?_
    rotate_left
    · intro wz hSz; go_simp; try with_reducible rfl
    simp only [Act.put, List.setIfInBounds_toArray, List.set_cons_zero, List.set_cons_succ]
    refine held_call (i := 16) (by kernel_rfl) rfl (by rfl) (by go_simp; try with_reducible rfl) (evawake_any _ (HE8.out.later (below_to D10.out hHeld))) ?_
    rintro e wy ⟨rfl, hy⟩
    refine ⟨_, rfl, below_to hHeld hy, ?_⟩
    replace hHeld := below_to hHeld hy
    simp only [Act.put, List.setIfInBounds_toArray, List.set_cons_zero, List.set_cons_succ]
    refine held_take (i := 17) (v := ?_) rfl (by kernel_rfl) (by kernel_rfl) (by kernel_rfl) (fun _ _ _ h => h) (by rfl) hHeld ?_ ?_
    rotate_left
    · intro wz hSz; go_simp; try with_reducible rfl
    simp only [Act.put, List.setIfInBounds_toArray, List.set_cons_zero, List.set_cons_succ]
    refine held_take (i := 18) (v := ?_) rfl (by kernel_rfl) (by kernel_rfl) (by kernel_rfl) (fun _ _ _ h => h) (by rfl) hHeld ?_ ?_
    rotate_left
    · intro wz hSz; go_simp; try with_reducible rfl
    simp only [Act.put, List.setIfInBounds_toArray, List.set_cons_zero, List.set_cons_succ]
    refine wpAnyH_done (by kernel_rfl) ?_ _
    have HBF := Lib.hid (below_to (below_to HB8.out D10.out) hHeld)
    go_wp2_with fail
    go_ret
    exact ⟨rfl, HBF.out⟩
  · obtain ⟨w9, hw9⟩ : ∃ w9, ((w8.alloc (.cells #[.int .i64 4, .int .i64 3, .string ⟨#[]⟩] 23)).alloc (.cells #[.int .i64 4, .int .i64 3, .string ⟨#[]⟩] 23)).drew = w9 := ⟨_, rfl⟩
    obtain ⟨F0, F1, hs9, hb9⟩ := tru_two w8 w9 hw9
    rw [hw9]
    obtain ⟨gA, hgA⟩ : ∃ g, (w8.heap.size + 1) = g := ⟨_, rfl⟩
    obtain ⟨gB, hgB⟩ : ∃ g, w8.heap.size = g := ⟨_, rfl⟩
    have hAB : gA ≠ gB := by omega
    have hA8 : w8.heap.size ≤ gA := by omega
    have hB8 : w8.heap.size ≤ gB := by omega
    have A9 := Lib.hid (hgA ▸ F1)
    have B9 := Lib.hid (hgB ▸ F0)
    have D9 := Lib.hid hb9
    clear yz0 yz1 yz2 yzz0 yzz1 yzz2 yzd0 yzd1 yzd2 yd0 yd1 yd2 ydz0 ydz1 ydz2 ydd0 ydd1 ydd2 F0 F1 hb9 hw9 hs9 gx x0 x1 x2
    rw [hgA]
    rw [hgB]
    clear hgA hgB
    obtain ⟨⟨gx, x0, x1, x2⟩, -⟩ := HX8.out.later D9.out
    obtain ⟨-, -, ⟨ga, a0, a1, a2⟩, ⟨gb, b0, b1, b2⟩⟩ := HS8.out.later D9.out
    go_wp2_with fail
    clear gx x0 x1 x2 ga a0 a1 a2 gb b0 b1 b2
    obtain ⟨w10, hw10⟩ : ∃ x, w9.alloc (.cells #[.int .i64 4, .int .i64 3, .string ⟨#[]⟩] 23) = x := ⟨_, rfl⟩
    have hb10 := below_alloc w9 (.cells #[.int .i64 4, .int .i64 3, .string ⟨#[]⟩] 23)
    have W0 := Bx.new w9 4 3
    rw [hw10] at hb10 W0
    rw [hw10]
    have A10 := Lib.hid (A9.out.later hb10)
    have B10 := Lib.hid (B9.out.later hb10)
    have D10 := Lib.hid (below_to D9.out hb10)
    have nAW : gA ≠ w9.heap.size := by have := A9.out.at3.lt; omega
    have nBW : gB ≠ w9.heap.size := by have := B9.out.at3.lt; omega
    have hW8 : w8.heap.size ≤ w9.heap.size := D9.out.size
    obtain ⟨gW, hgW⟩ : ∃ g, w9.heap.size = g := ⟨_, rfl⟩
    rw [hgW] at W0 nAW nBW hW8
    rw [hgW]
    have W10 := Lib.hid W0
    clear hgW W0 hb10 hw10 A9 B9 D9
    have T10 := Lib.hid (HT8.out.later D10.out)
    refine wp_region_held_drew (S := fun w' => Below w10.heap.size w10 w') (by kernel_rfl) ((Below.refl _ _).drew) (fun hHeld => ?_)
    refine held_take (i := 0) (v := ?_) rfl (by kernel_rfl) (by kernel_rfl) (by kernel_rfl) (fun _ _ _ h => h) (by rfl) hHeld ?_ ?_
    rotate_left
    · intro wz hSz; go_simp; try with_reducible rfl
    simp only [Act.put, List.setIfInBounds_toArray, List.set_cons_zero, List.set_cons_succ]
    refine held_take (i := 2) (v := ?_) rfl (by kernel_rfl) (by kernel_rfl) (by kernel_rfl) (fun _ _ _ h => h) (by rfl) hHeld ?_ ?_
    rotate_left
    · intro wz hSz; obtain ⟨⟨-, q0, q1, q2⟩, -⟩ := A10.out.later hSz; go_simp; try with_reducible rfl
    simp only [Act.put, List.setIfInBounds_toArray, List.set_cons_zero, List.set_cons_succ]
    refine held_call (i := 1) (by kernel_rfl) rfl (by rfl) (by go_simp; try with_reducible rfl) (pq_any 16 4 3 _ _ _ _ ⟨0, 0, []⟩ ⟨2, 0, []⟩ _ (by decide) (by decide) ⟨by decide, by decide, by decide⟩ ⟨by decide, by decide, by decide⟩ (HE8.out.later (below_to D10.out hHeld)) (HS8.out.later (below_to D10.out hHeld)) rfl) ?_
    rintro e wy ⟨rfl, hy⟩
    refine ⟨_, rfl, below_to hHeld hy, ?_⟩
    replace hHeld := below_to hHeld hy
    simp only [Act.put, List.setIfInBounds_toArray, List.set_cons_zero, List.set_cons_succ]
    refine held_take (i := 3) (v := .bool true) rfl (by kernel_rfl) (by kernel_rfl) (by kernel_rfl) (fun _ _ _ h => h) (by rfl) hHeld ?_ ?_
    · intro wz hSz; (have ye := same_yes 4 3 ⟨#[]⟩ wz; go_simp; first | done | rfl | exact ye)
    simp only [Act.put, List.setIfInBounds_toArray, List.set_cons_zero, List.set_cons_succ]
    refine held_take (i := 4) (v := ?_) rfl (by kernel_rfl) (by kernel_rfl) (by kernel_rfl) (fun _ _ _ h => h) (by rfl) hHeld ?_ ?_
    rotate_left
    · intro wz hSz; go_simp; try with_reducible rfl
    simp only [Act.put, List.setIfInBounds_toArray, List.set_cons_zero, List.set_cons_succ]
    refine held_take (i := 5) (v := ?_) rfl (by kernel_rfl) (by kernel_rfl) (by kernel_rfl) (fun _ _ _ h => h) (by rfl) hHeld ?_ ?_
    rotate_left
    · intro wz hSz; go_simp; try with_reducible rfl
    simp only [Act.put, List.setIfInBounds_toArray, List.set_cons_zero, List.set_cons_succ]
    refine held_take (i := 7) (v := ?_) rfl (by kernel_rfl) (by kernel_rfl) (by kernel_rfl) (fun _ _ _ h => h) (by rfl) hHeld ?_ ?_
    rotate_left
    · intro wz hSz; obtain ⟨⟨-, q0, q1, q2⟩, -⟩ := B10.out.later hSz; go_simp; try with_reducible rfl
    simp only [Act.put, List.setIfInBounds_toArray, List.set_cons_zero, List.set_cons_succ]
    refine held_call (i := 6) (by kernel_rfl) rfl (by rfl) (by go_simp; try with_reducible rfl) (pq_any 17 4 3 _ _ _ _ ⟨0, 0, []⟩ ⟨2, 0, []⟩ _ (by decide) (by decide) ⟨by decide, by decide, by decide⟩ ⟨by decide, by decide, by decide⟩ (HE8.out.later (below_to D10.out hHeld)) (HS8.out.later (below_to D10.out hHeld)) rfl) ?_
    rintro e wy ⟨rfl, hy⟩
    refine ⟨_, rfl, below_to hHeld hy, ?_⟩
    replace hHeld := below_to hHeld hy
    simp only [Act.put, List.setIfInBounds_toArray, List.set_cons_zero, List.set_cons_succ]
    refine held_take (i := 8) (v := .bool true) rfl (by kernel_rfl) (by kernel_rfl) (by kernel_rfl) (fun _ _ _ h => h) (by rfl) hHeld ?_ ?_
    · intro wz hSz; (have ye := same_yes 4 3 ⟨#[]⟩ wz; go_simp; first | done | rfl | exact ye)
    simp only [Act.put, List.setIfInBounds_toArray, List.set_cons_zero, List.set_cons_succ]
    refine held_take (i := 9) (v := ?_) rfl (by kernel_rfl) (by kernel_rfl) (by kernel_rfl) (fun _ _ _ h => h) (by rfl) hHeld ?_ ?_
    rotate_left
    · intro wz hSz; go_simp; try with_reducible rfl
    simp only [Act.put, List.setIfInBounds_toArray, List.set_cons_zero, List.set_cons_succ]
    refine held_take (i := 10) (v := ?_) rfl (by kernel_rfl) (by kernel_rfl) (by kernel_rfl) (fun _ _ _ h => h) (by rfl) hHeld ?_ ?_
    rotate_left
    · intro wz hSz; go_simp; try with_reducible rfl
    simp only [Act.put, List.setIfInBounds_toArray, List.set_cons_zero, List.set_cons_succ]
    refine held_take (i := 11) (v := ?_) rfl (by kernel_rfl) (by kernel_rfl) (by kernel_rfl) (fun _ _ _ h => h) (by rfl) hHeld ?_ ?_
    rotate_left
    · intro wz hSz; obtain ⟨⟨-, q0, q1, q2⟩, -⟩ := T10.out.later hSz; go_simp; try with_reducible rfl
    simp only [Act.put, List.setIfInBounds_toArray, List.set_cons_zero, List.set_cons_succ]
    refine held_take (i := 12) (v := ?_) rfl (by kernel_rfl) (by kernel_rfl) (by kernel_rfl) (fun _ _ _ h => h) (by rfl) hHeld ?_ ?_
    rotate_left
    · intro wz hSz; obtain ⟨⟨-, q0, q1, q2⟩, -⟩ := W10.out.later hSz; go_simp; try with_reducible rfl
    simp only [Act.put, List.setIfInBounds_toArray, List.set_cons_zero, List.set_cons_succ]
    refine held_take (i := 13) (v := .bool true) rfl (by kernel_rfl) (by kernel_rfl) (by kernel_rfl) (fun _ _ _ h => h) (by rfl) hHeld ?_ ?_
    · intro wz hSz; (have ye := same_yes 4 3 ⟨#[]⟩ wz; go_simp; first | done | rfl | exact ye)
    simp only [Act.put, List.setIfInBounds_toArray, List.set_cons_zero, List.set_cons_succ]
    refine held_take (i := 14) (v := ?_) rfl (by kernel_rfl) (by kernel_rfl) (by kernel_rfl) (fun _ _ _ h => h) (by rfl) hHeld ?_ ?_
    rotate_left
    · intro wz hSz; go_simp; try with_reducible rfl
    simp only [Act.put, List.setIfInBounds_toArray, List.set_cons_zero, List.set_cons_succ]
    refine held_take (i := 15) (v := ?_) rfl (by kernel_rfl) (by kernel_rfl) (by kernel_rfl) (fun _ _ _ h => h) (by rfl) hHeld ?_ ?_
    rotate_left
    · intro wz hSz; go_simp; try with_reducible rfl
    simp only [Act.put, List.setIfInBounds_toArray, List.set_cons_zero, List.set_cons_succ]
    refine held_call (i := 16) (by kernel_rfl) rfl (by rfl) (by go_simp; try with_reducible rfl) (evawake_any _ (HE8.out.later (below_to D10.out hHeld))) ?_
    rintro e wy ⟨rfl, hy⟩
    refine ⟨_, rfl, below_to hHeld hy, ?_⟩
    replace hHeld := below_to hHeld hy
    simp only [Act.put, List.setIfInBounds_toArray, List.set_cons_zero, List.set_cons_succ]
    refine held_take (i := 17) (v := ?_) rfl (by kernel_rfl) (by kernel_rfl) (by kernel_rfl) (fun _ _ _ h => h) (by rfl) hHeld ?_ ?_
    rotate_left
    · intro wz hSz; go_simp; try with_reducible rfl
    simp only [Act.put, List.setIfInBounds_toArray, List.set_cons_zero, List.set_cons_succ]
    refine held_take (i := 18) (v := ?_) rfl (by kernel_rfl) (by kernel_rfl) (by kernel_rfl) (fun _ _ _ h => h) (by rfl) hHeld ?_ ?_
    rotate_left
    · intro wz hSz; go_simp; try with_reducible rfl
    simp only [Act.put, List.setIfInBounds_toArray, List.set_cons_zero, List.set_cons_succ]
    refine wpAnyH_done (by kernel_rfl) ?_ _
    have HBF := Lib.hid (below_to (below_to HB8.out D10.out) hHeld)
    go_wp2_with fail
    go_ret
    exact ⟨rfl, HBF.out⟩
set_option maxHeartbeats 8000000 in
set_option maxRecDepth 100000 in
theorem tr_21 (p q : Int) (w : World) (r t : Int) (hr : p.tmod 3 = r) (r0 : -2 ≤ r) (r1 : r ≤ 2) (ht : q.tmod 3 = t) (t0 : -2 ≤ t) (t1 : t ≤ 2) (hr3 : (r + 3).tmod 3 = 2) (ht3 : (t + 3).tmod 3 = 1) (hE : EnvP w) :
    Calls Tryz.prog 8 #[.int .i64 p, .int .i64 q] w fun e w' => e = .returned (.bool true) ∧ Below w.heap.size w w' := by
  obtain ⟨w6, hw6⟩ : ∃ w6, ((((((w.alloc (.cells #[.int .i64 2, .int .i64 0, .string ⟨#[]⟩, .int .i64 2, .int .i64 1, .string ⟨#[]⟩, .int .i64 0, .int .i64 0, .string ⟨#[]⟩] 23)).alloc (.cells #[.int .i64 0, .int .i64 0, .string ⟨#[]⟩] 23)).alloc (.cells #[.int .i64 2, .int .i64 1, .string ⟨#[]⟩] 23)).alloc (.cells #[.string ⟨#[112]⟩, .string ⟨#[113]⟩] 9)).alloc (.cells #[.slice (some ⟨w.heap.size + 1 + 1 + 1, 0, none⟩) 2 2] 31)).alloc (.cells #[.int .i64 4, .int .i64 3, .string ⟨#[]⟩] 23)) = w6 := ⟨_, rfl⟩
  obtain ⟨hs6, hB6, hS6, hX6⟩ := tru_mem w 0 0 2 1 w6 hw6
  have hE6 := hE.later hB6
  have cN := nt_call ⟨0, 0, []⟩ ⟨2, 1, []⟩ 4 3 (w.heap.size + 1 + 1 + 1) w6 ⟨by decide, by decide, by decide⟩ ⟨by decide, by decide, by decide⟩ (by decide) (by decide) hE6 hS6.names rfl
  rw [hs6] at cN
  dsimp only [vCells, ntCells] at cN
  have HE := Lib.hid hE6
  have HB6 := Lib.hid hB6
  have HS6 := Lib.hid hS6
  have HX6 := Lib.hid hX6
  have HW6 := Lib.hid hw6
  clear hE hE6 hB6 hS6 hX6 hw6
  go_enter Tryz.func8, Tryz.ntmps8
  go_wp2_with fail
  rw [HW6.out]
  (with_reducible refine cN.mono ?_)
  rintro e w7 ⟨rfl, d7⟩
  rw [← hs6] at d7
  have HS7 := Lib.hid (HS6.out.later d7)
  have HX7 := Lib.hid (HX6.out.later d7)
  have HB7 := Lib.hid (below_to HB6.out d7)
  have HE7 := Lib.hid (HE.out.later d7)
  clear cN d7 hs6 HE HS6 HX6 HB6 HW6
  obtain ⟨n0, -, ⟨ga, a0, a1, a2⟩, ⟨gb, b0, b1, b2⟩⟩ := HS7.out
  obtain ⟨⟨gx, x0, x1, x2⟩, -⟩ := HX7.out
  go_wp2_with fail
  obtain ⟨w8, hw8⟩ : ∃ w8, w7.alloc (.cells #[.int .i64 4, .int .i64 3, .string ⟨#[]⟩] 23) = w8 := ⟨_, rfl⟩
  rw [hw8]
  obtain ⟨HT8, hb8⟩ : Hid (Bx w8 w7.heap.size 4 3) ∧ Below w7.heap.size w7 w8 := by rw [← hw8]; exact ⟨Lib.hid (Bx.new w7 4 3), below_alloc w7 _⟩
  have HS8 := Lib.hid (HS7.out.later hb8)
  have HX8 := Lib.hid (HX7.out.later hb8)
  have HE8 := Lib.hid (HE7.out.later hb8)
  have HB8 := Lib.hid (below_to HB7.out hb8)
  clear n0 ga a0 a1 a2 gb b0 b1 b2 gx x0 x1 x2 HS7 HX7 HE7 HB7 hb8 hw8
  obtain ⟨⟨gx, x0, x1, x2⟩, -⟩ := HX8.out
  obtain ⟨⟨-, yz0, yz1, yz2⟩, -⟩ := HX8.out.later (below_alloc w8 (.cells #[.int .i64 0, .int .i64 0, .string ⟨#[]⟩] 23))
  obtain ⟨⟨-, yzz0, yzz1, yzz2⟩, -⟩ := (HX8.out.later (below_alloc w8 (.cells #[.int .i64 0, .int .i64 0, .string ⟨#[]⟩] 23))).later (below_alloc (w8.alloc (.cells #[.int .i64 0, .int .i64 0, .string ⟨#[]⟩] 23)) (.cells #[.int .i64 0, .int .i64 0, .string ⟨#[]⟩] 23))
  obtain ⟨⟨-, yzd0, yzd1, yzd2⟩, -⟩ := (HX8.out.later (below_alloc w8 (.cells #[.int .i64 0, .int .i64 0, .string ⟨#[]⟩] 23))).later (below_alloc (w8.alloc (.cells #[.int .i64 0, .int .i64 0, .string ⟨#[]⟩] 23)) (.cells #[.int .i64 4, .int .i64 3, .string ⟨#[]⟩] 23))
  obtain ⟨⟨-, yd0, yd1, yd2⟩, -⟩ := HX8.out.later (below_alloc w8 (.cells #[.int .i64 4, .int .i64 3, .string ⟨#[]⟩] 23))
  obtain ⟨⟨-, ydz0, ydz1, ydz2⟩, -⟩ := (HX8.out.later (below_alloc w8 (.cells #[.int .i64 4, .int .i64 3, .string ⟨#[]⟩] 23))).later (below_alloc (w8.alloc (.cells #[.int .i64 4, .int .i64 3, .string ⟨#[]⟩] 23)) (.cells #[.int .i64 0, .int .i64 0, .string ⟨#[]⟩] 23))
  obtain ⟨⟨-, ydd0, ydd1, ydd2⟩, -⟩ := (HX8.out.later (below_alloc w8 (.cells #[.int .i64 4, .int .i64 3, .string ⟨#[]⟩] 23))).later (below_alloc (w8.alloc (.cells #[.int .i64 4, .int .i64 3, .string ⟨#[]⟩] 23)) (.cells #[.int .i64 4, .int .i64 3, .string ⟨#[]⟩] 23))
  go_region
  · obtain ⟨w9, hw9⟩ : ∃ w9, ((w8.alloc (.cells #[.int .i64 4, .int .i64 3, .string ⟨#[]⟩] 23)).alloc (.cells #[.int .i64 4, .int .i64 3, .string ⟨#[]⟩] 23)).drew = w9 := ⟨_, rfl⟩
    obtain ⟨F0, F1, hs9, hb9⟩ := tru_two w8 w9 hw9
    rw [hw9]
    obtain ⟨gA, hgA⟩ : ∃ g, w8.heap.size = g := ⟨_, rfl⟩
    obtain ⟨gB, hgB⟩ : ∃ g, (w8.heap.size + 1) = g := ⟨_, rfl⟩
    have hAB : gA ≠ gB := by omega
    have hA8 : w8.heap.size ≤ gA := by omega
    have hB8 : w8.heap.size ≤ gB := by omega
    have A9 := Lib.hid (hgA ▸ F0)
    have B9 := Lib.hid (hgB ▸ F1)
    have D9 := Lib.hid hb9
    clear yz0 yz1 yz2 yzz0 yzz1 yzz2 yzd0 yzd1 yzd2 yd0 yd1 yd2 ydz0 ydz1 ydz2 ydd0 ydd1 ydd2 F0 F1 hb9 hw9 hs9 gx x0 x1 x2
    rw [hgB]
    rw [hgA]
    clear hgA hgB
    obtain ⟨⟨gx, x0, x1, x2⟩, -⟩ := HX8.out.later D9.out
    obtain ⟨-, -, ⟨ga, a0, a1, a2⟩, ⟨gb, b0, b1, b2⟩⟩ := HS8.out.later D9.out
    go_wp2_with fail
    clear gx x0 x1 x2 ga a0 a1 a2 gb b0 b1 b2
    obtain ⟨w10, hw10⟩ : ∃ x, w9.alloc (.cells #[.int .i64 4, .int .i64 3, .string ⟨#[]⟩] 23) = x := ⟨_, rfl⟩
    have hb10 := below_alloc w9 (.cells #[.int .i64 4, .int .i64 3, .string ⟨#[]⟩] 23)
    have W0 := Bx.new w9 4 3
    rw [hw10] at hb10 W0
    rw [hw10]
    have A10 := Lib.hid (A9.out.later hb10)
    have B10 := Lib.hid (B9.out.later hb10)
    have D10 := Lib.hid (below_to D9.out hb10)
    have nAW : gA ≠ w9.heap.size := by have := A9.out.at3.lt; omega
    have nBW : gB ≠ w9.heap.size := by have := B9.out.at3.lt; omega
    have hW8 : w8.heap.size ≤ w9.heap.size := D9.out.size
    obtain ⟨gW, hgW⟩ : ∃ g, w9.heap.size = g := ⟨_, rfl⟩
    rw [hgW] at W0 nAW nBW hW8
    rw [hgW]
    have W10 := Lib.hid W0
    clear hgW W0 hb10 hw10 A9 B9 D9
    have T10 := Lib.hid (HT8.out.later D10.out)
    refine wp_region_held_drew (S := fun w' => Below w10.heap.size w10 w') (by kernel_rfl) ((Below.refl _ _).drew) (fun hHeld => ?_)
    refine held_take (i := 0) (v := ?_) rfl (by kernel_rfl) (by kernel_rfl) (by kernel_rfl) (fun _ _ _ h => h) (by rfl) hHeld ?_ ?_
    rotate_left
    · intro wz hSz; go_simp; try with_reducible rfl
    simp only [Act.put, List.setIfInBounds_toArray, List.set_cons_zero, List.set_cons_succ]
    refine held_take (i := 2) (v := ?_) rfl (by kernel_rfl) (by kernel_rfl) (by kernel_rfl) (fun _ _ _ h => h) (by rfl) hHeld ?_ ?_
    rotate_left
    · intro wz hSz; obtain ⟨⟨-, q0, q1, q2⟩, -⟩ := A10.out.later hSz; go_simp; try with_reducible rfl
    simp only [Act.put, List.setIfInBounds_toArray, List.set_cons_zero, List.set_cons_succ]
    refine held_call (i := 1) (by kernel_rfl) rfl (by rfl) (by go_simp; try with_reducible rfl) (pq_any 16 4 3 _ _ _ _ ⟨0, 0, []⟩ ⟨2, 1, []⟩ _ (by decide) (by decide) ⟨by decide, by decide, by decide⟩ ⟨by decide, by decide, by decide⟩ (HE8.out.later (below_to D10.out hHeld)) (HS8.out.later (below_to D10.out hHeld)) rfl) ?_
    rintro e wy ⟨rfl, hy⟩
    refine ⟨_, rfl, below_to hHeld hy, ?_⟩
    replace hHeld := below_to hHeld hy
    simp only [Act.put, List.setIfInBounds_toArray, List.set_cons_zero, List.set_cons_succ]
    refine held_take (i := 3) (v := .bool true) rfl (by kernel_rfl) (by kernel_rfl) (by kernel_rfl) (fun _ _ _ h => h) (by rfl) hHeld ?_ ?_
    · intro wz hSz; (have ye := same_yes 4 3 ⟨#[]⟩ wz; go_simp; first | done | rfl | exact ye)
    simp only [Act.put, List.setIfInBounds_toArray, List.set_cons_zero, List.set_cons_succ]
    refine held_take (i := 4) (v := ?_) rfl (by kernel_rfl) (by kernel_rfl) (by kernel_rfl) (fun _ _ _ h => h) (by rfl) hHeld ?_ ?_
    rotate_left
    · intro wz hSz; go_simp; try with_reducible rfl
    simp only [Act.put, List.setIfInBounds_toArray, List.set_cons_zero, List.set_cons_succ]
    refine held_take (i := 5) (v := ?_) rfl (by kernel_rfl) (by kernel_rfl) (by kernel_rfl) (fun _ _ _ h => h) (by rfl) hHeld ?_ ?_
    rotate_left
    · intro wz hSz; go_simp; try with_reducible rfl
    simp only [Act.put, List.setIfInBounds_toArray, List.set_cons_zero, List.set_cons_succ]
    refine held_take (i := 7) (v := ?_) rfl (by kernel_rfl) (by kernel_rfl) (by kernel_rfl) (fun _ _ _ h => h) (by rfl) hHeld ?_ ?_
    rotate_left
    · intro wz hSz; obtain ⟨⟨-, q0, q1, q2⟩, -⟩ := B10.out.later hSz; go_simp; try with_reducible rfl
    simp only [Act.put, List.setIfInBounds_toArray, List.set_cons_zero, List.set_cons_succ]
    refine held_call (i := 6) (by kernel_rfl) rfl (by rfl) (by go_simp; try with_reducible rfl) (pq_any 17 4 3 _ _ _ _ ⟨0, 0, []⟩ ⟨2, 1, []⟩ _ (by decide) (by decide) ⟨by decide, by decide, by decide⟩ ⟨by decide, by decide, by decide⟩ (HE8.out.later (below_to D10.out hHeld)) (HS8.out.later (below_to D10.out hHeld)) rfl) ?_
    rintro e wy ⟨rfl, hy⟩
    refine ⟨_, rfl, below_to hHeld hy, ?_⟩
    replace hHeld := below_to hHeld hy
    simp only [Act.put, List.setIfInBounds_toArray, List.set_cons_zero, List.set_cons_succ]
    refine held_take (i := 8) (v := .bool true) rfl (by kernel_rfl) (by kernel_rfl) (by kernel_rfl) (fun _ _ _ h => h) (by rfl) hHeld ?_ ?_
    · intro wz hSz; (have ye := same_yes 4 3 ⟨#[]⟩ wz; go_simp; first | done | rfl | exact ye)
    simp only [Act.put, List.setIfInBounds_toArray, List.set_cons_zero, List.set_cons_succ]
    refine held_take (i := 9) (v := ?_) rfl (by kernel_rfl) (by kernel_rfl) (by kernel_rfl) (fun _ _ _ h => h) (by rfl) hHeld ?_ ?_
    rotate_left
    · intro wz hSz; go_simp; try with_reducible rfl
    simp only [Act.put, List.setIfInBounds_toArray, List.set_cons_zero, List.set_cons_succ]
    refine held_take (i := 10) (v := ?_) rfl (by kernel_rfl) (by kernel_rfl) (by kernel_rfl) (fun _ _ _ h => h) (by rfl) hHeld ?_ ?_
    rotate_left
    · intro wz hSz; go_simp; try with_reducible rfl
    simp only [Act.put, List.setIfInBounds_toArray, List.set_cons_zero, List.set_cons_succ]
    refine held_take (i := 11) (v := ?_) rfl (by kernel_rfl) (by kernel_rfl) (by kernel_rfl) (fun _ _ _ h => h) (by rfl) hHeld ?_ ?_
    rotate_left
    · intro wz hSz; obtain ⟨⟨-, q0, q1, q2⟩, -⟩ := T10.out.later hSz; go_simp; try with_reducible rfl
    simp only [Act.put, List.setIfInBounds_toArray, List.set_cons_zero, List.set_cons_succ]
    refine held_take (i := 12) (v := ?_) rfl (by kernel_rfl) (by kernel_rfl) (by kernel_rfl) (fun _ _ _ h => h) (by rfl) hHeld ?_ ?_
    rotate_left
    · intro wz hSz; obtain ⟨⟨-, q0, q1, q2⟩, -⟩ := W10.out.later hSz; go_simp; try with_reducible rfl
    simp only [Act.put, List.setIfInBounds_toArray, List.set_cons_zero, List.set_cons_succ]
    refine held_take (i := 13) (v := .bool true) rfl (by kernel_rfl) (by kernel_rfl) (by kernel_rfl) (fun _ _ _ h => h) (by rfl) hHeld ?_ ?_
    · intro wz hSz; (have ye := same_yes 4 3 ⟨#[]⟩ wz; go_simp; first | done | rfl | exact ye)
    simp only [Act.put, List.setIfInBounds_toArray, List.set_cons_zero, List.set_cons_succ]
    refine held_take (i := 14) (v := ?_) rfl (by kernel_rfl) (by kernel_rfl) (by kernel_rfl) (fun _ _ _ h => h) (by rfl) hHeld ?_ ?_
    rotate_left
    · intro wz hSz; go_simp; try with_reducible rfl
    simp only [Act.put, List.setIfInBounds_toArray, List.set_cons_zero, List.set_cons_succ]
    refine held_take (i := 15) (v := ?_) rfl (by kernel_rfl) (by kernel_rfl) (by kernel_rfl) (fun _ _ _ h => h) (by rfl) hHeld ?_ ?_
    rotate_left
    · intro wz hSz; go_simp; try with_reducible rfl
    simp only [Act.put, List.setIfInBounds_toArray, List.set_cons_zero, List.set_cons_succ]
    refine held_call (i := 16) (by kernel_rfl) rfl (by rfl) (by go_simp; try with_reducible rfl) (evawake_any _ (HE8.out.later (below_to D10.out hHeld))) ?_
    rintro e wy ⟨rfl, hy⟩
    refine ⟨_, rfl, below_to hHeld hy, ?_⟩
    replace hHeld := below_to hHeld hy
    simp only [Act.put, List.setIfInBounds_toArray, List.set_cons_zero, List.set_cons_succ]
    refine held_take (i := 17) (v := ?_) rfl (by kernel_rfl) (by kernel_rfl) (by kernel_rfl) (fun _ _ _ h => h) (by rfl) hHeld ?_ ?_
    rotate_left
    · intro wz hSz; go_simp; try with_reducible rfl
    simp only [Act.put, List.setIfInBounds_toArray, List.set_cons_zero, List.set_cons_succ]
    refine held_take (i := 18) (v := ?_) rfl (by kernel_rfl) (by kernel_rfl) (by kernel_rfl) (fun _ _ _ h => h) (by rfl) hHeld ?_ ?_
    rotate_left
    · intro wz hSz; go_simp; try with_reducible rfl
    simp only [Act.put, List.setIfInBounds_toArray, List.set_cons_zero, List.set_cons_succ]
    refine wpAnyH_done (by kernel_rfl) ?_ _
    have HBF := Lib.hid (below_to (below_to HB8.out D10.out) hHeld)
    go_wp2_with fail
    go_ret
    exact ⟨rfl, HBF.out⟩
  · obtain ⟨w9, hw9⟩ : ∃ w9, ((w8.alloc (.cells #[.int .i64 4, .int .i64 3, .string ⟨#[]⟩] 23)).alloc (.cells #[.int .i64 4, .int .i64 3, .string ⟨#[]⟩] 23)).drew = w9 := ⟨_, rfl⟩
    obtain ⟨F0, F1, hs9, hb9⟩ := tru_two w8 w9 hw9
    rw [hw9]
    obtain ⟨gA, hgA⟩ : ∃ g, (w8.heap.size + 1) = g := ⟨_, rfl⟩
    obtain ⟨gB, hgB⟩ : ∃ g, w8.heap.size = g := ⟨_, rfl⟩
    have hAB : gA ≠ gB := by omega
    have hA8 : w8.heap.size ≤ gA := by omega
    have hB8 : w8.heap.size ≤ gB := by omega
    have A9 := Lib.hid (hgA ▸ F1)
    have B9 := Lib.hid (hgB ▸ F0)
    have D9 := Lib.hid hb9
    clear yz0 yz1 yz2 yzz0 yzz1 yzz2 yzd0 yzd1 yzd2 yd0 yd1 yd2 ydz0 ydz1 ydz2 ydd0 ydd1 ydd2 F0 F1 hb9 hw9 hs9 gx x0 x1 x2
    rw [hgA]
    rw [hgB]
    clear hgA hgB
    obtain ⟨⟨gx, x0, x1, x2⟩, -⟩ := HX8.out.later D9.out
    obtain ⟨-, -, ⟨ga, a0, a1, a2⟩, ⟨gb, b0, b1, b2⟩⟩ := HS8.out.later D9.out
    go_wp2_with fail
    clear gx x0 x1 x2 ga a0 a1 a2 gb b0 b1 b2
    obtain ⟨w10, hw10⟩ : ∃ x, w9.alloc (.cells #[.int .i64 4, .int .i64 3, .string ⟨#[]⟩] 23) = x := ⟨_, rfl⟩
    have hb10 := below_alloc w9 (.cells #[.int .i64 4, .int .i64 3, .string ⟨#[]⟩] 23)
    have W0 := Bx.new w9 4 3
    rw [hw10] at hb10 W0
    rw [hw10]
    have A10 := Lib.hid (A9.out.later hb10)
    have B10 := Lib.hid (B9.out.later hb10)
    have D10 := Lib.hid (below_to D9.out hb10)
    have nAW : gA ≠ w9.heap.size := by have := A9.out.at3.lt; omega
    have nBW : gB ≠ w9.heap.size := by have := B9.out.at3.lt; omega
    have hW8 : w8.heap.size ≤ w9.heap.size := D9.out.size
    obtain ⟨gW, hgW⟩ : ∃ g, w9.heap.size = g := ⟨_, rfl⟩
    rw [hgW] at W0 nAW nBW hW8
    rw [hgW]
    have W10 := Lib.hid W0
    clear hgW W0 hb10 hw10 A9 B9 D9
    have T10 := Lib.hid (HT8.out.later D10.out)
    refine wp_region_held_drew (S := fun w' => Below w10.heap.size w10 w') (by kernel_rfl) ((Below.refl _ _).drew) (fun hHeld => ?_)
    refine held_take (i := 0) (v := ?_) rfl (by kernel_rfl) (by kernel_rfl) (by kernel_rfl) (fun _ _ _ h => h) (by rfl) hHeld ?_ ?_
    rotate_left
    · intro wz hSz; go_simp; try with_reducible rfl
    simp only [Act.put, List.setIfInBounds_toArray, List.set_cons_zero, List.set_cons_succ]
    refine held_take (i := 2) (v := ?_) rfl (by kernel_rfl) (by kernel_rfl) (by kernel_rfl) (fun _ _ _ h => h) (by rfl) hHeld ?_ ?_
    rotate_left
    · intro wz hSz; obtain ⟨⟨-, q0, q1, q2⟩, -⟩ := A10.out.later hSz; go_simp; try with_reducible rfl
    simp only [Act.put, List.setIfInBounds_toArray, List.set_cons_zero, List.set_cons_succ]
    refine held_call (i := 1) (by kernel_rfl) rfl (by rfl) (by go_simp; try with_reducible rfl) (pq_any 16 4 3 _ _ _ _ ⟨0, 0, []⟩ ⟨2, 1, []⟩ _ (by decide) (by decide) ⟨by decide, by decide, by decide⟩ ⟨by decide, by decide, by decide⟩ (HE8.out.later (below_to D10.out hHeld)) (HS8.out.later (below_to D10.out hHeld)) rfl) ?_
    rintro e wy ⟨rfl, hy⟩
    refine ⟨_, rfl, below_to hHeld hy, ?_⟩
    replace hHeld := below_to hHeld hy
    simp only [Act.put, List.setIfInBounds_toArray, List.set_cons_zero, List.set_cons_succ]
    refine held_take (i := 3) (v := .bool true) rfl (by kernel_rfl) (by kernel_rfl) (by kernel_rfl) (fun _ _ _ h => h) (by rfl) hHeld ?_ ?_
    · intro wz hSz; (have ye := same_yes 4 3 ⟨#[]⟩ wz; go_simp; first | done | rfl | exact ye)
    simp only [Act.put, List.setIfInBounds_toArray, List.set_cons_zero, List.set_cons_succ]
    refine held_take (i := 4) (v := ?_) rfl (by kernel_rfl) (by kernel_rfl) (by kernel_rfl) (fun _ _ _ h => h) (by rfl) hHeld ?_ ?_
    rotate_left
    · intro wz hSz; go_simp; try with_reducible rfl
    simp only [Act.put, List.setIfInBounds_toArray, List.set_cons_zero, List.set_cons_succ]
    refine held_take (i := 5) (v := ?_) rfl (by kernel_rfl) (by kernel_rfl) (by kernel_rfl) (fun _ _ _ h => h) (by rfl) hHeld ?_ ?_
    rotate_left
    · intro wz hSz; go_simp; try with_reducible rfl
    simp only [Act.put, List.setIfInBounds_toArray, List.set_cons_zero, List.set_cons_succ]
    refine held_take (i := 7) (v := ?_) rfl (by kernel_rfl) (by kernel_rfl) (by kernel_rfl) (fun _ _ _ h => h) (by rfl) hHeld ?_ ?_
    rotate_left
    · intro wz hSz; obtain ⟨⟨-, q0, q1, q2⟩, -⟩ := B10.out.later hSz; go_simp; try with_reducible rfl
    simp only [Act.put, List.setIfInBounds_toArray, List.set_cons_zero, List.set_cons_succ]
    refine held_call (i := 6) (by kernel_rfl) rfl (by rfl) (by go_simp; try with_reducible rfl) (pq_any 17 4 3 _ _ _ _ ⟨0, 0, []⟩ ⟨2, 1, []⟩ _ (by decide) (by decide) ⟨by decide, by decide, by decide⟩ ⟨by decide, by decide, by decide⟩ (HE8.out.later (below_to D10.out hHeld)) (HS8.out.later (below_to D10.out hHeld)) rfl) ?_
    rintro e wy ⟨rfl, hy⟩
    refine ⟨_, rfl, below_to hHeld hy, ?_⟩
    replace hHeld := below_to hHeld hy
    simp only [Act.put, List.setIfInBounds_toArray, List.set_cons_zero, List.set_cons_succ]
    refine held_take (i := 8) (v := .bool true) rfl (by kernel_rfl) (by kernel_rfl) (by kernel_rfl) (fun _ _ _ h => h) (by rfl) hHeld ?_ ?_
    · intro wz hSz; (have ye := same_yes 4 3 ⟨#[]⟩ wz; go_simp; first | done | rfl | exact ye)
    simp only [Act.put, List.setIfInBounds_toArray, List.set_cons_zero, List.set_cons_succ]
    refine held_take (i := 9) (v := ?_) rfl (by kernel_rfl) (by kernel_rfl) (by kernel_rfl) (fun _ _ _ h => h) (by rfl) hHeld ?_ ?_
    rotate_left
    · intro wz hSz; go_simp; try with_reducible rfl
    simp only [Act.put, List.setIfInBounds_toArray, List.set_cons_zero, List.set_cons_succ]
    refine held_take (i := 10) (v := ?_) rfl (by kernel_rfl) (by kernel_rfl) (by kernel_rfl) (fun _ _ _ h => h) (by rfl) hHeld ?_ ?_
    rotate_left
    · intro wz hSz; go_simp; try with_reducible rfl
    simp only [Act.put, List.setIfInBounds_toArray, List.set_cons_zero, List.set_cons_succ]
    refine held_take (i := 11) (v := ?_) rfl (by kernel_rfl) (by kernel_rfl) (by kernel_rfl) (fun _ _ _ h => h) (by rfl) hHeld ?_ ?_
    rotate_left
    · intro wz hSz; obtain ⟨⟨-, q0, q1, q2⟩, -⟩ := T10.out.later hSz; go_simp; try with_reducible rfl
    simp only [Act.put, List.setIfInBounds_toArray, List.set_cons_zero, List.set_cons_succ]
    refine held_take (i := 12) (v := ?_) rfl (by kernel_rfl) (by kernel_rfl) (by kernel_rfl) (fun _ _ _ h => h) (by rfl) hHeld ?_ ?_
    rotate_left
    · intro wz hSz; obtain ⟨⟨-, q0, q1, q2⟩, -⟩ := W10.out.later hSz; go_simp; try with_reducible rfl
    simp only [Act.put, List.setIfInBounds_toArray, List.set_cons_zero, List.set_cons_succ]
    refine held_take (i := 13) (v := .bool true) rfl (by kernel_rfl) (by kernel_rfl) (by kernel_rfl) (fun _ _ _ h => h) (by rfl) hHeld ?_ ?_
    · intro wz hSz; (have ye := same_yes 4 3 ⟨#[]⟩ wz; go_simp; first | done | rfl | exact ye)
    simp only [Act.put, List.setIfInBounds_toArray, List.set_cons_zero, List.set_cons_succ]
    refine held_take (i := 14) (v := ?_) rfl (by kernel_rfl) (by kernel_rfl) (by kernel_rfl) (fun _ _ _ h => h) (by rfl) hHeld ?_ ?_
    rotate_left
    · intro wz hSz; go_simp; try with_reducible rfl
    simp only [Act.put, List.setIfInBounds_toArray, List.set_cons_zero, List.set_cons_succ]
    refine held_take (i := 15) (v := ?_) rfl (by kernel_rfl) (by kernel_rfl) (by kernel_rfl) (fun _ _ _ h => h) (by rfl) hHeld ?_ ?_
    rotate_left
    · intro wz hSz; go_simp; try with_reducible rfl
    simp only [Act.put, List.setIfInBounds_toArray, List.set_cons_zero, List.set_cons_succ]
    refine held_call (i := 16) (by kernel_rfl) rfl (by rfl) (by go_simp; try with_reducible rfl) (evawake_any _ (HE8.out.later (below_to D10.out hHeld))) ?_
    rintro e wy ⟨rfl, hy⟩
    refine ⟨_, rfl, below_to hHeld hy, ?_⟩
    replace hHeld := below_to hHeld hy
    simp only [Act.put, List.setIfInBounds_toArray, List.set_cons_zero, List.set_cons_succ]
    refine held_take (i := 17) (v := ?_) rfl (by kernel_rfl) (by kernel_rfl) (by kernel_rfl) (fun _ _ _ h => h) (by rfl) hHeld ?_ ?_
    rotate_left
    · intro wz hSz; go_simp; try with_reducible rfl
    simp only [Act.put, List.setIfInBounds_toArray, List.set_cons_zero, List.set_cons_succ]
    refine held_take (i := 18) (v := ?_) rfl (by kernel_rfl) (by kernel_rfl) (by kernel_rfl) (fun _ _ _ h => h) (by rfl) hHeld ?_ ?_
    rotate_left
    · intro wz hSz; go_simp; try with_reducible rfl
    simp only [Act.put, List.setIfInBounds_toArray, List.set_cons_zero, List.set_cons_succ]
    refine wpAnyH_done (by kernel_rfl) ?_ _
    have HBF := Lib.hid (below_to (below_to HB8.out D10.out) hHeld)
    go_wp2_with fail
    go_ret
    exact ⟨rfl, HBF.out⟩
set_option maxHeartbeats 8000000 in
set_option maxRecDepth 100000 in
theorem tr_22 (p q : Int) (w : World) (r t : Int) (hr : p.tmod 3 = r) (r0 : -2 ≤ r) (r1 : r ≤ 2) (ht : q.tmod 3 = t) (t0 : -2 ≤ t) (t1 : t ≤ 2) (hr3 : (r + 3).tmod 3 = 2) (ht3 : (t + 3).tmod 3 = 2) (hE : EnvP w) :
    Calls Tryz.prog 8 #[.int .i64 p, .int .i64 q] w fun e w' => e = .returned (.bool true) ∧ Below w.heap.size w w' := by
  obtain ⟨w6, hw6⟩ : ∃ w6, ((((((w.alloc (.cells #[.int .i64 2, .int .i64 0, .string ⟨#[]⟩, .int .i64 2, .int .i64 1, .string ⟨#[]⟩, .int .i64 0, .int .i64 0, .string ⟨#[]⟩] 23)).alloc (.cells #[.int .i64 0, .int .i64 0, .string ⟨#[]⟩] 23)).alloc (.cells #[.int .i64 0, .int .i64 0, .string ⟨#[]⟩] 23)).alloc (.cells #[.string ⟨#[112]⟩, .string ⟨#[113]⟩] 9)).alloc (.cells #[.slice (some ⟨w.heap.size + 1 + 1 + 1, 0, none⟩) 2 2] 31)).alloc (.cells #[.int .i64 4, .int .i64 3, .string ⟨#[]⟩] 23)) = w6 := ⟨_, rfl⟩
  obtain ⟨hs6, hB6, hS6, hX6⟩ := tru_mem w 0 0 0 0 w6 hw6
  have hE6 := hE.later hB6
  have cN := nt_call ⟨0, 0, []⟩ ⟨0, 0, []⟩ 4 3 (w.heap.size + 1 + 1 + 1) w6 ⟨by decide, by decide, by decide⟩ ⟨by decide, by decide, by decide⟩ (by decide) (by decide) hE6 hS6.names rfl
  rw [hs6] at cN
  dsimp only [vCells, ntCells] at cN
  have HE := Lib.hid hE6
  have HB6 := Lib.hid hB6
  have HS6 := Lib.hid hS6
  have HX6 := Lib.hid hX6
  have HW6 := Lib.hid hw6
  clear hE hE6 hB6 hS6 hX6 hw6
  go_enter Tryz.func8, Tryz.ntmps8
  go_wp2_with fail
  rw [HW6.out]
  (with_reducible refine cN.mono ?_)
  rintro e w7 ⟨rfl, d7⟩
  rw [← hs6] at d7
  have HS7 := Lib.hid (HS6.out.later d7)
  have HX7 := Lib.hid (HX6.out.later d7)
  have HB7 := Lib.hid (below_to HB6.out d7)
  have HE7 := Lib.hid (HE.out.later d7)
  clear cN d7 hs6 HE HS6 HX6 HB6 HW6
  obtain ⟨n0, -, ⟨ga, a0, a1, a2⟩, ⟨gb, b0, b1, b2⟩⟩ := HS7.out
  obtain ⟨⟨gx, x0, x1, x2⟩, -⟩ := HX7.out
  go_wp2_with fail
  obtain ⟨w8, hw8⟩ : ∃ w8, w7.alloc (.cells #[.int .i64 4, .int .i64 3, .string ⟨#[]⟩] 23) = w8 := ⟨_, rfl⟩
  rw [hw8]
  obtain ⟨HT8, hb8⟩ : Hid (Bx w8 w7.heap.size 4 3) ∧ Below w7.heap.size w7 w8 := by rw [← hw8]; exact ⟨Lib.hid (Bx.new w7 4 3), below_alloc w7 _⟩
  have HS8 := Lib.hid (HS7.out.later hb8)
  have HX8 := Lib.hid (HX7.out.later hb8)
  have HE8 := Lib.hid (HE7.out.later hb8)
  have HB8 := Lib.hid (below_to HB7.out hb8)
  clear n0 ga a0 a1 a2 gb b0 b1 b2 gx x0 x1 x2 HS7 HX7 HE7 HB7 hb8 hw8
  obtain ⟨⟨gx, x0, x1, x2⟩, -⟩ := HX8.out
  obtain ⟨⟨-, yz0, yz1, yz2⟩, -⟩ := HX8.out.later (below_alloc w8 (.cells #[.int .i64 0, .int .i64 0, .string ⟨#[]⟩] 23))
  obtain ⟨⟨-, yzz0, yzz1, yzz2⟩, -⟩ := (HX8.out.later (below_alloc w8 (.cells #[.int .i64 0, .int .i64 0, .string ⟨#[]⟩] 23))).later (below_alloc (w8.alloc (.cells #[.int .i64 0, .int .i64 0, .string ⟨#[]⟩] 23)) (.cells #[.int .i64 0, .int .i64 0, .string ⟨#[]⟩] 23))
  obtain ⟨⟨-, yzd0, yzd1, yzd2⟩, -⟩ := (HX8.out.later (below_alloc w8 (.cells #[.int .i64 0, .int .i64 0, .string ⟨#[]⟩] 23))).later (below_alloc (w8.alloc (.cells #[.int .i64 0, .int .i64 0, .string ⟨#[]⟩] 23)) (.cells #[.int .i64 4, .int .i64 3, .string ⟨#[]⟩] 23))
  obtain ⟨⟨-, yd0, yd1, yd2⟩, -⟩ := HX8.out.later (below_alloc w8 (.cells #[.int .i64 4, .int .i64 3, .string ⟨#[]⟩] 23))
  obtain ⟨⟨-, ydz0, ydz1, ydz2⟩, -⟩ := (HX8.out.later (below_alloc w8 (.cells #[.int .i64 4, .int .i64 3, .string ⟨#[]⟩] 23))).later (below_alloc (w8.alloc (.cells #[.int .i64 4, .int .i64 3, .string ⟨#[]⟩] 23)) (.cells #[.int .i64 0, .int .i64 0, .string ⟨#[]⟩] 23))
  obtain ⟨⟨-, ydd0, ydd1, ydd2⟩, -⟩ := (HX8.out.later (below_alloc w8 (.cells #[.int .i64 4, .int .i64 3, .string ⟨#[]⟩] 23))).later (below_alloc (w8.alloc (.cells #[.int .i64 4, .int .i64 3, .string ⟨#[]⟩] 23)) (.cells #[.int .i64 4, .int .i64 3, .string ⟨#[]⟩] 23))
  go_region
  · obtain ⟨w9, hw9⟩ : ∃ w9, ((w8.alloc (.cells #[.int .i64 4, .int .i64 3, .string ⟨#[]⟩] 23)).alloc (.cells #[.int .i64 4, .int .i64 3, .string ⟨#[]⟩] 23)).drew = w9 := ⟨_, rfl⟩
    obtain ⟨F0, F1, hs9, hb9⟩ := tru_two w8 w9 hw9
    rw [hw9]
    obtain ⟨gA, hgA⟩ : ∃ g, w8.heap.size = g := ⟨_, rfl⟩
    obtain ⟨gB, hgB⟩ : ∃ g, (w8.heap.size + 1) = g := ⟨_, rfl⟩
    have hAB : gA ≠ gB := by omega
    have hA8 : w8.heap.size ≤ gA := by omega
    have hB8 : w8.heap.size ≤ gB := by omega
    have A9 := Lib.hid (hgA ▸ F0)
    have B9 := Lib.hid (hgB ▸ F1)
    have D9 := Lib.hid hb9
    clear yz0 yz1 yz2 yzz0 yzz1 yzz2 yzd0 yzd1 yzd2 yd0 yd1 yd2 ydz0 ydz1 ydz2 ydd0 ydd1 ydd2 F0 F1 hb9 hw9 hs9 gx x0 x1 x2
    rw [hgB]
    rw [hgA]
    clear hgA hgB
    obtain ⟨⟨gx, x0, x1, x2⟩, -⟩ := HX8.out.later D9.out
    obtain ⟨-, -, ⟨ga, a0, a1, a2⟩, ⟨gb, b0, b1, b2⟩⟩ := HS8.out.later D9.out
    go_wp2_with fail
    clear gx x0 x1 x2 ga a0 a1 a2 gb b0 b1 b2
    obtain ⟨w10, hw10⟩ : ∃ x, w9.alloc (.cells #[.int .i64 4, .int .i64 3, .string ⟨#[]⟩] 23) = x := ⟨_, rfl⟩
    have hb10 := below_alloc w9 (.cells #[.int .i64 4, .int .i64 3, .string ⟨#[]⟩] 23)
    have W0 := Bx.new w9 4 3
    rw [hw10] at hb10 W0
    rw [hw10]
    have A10 := Lib.hid (A9.out.later hb10)
    have B10 := Lib.hid (B9.out.later hb10)
    have D10 := Lib.hid (below_to D9.out hb10)
    have nAW : gA ≠ w9.heap.size := by have := A9.out.at3.lt; omega
    have nBW : gB ≠ w9.heap.size := by have := B9.out.at3.lt; omega
    have hW8 : w8.heap.size ≤ w9.heap.size := D9.out.size
    obtain ⟨gW, hgW⟩ : ∃ g, w9.heap.size = g := ⟨_, rfl⟩
    rw [hgW] at W0 nAW nBW hW8
    rw [hgW]
    have W10 := Lib.hid W0
    clear hgW W0 hb10 hw10 A9 B9 D9
    have T10 := Lib.hid (HT8.out.later D10.out)
    refine wp_region_held_drew (S := fun w' => Below w10.heap.size w10 w') (by kernel_rfl) ((Below.refl _ _).drew) (fun hHeld => ?_)
    refine held_take (i := 0) (v := ?_) rfl (by kernel_rfl) (by kernel_rfl) (by kernel_rfl) (fun _ _ _ h => h) (by rfl) hHeld ?_ ?_
    rotate_left
    · intro wz hSz; go_simp; try with_reducible rfl
    simp only [Act.put, List.setIfInBounds_toArray, List.set_cons_zero, List.set_cons_succ]
    refine held_take (i := 2) (v := ?_) rfl (by kernel_rfl) (by kernel_rfl) (by kernel_rfl) (fun _ _ _ h => h) (by rfl) hHeld ?_ ?_
    rotate_left
    · intro wz hSz; obtain ⟨⟨-, q0, q1, q2⟩, -⟩ := A10.out.later hSz; go_simp; try with_reducible rfl
    simp only [Act.put, List.setIfInBounds_toArray, List.set_cons_zero, List.set_cons_succ]
    refine held_call (i := 1) (by kernel_rfl) rfl (by rfl) (by go_simp; try with_reducible rfl) (pq_any 16 4 3 _ _ _ _ ⟨0, 0, []⟩ ⟨0, 0, []⟩ _ (by decide) (by decide) ⟨by decide, by decide, by decide⟩ ⟨by decide, by decide, by decide⟩ (HE8.out.later (below_to D10.out hHeld)) (HS8.out.later (below_to D10.out hHeld)) rfl) ?_
    rintro e wy ⟨rfl, hy⟩
    refine ⟨_, rfl, below_to hHeld hy, ?_⟩
    replace hHeld := below_to hHeld hy
    simp only [Act.put, List.setIfInBounds_toArray, List.set_cons_zero, List.set_cons_succ]
    refine held_take (i := 3) (v := .bool true) rfl (by kernel_rfl) (by kernel_rfl) (by kernel_rfl) (fun _ _ _ h => h) (by rfl) hHeld ?_ ?_
    · intro wz hSz; (have ye := same_yes 4 3 ⟨#[]⟩ wz; go_simp; first | done | rfl | exact ye)
    simp only [Act.put, List.setIfInBounds_toArray, List.set_cons_zero, List.set_cons_succ]
    refine held_take (i := 4) (v := ?_) rfl (by kernel_rfl) (by kernel_rfl) (by kernel_rfl) (fun _ _ _ h => h) (by rfl) hHeld ?_ ?_
    rotate_left
    · intro wz hSz; go_simp; try with_reducible rfl
    simp only [Act.put, List.setIfInBounds_toArray, List.set_cons_zero, List.set_cons_succ]
    refine held_take (i := 5) (v := ?_) rfl (by kernel_rfl) (by kernel_rfl) (by kernel_rfl) (fun _ _ _ h => h) (by rfl) hHeld ?_ ?_
    rotate_left
    · intro wz hSz; go_simp; try with_reducible rfl
    simp only [Act.put, List.setIfInBounds_toArray, List.set_cons_zero, List.set_cons_succ]
    refine held_take (i := 7) (v := ?_) rfl (by kernel_rfl) (by kernel_rfl) (by kernel_rfl) (fun _ _ _ h => h) (by rfl) hHeld ?_ ?_
    rotate_left
    · intro wz hSz; obtain ⟨⟨-, q0, q1, q2⟩, -⟩ := B10.out.later hSz; go_simp; try with_reducible rfl
    simp only [Act.put, List.setIfInBounds_toArray, List.set_cons_zero, List.set_cons_succ]
    refine held_call (i := 6) (by kernel_rfl) rfl (by rfl) (by go_simp; try with_reducible rfl) (pq_any 17 4 3 _ _ _ _ ⟨0, 0, []⟩ ⟨0, 0, []⟩ _ (by decide) (by decide) ⟨by decide, by decide, by decide⟩ ⟨by decide, by decide, by decide⟩ (HE8.out.later (below_to D10.out hHeld)) (HS8.out.later (below_to D10.out hHeld)) rfl) ?_
    rintro e wy ⟨rfl, hy⟩
    refine ⟨_, rfl, below_to hHeld hy, ?_⟩
    replace hHeld := below_to hHeld hy
    simp only [Act.put, List.setIfInBounds_toArray, List.set_cons_zero, List.set_cons_succ]
    refine held_take (i := 8) (v := .bool true) rfl (by kernel_rfl) (by kernel_rfl) (by kernel_rfl) (fun _ _ _ h => h) (by rfl) hHeld ?_ ?_
    · intro wz hSz; (have ye := same_yes 4 3 ⟨#[]⟩ wz; go_simp; first | done | rfl | exact ye)
    simp only [Act.put, List.setIfInBounds_toArray, List.set_cons_zero, List.set_cons_succ]
    refine held_take (i := 9) (v := ?_) rfl (by kernel_rfl) (by kernel_rfl) (by kernel_rfl) (fun _ _ _ h => h) (by rfl) hHeld ?_ ?_
    rotate_left
    · intro wz hSz; go_simp; try with_reducible rfl
    simp only [Act.put, List.setIfInBounds_toArray, List.set_cons_zero, List.set_cons_succ]
    refine held_take (i := 10) (v := ?_) rfl (by kernel_rfl) (by kernel_rfl) (by kernel_rfl) (fun _ _ _ h => h) (by rfl) hHeld ?_ ?_
    rotate_left
    · intro wz hSz; go_simp; try with_reducible rfl
    simp only [Act.put, List.setIfInBounds_toArray, List.set_cons_zero, List.set_cons_succ]
    refine held_take (i := 11) (v := ?_) rfl (by kernel_rfl) (by kernel_rfl) (by kernel_rfl) (fun _ _ _ h => h) (by rfl) hHeld ?_ ?_
    rotate_left
    · intro wz hSz; obtain ⟨⟨-, q0, q1, q2⟩, -⟩ := T10.out.later hSz; go_simp; try with_reducible rfl
    simp only [Act.put, List.setIfInBounds_toArray, List.set_cons_zero, List.set_cons_succ]
    refine held_take (i := 12) (v := ?_) rfl (by kernel_rfl) (by kernel_rfl) (by kernel_rfl) (fun _ _ _ h => h) (by rfl) hHeld ?_ ?_
    rotate_left
    · intro wz hSz; obtain ⟨⟨-, q0, q1, q2⟩, -⟩ := W10.out.later hSz; go_simp; try with_reducible rfl
    simp only [Act.put, List.setIfInBounds_toArray, List.set_cons_zero, List.set_cons_succ]
    refine held_take (i := 13) (v := .bool true) rfl (by kernel_rfl) (by kernel_rfl) (by kernel_rfl) (fun _ _ _ h => h) (by rfl) hHeld ?_ ?_
    · intro wz hSz; (have ye := same_yes 4 3 ⟨#[]⟩ wz; go_simp; first | done | rfl | exact ye)
    simp only [Act.put, List.setIfInBounds_toArray, List.set_cons_zero, List.set_cons_succ]
    refine held_take (i := 14) (v := ?_) rfl (by kernel_rfl) (by kernel_rfl) (by kernel_rfl) (fun _ _ _ h => h) (by rfl) hHeld ?_ ?_
    rotate_left
    · intro wz hSz; go_simp; try with_reducible rfl
    simp only [Act.put, List.setIfInBounds_toArray, List.set_cons_zero, List.set_cons_succ]
    refine held_take (i := 15) (v := ?_) rfl (by kernel_rfl) (by kernel_rfl) (by kernel_rfl) (fun _ _ _ h => h) (by rfl) hHeld ?_ ?_
    rotate_left
    · intro wz hSz; go_simp; try with_reducible rfl
    simp only [Act.put, List.setIfInBounds_toArray, List.set_cons_zero, List.set_cons_succ]
    refine held_call (i := 16) (by kernel_rfl) rfl (by rfl) (by go_simp; try with_reducible rfl) (evawake_any _ (HE8.out.later (below_to D10.out hHeld))) ?_
    rintro e wy ⟨rfl, hy⟩
    refine ⟨_, rfl, below_to hHeld hy, ?_⟩
    replace hHeld := below_to hHeld hy
    simp only [Act.put, List.setIfInBounds_toArray, List.set_cons_zero, List.set_cons_succ]
    refine held_take (i := 17) (v := ?_) rfl (by kernel_rfl) (by kernel_rfl) (by kernel_rfl) (fun _ _ _ h => h) (by rfl) hHeld ?_ ?_
    rotate_left
    · intro wz hSz; go_simp; try with_reducible rfl
    simp only [Act.put, List.setIfInBounds_toArray, List.set_cons_zero, List.set_cons_succ]
    refine held_take (i := 18) (v := ?_) rfl (by kernel_rfl) (by kernel_rfl) (by kernel_rfl) (fun _ _ _ h => h) (by rfl) hHeld ?_ ?_
    rotate_left
    · intro wz hSz; go_simp; try with_reducible rfl
    simp only [Act.put, List.setIfInBounds_toArray, List.set_cons_zero, List.set_cons_succ]
    refine wpAnyH_done (by kernel_rfl) ?_ _
    have HBF := Lib.hid (below_to (below_to HB8.out D10.out) hHeld)
    go_wp2_with fail
    go_ret
    exact ⟨rfl, HBF.out⟩
  · obtain ⟨w9, hw9⟩ : ∃ w9, ((w8.alloc (.cells #[.int .i64 4, .int .i64 3, .string ⟨#[]⟩] 23)).alloc (.cells #[.int .i64 4, .int .i64 3, .string ⟨#[]⟩] 23)).drew = w9 := ⟨_, rfl⟩
    obtain ⟨F0, F1, hs9, hb9⟩ := tru_two w8 w9 hw9
    rw [hw9]
    obtain ⟨gA, hgA⟩ : ∃ g, (w8.heap.size + 1) = g := ⟨_, rfl⟩
    obtain ⟨gB, hgB⟩ : ∃ g, w8.heap.size = g := ⟨_, rfl⟩
    have hAB : gA ≠ gB := by omega
    have hA8 : w8.heap.size ≤ gA := by omega
    have hB8 : w8.heap.size ≤ gB := by omega
    have A9 := Lib.hid (hgA ▸ F1)
    have B9 := Lib.hid (hgB ▸ F0)
    have D9 := Lib.hid hb9
    clear yz0 yz1 yz2 yzz0 yzz1 yzz2 yzd0 yzd1 yzd2 yd0 yd1 yd2 ydz0 ydz1 ydz2 ydd0 ydd1 ydd2 F0 F1 hb9 hw9 hs9 gx x0 x1 x2
    rw [hgA]
    rw [hgB]
    clear hgA hgB
    obtain ⟨⟨gx, x0, x1, x2⟩, -⟩ := HX8.out.later D9.out
    obtain ⟨-, -, ⟨ga, a0, a1, a2⟩, ⟨gb, b0, b1, b2⟩⟩ := HS8.out.later D9.out
    go_wp2_with fail
    clear gx x0 x1 x2 ga a0 a1 a2 gb b0 b1 b2
    obtain ⟨w10, hw10⟩ : ∃ x, w9.alloc (.cells #[.int .i64 4, .int .i64 3, .string ⟨#[]⟩] 23) = x := ⟨_, rfl⟩
    have hb10 := below_alloc w9 (.cells #[.int .i64 4, .int .i64 3, .string ⟨#[]⟩] 23)
    have W0 := Bx.new w9 4 3
    rw [hw10] at hb10 W0
    rw [hw10]
    have A10 := Lib.hid (A9.out.later hb10)
    have B10 := Lib.hid (B9.out.later hb10)
    have D10 := Lib.hid (below_to D9.out hb10)
    have nAW : gA ≠ w9.heap.size := by have := A9.out.at3.lt; omega
    have nBW : gB ≠ w9.heap.size := by have := B9.out.at3.lt; omega
    have hW8 : w8.heap.size ≤ w9.heap.size := D9.out.size
    obtain ⟨gW, hgW⟩ : ∃ g, w9.heap.size = g := ⟨_, rfl⟩
    rw [hgW] at W0 nAW nBW hW8
    rw [hgW]
    have W10 := Lib.hid W0
    clear hgW W0 hb10 hw10 A9 B9 D9
    have T10 := Lib.hid (HT8.out.later D10.out)
    refine wp_region_held_drew (S := fun w' => Below w10.heap.size w10 w') (by kernel_rfl) ((Below.refl _ _).drew) (fun hHeld => ?_)
    refine held_take (i := 0) (v := ?_) rfl (by kernel_rfl) (by kernel_rfl) (by kernel_rfl) (fun _ _ _ h => h) (by rfl) hHeld ?_ ?_
    rotate_left
    · intro wz hSz; go_simp; try with_reducible rfl
    simp only [Act.put, List.setIfInBounds_toArray, List.set_cons_zero, List.set_cons_succ]
    refine held_take (i := 2) (v := ?_) rfl (by kernel_rfl) (by kernel_rfl) (by kernel_rfl) (fun _ _ _ h => h) (by rfl) hHeld ?_ ?_
    rotate_left
    · intro wz hSz; obtain ⟨⟨-, q0, q1, q2⟩, -⟩ := A10.out.later hSz; go_simp; try with_reducible rfl
    simp only [Act.put, List.setIfInBounds_toArray, List.set_cons_zero, List.set_cons_succ]
    refine held_call (i := 1) (by kernel_rfl) rfl (by rfl) (by go_simp; try with_reducible rfl) (pq_any 16 4 3 _ _ _ _ ⟨0, 0, []⟩ ⟨0, 0, []⟩ _ (by decide) (by decide) ⟨by decide, by decide, by decide⟩ ⟨by decide, by decide, by decide⟩ (HE8.out.later (below_to D10.out hHeld)) (HS8.out.later (below_to D10.out hHeld)) rfl) ?_
    rintro e wy ⟨rfl, hy⟩
    refine ⟨_, rfl, below_to hHeld hy, ?_⟩
    replace hHeld := below_to hHeld hy
    simp only [Act.put, List.setIfInBounds_toArray, List.set_cons_zero, List.set_cons_succ]
    refine held_take (i := 3) (v := .bool true) rfl (by kernel_rfl) (by kernel_rfl) (by kernel_rfl) (fun _ _ _ h => h) (by rfl) hHeld ?_ ?_
    · intro wz hSz; (have ye := same_yes 4 3 ⟨#[]⟩ wz; go_simp; first | done | rfl | exact ye)
    simp only [Act.put, List.setIfInBounds_toArray, List.set_cons_zero, List.set_cons_succ]
    refine held_take (i := 4) (v := ?_) rfl (by kernel_rfl) (by kernel_rfl) (by kernel_rfl) (fun _ _ _ h => h) (by rfl) hHeld ?_ ?_
    rotate_left
    · intro wz hSz; go_simp; try with_reducible rfl
    simp only [Act.put, List.setIfInBounds_toArray, List.set_cons_zero, List.set_cons_succ]
    refine held_take (i := 5) (v := ?_) rfl (by kernel_rfl) (by kernel_rfl) (by kernel_rfl) (fun _ _ _ h => h) (by rfl) hHeld ?_ ?_
    rotate_left
    · intro wz hSz; go_simp; try with_reducible rfl
    simp only [Act.put, List.setIfInBounds_toArray, List.set_cons_zero, List.set_cons_succ]
    refine held_take (i := 7) (v := ?_) rfl (by kernel_rfl) (by kernel_rfl) (by kernel_rfl) (fun _ _ _ h => h) (by rfl) hHeld ?_ ?_
    rotate_left
    · intro wz hSz; obtain ⟨⟨-, q0, q1, q2⟩, -⟩ := B10.out.later hSz; go_simp; try with_reducible rfl
    simp only [Act.put, List.setIfInBounds_toArray, List.set_cons_zero, List.set_cons_succ]
    refine held_call (i := 6) (by kernel_rfl) rfl (by rfl) (by go_simp; try with_reducible rfl) (pq_any 17 4 3 _ _ _ _ ⟨0, 0, []⟩ ⟨0, 0, []⟩ _ (by decide) (by decide) ⟨by decide, by decide, by decide⟩ ⟨by decide, by decide, by decide⟩ (HE8.out.later (below_to D10.out hHeld)) (HS8.out.later (below_to D10.out hHeld)) rfl) ?_
    rintro e wy ⟨rfl, hy⟩
    refine ⟨_, rfl, below_to hHeld hy, ?_⟩
    replace hHeld := below_to hHeld hy
    simp only [Act.put, List.setIfInBounds_toArray, List.set_cons_zero, List.set_cons_succ]
    refine held_take (i := 8) (v := .bool true) rfl (by kernel_rfl) (by kernel_rfl) (by kernel_rfl) (fun _ _ _ h => h) (by rfl) hHeld ?_ ?_
    · intro wz hSz; (have ye := same_yes 4 3 ⟨#[]⟩ wz; go_simp; first | done | rfl | exact ye)
    simp only [Act.put, List.setIfInBounds_toArray, List.set_cons_zero, List.set_cons_succ]
    refine held_take (i := 9) (v := ?_) rfl (by kernel_rfl) (by kernel_rfl) (by kernel_rfl) (fun _ _ _ h => h) (by rfl) hHeld ?_ ?_
    rotate_left
    · intro wz hSz; go_simp; try with_reducible rfl
    simp only [Act.put, List.setIfInBounds_toArray, List.set_cons_zero, List.set_cons_succ]
    refine held_take (i := 10) (v := ?_) rfl (by kernel_rfl) (by kernel_rfl) (by kernel_rfl) (fun _ _ _ h => h) (by rfl) hHeld ?_ ?_
    rotate_left
    · intro wz hSz; go_simp; try with_reducible rfl
    simp only [Act.put, List.setIfInBounds_toArray, List.set_cons_zero, List.set_cons_succ]
    refine held_take (i := 11) (v := ?_) rfl (by kernel_rfl) (by kernel_rfl) (by kernel_rfl) (fun _ _ _ h => h) (by rfl) hHeld ?_ ?_
    rotate_left
    · intro wz hSz; obtain ⟨⟨-, q0, q1, q2⟩, -⟩ := T10.out.later hSz; go_simp; try with_reducible rfl
    simp only [Act.put, List.setIfInBounds_toArray, List.set_cons_zero, List.set_cons_succ]
    refine held_take (i := 12) (v := ?_) rfl (by kernel_rfl) (by kernel_rfl) (by kernel_rfl) (fun _ _ _ h => h) (by rfl) hHeld ?_ ?_
    rotate_left
    · intro wz hSz; obtain ⟨⟨-, q0, q1, q2⟩, -⟩ := W10.out.later hSz; go_simp; try with_reducible rfl
    simp only [Act.put, List.setIfInBounds_toArray, List.set_cons_zero, List.set_cons_succ]
    refine held_take (i := 13) (v := .bool true) rfl (by kernel_rfl) (by kernel_rfl) (by kernel_rfl) (fun _ _ _ h => h) (by rfl) hHeld ?_ ?_
    · intro wz hSz; (have ye := same_yes 4 3 ⟨#[]⟩ wz; go_simp; first | done | rfl | exact ye)
    simp only [Act.put, List.setIfInBounds_toArray, List.set_cons_zero, List.set_cons_succ]
    refine held_take (i := 14) (v := ?_) rfl (by kernel_rfl) (by kernel_rfl) (by kernel_rfl) (fun _ _ _ h => h) (by rfl) hHeld ?_ ?_
    rotate_left
    · intro wz hSz; go_simp; try with_reducible rfl
    simp only [Act.put, List.setIfInBounds_toArray, List.set_cons_zero, List.set_cons_succ]
    refine held_take (i := 15) (v := ?_) rfl (by kernel_rfl) (by kernel_rfl) (by kernel_rfl) (fun _ _ _ h => h) (by rfl) hHeld ?_ ?_
    rotate_left
    · intro wz hSz; go_simp; try with_reducible rfl
    simp only [Act.put, List.setIfInBounds_toArray, List.set_cons_zero, List.set_cons_succ]
    refine held_call (i := 16) (by kernel_rfl) rfl (by rfl) (by go_simp; try with_reducible rfl) (evawake_any _ (HE8.out.later (below_to D10.out hHeld))) ?_
    rintro e wy ⟨rfl, hy⟩
    refine ⟨_, rfl, below_to hHeld hy, ?_⟩
    replace hHeld := below_to hHeld hy
    simp only [Act.put, List.setIfInBounds_toArray, List.set_cons_zero, List.set_cons_succ]
    refine held_take (i := 17) (v := ?_) rfl (by kernel_rfl) (by kernel_rfl) (by kernel_rfl) (fun _ _ _ h => h) (by rfl) hHeld ?_ ?_
    rotate_left
    · intro wz hSz; go_simp; try with_reducible rfl
    simp only [Act.put, List.setIfInBounds_toArray, List.set_cons_zero, List.set_cons_succ]
    refine held_take (i := 18) (v := ?_) rfl (by kernel_rfl) (by kernel_rfl) (by kernel_rfl) (fun _ _ _ h => h) (by rfl) hHeld ?_ ?_
    rotate_left
    · intro wz hSz; go_simp; try with_reducible rfl
    simp only [Act.put, List.setIfInBounds_toArray, List.set_cons_zero, List.set_cons_succ]
    refine wpAnyH_done (by kernel_rfl) ?_ _
    have HBF := Lib.hid (below_to (below_to HB8.out D10.out) hHeld)
    go_wp2_with fail
    go_ret
    exact ⟨rfl, HBF.out⟩
end Go.Proofs.YtepppianhafdjaaGreatDoor
