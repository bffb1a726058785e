/- The contract of the document's own Put of a command, by kinds. Printed by gen/cmrput.py. -/
import Derived.Test.YtkbeemkmcnfiiaaGreatDoorMCmAny
import Derived.Test.YtkbeemkmcnfiiaaGreatDoorMHeld2
import Derived.Deep.CutRange
namespace Go.Proofs.YtkbeemkmcnfiiaaGreatDoor
open Go.RowKit

/-- A row of bytes of the call's own, in slot v. -/
def OB (w wx : World) (L : List UInt8) (v : Value) : Prop := wx.ownsRow w.heap.size 5 1 v L.length (Lib.byteCells L)
theorem OB.later {w wx wy : World} {L : List UInt8} {v : Value} (h : OB w wx L v) (hb : Below wx.heap.size wx wy) : OB w wy L v := own_later h hb
theorem OB.drew {w wx : World} {L : List UInt8} {v : Value} (h : OB w wx L v) : OB w wx.drew L v := h.later (Below.refl _ _).drew
theorem OB.end {w w0 wx : World} {L : List UInt8} {v : Value} (h : OB w0 wx L v) (h0 : Below w.heap.size w w0) (hb : Below w0.heap.size w0 wx) : OwnBytes w L (.returned v) wx := own_bytes (World.ownsRow.mono h h0.size) (below_to h0 hb)
theorem ob_put {w wx : World} {L M : List UInt8} {v : Value} (h : OB w wx L v) (p : 1 ≤ L.length) (pm : 1 ≤ M.length) {A : Option Addr} (cap : Nat) (hB : Bs wx A M) (hl : L.length + M.length ≤ 140737488355328) (hz : w.heap.size ≤ wx.heap.size) :
    ∃ v3 w3, (Builtin.append_ #[33, 33] 33 #[v, .slice A M.length cap]).run Tryz.prog wx = .ok v3 w3 ∧ OB w w3 (L ++ M) v3 ∧ Below w.heap.size wx w3 :=
  run_append_own_src wx 33 33 w.heap.size _ L M h p _ (src_slice cap hB pm) hl hz
theorem putV_len (K n : Int) (s : List UInt8) (k0 : -9223372036854775808 ≤ K) (k1 : K ≤ 9223372036854775807) (n0 : -9223372036854775808 ≤ n) (n1 : n ≤ 9223372036854775807) (h : s.length ≤ 1000000) : 1 ≤ (putV K n s).length ∧ (putV K n s).length ≤ s.length + 30 := by
  have a := putI_pos K
  have a2 := putI_ten (v := K) k0 k1
  have b2 := putI_ten (v := n) n0 n1
  have c := putT_len s h
  unfold putV
  simp only [List.length_append]
  omega

set_option maxHeartbeats 2000000 in
set_option maxRecDepth 100000 in
theorem rput_1 (se sq : Int) (f : ByteArray) (ve K n : Int) (s : ByteArray) (hi : Cm.In ⟨1, se, sq, f, ve, K, n, s⟩) (w : World) (_ : f.data.toList.length ≤ 1000000) (_ : s.data.toList.length ≤ 1000000) :
    Calls Tryz.prog 16 #[V8 1 se sq f ve K n s] w (OwnBytes w (putC ⟨1, se, sq, f, ve, K, n, s⟩)) := by
  obtain ⟨-, -, e0, e1, q0, q1, v0, v1, K0, K1, n0, n1⟩ := hi
  simp only at e0 e1 q0 q1 v0 v1 K0 K1 n0 n1
  have hG := putC_1 (c := ⟨1, se, sq, f, ve, K, n, s⟩) rfl
  try dsimp only at hG
  rw [hG]; clear hG
  have b0 := below_alloc w (.cells (cs8 1 se sq f ve K n s) 25)
  have C0 := Blk.new w (cs8 1 se sq f ve K n s) 25
  obtain ⟨w0, hw0⟩ : ∃ w0, w.alloc (.cells (cs8 1 se sq f ve K n s) 25) = w0 := ⟨_, rfl⟩
  rw [hw0] at b0 C0
  have kC := fun wz (h : Below w0.heap.size w0 wz) => (C0.later h).c8
  have c0 := fun w => refint_any 1 w (by decide) (by decide)
  have p0 := putI_pos 1
  have t0 := putI_ten (v := 1) (by decide) (by decide)
  obtain ⟨M0, hM0⟩ : ∃ M, putI 1 = M := ⟨_, rfl⟩
  simp only [hM0] at c0 p0 t0 ⊢
  clear hM0
  go_enter Tryz.func16, Tryz.ntmps16
  obtain ⟨hl, z0, z1, z2, z3, z4, z5, z6, z7⟩ := C0.c8
  go_wp2_with fail
  refine (c0 w0).mono ?_
  rintro x w1 ⟨A0, cap0, rfl, hB0, _, ho0, hb1⟩
  have hOB : OB w0 w1 M0 (.slice A0 M0.length cap0) := ho0
  clear hl z0 z1 z2 z3 z4 z5 z6 z7 hw0 c0 hB0 ho0
  obtain ⟨hl, z0, z1, z2, z3, z4, z5, z6, z7⟩ := kC w1 hb1
  have HF := Lib.hid (hOB.end b0 hb1)
  go_wp2
  go_ret
  exact HF.out
set_option maxHeartbeats 2000000 in
set_option maxRecDepth 100000 in
theorem rput_3 (se sq : Int) (f : ByteArray) (ve K n : Int) (s : ByteArray) (hi : Cm.In ⟨3, se, sq, f, ve, K, n, s⟩) (w : World) (_ : f.data.toList.length ≤ 1000000) (_ : s.data.toList.length ≤ 1000000) :
    Calls Tryz.prog 16 #[V8 3 se sq f ve K n s] w (OwnBytes w (putC ⟨3, se, sq, f, ve, K, n, s⟩)) := by
  obtain ⟨-, -, e0, e1, q0, q1, v0, v1, K0, K1, n0, n1⟩ := hi
  simp only at e0 e1 q0 q1 v0 v1 K0 K1 n0 n1
  have hG := putC_3 (c := ⟨3, se, sq, f, ve, K, n, s⟩) rfl
  try dsimp only at hG
  rw [hG]; clear hG
  have b0 := below_alloc w (.cells (cs8 3 se sq f ve K n s) 25)
  have C0 := Blk.new w (cs8 3 se sq f ve K n s) 25
  obtain ⟨w0, hw0⟩ : ∃ w0, w.alloc (.cells (cs8 3 se sq f ve K n s) 25) = w0 := ⟨_, rfl⟩
  rw [hw0] at b0 C0
  have kC := fun wz (h : Below w0.heap.size w0 wz) => (C0.later h).c8
  have c0 := fun w => refint_any 3 w (by decide) (by decide)
  have p0 := putI_pos 3
  have t0 := putI_ten (v := 3) (by decide) (by decide)
  obtain ⟨M0, hM0⟩ : ∃ M, putI 3 = M := ⟨_, rfl⟩
  simp only [hM0] at c0 p0 t0 ⊢
  have c1 := fun w => refint_any se w e0 e1
  have p1 := putI_pos se
  have t1 := putI_ten (v := se) e0 e1
  obtain ⟨X1, hX1⟩ : ∃ M, putI se = M := ⟨_, rfl⟩
  simp only [hX1] at c1 p1 t1 ⊢
  have c2 := fun w => refint_any sq w q0 q1
  have p2 := putI_pos sq
  have t2 := putI_ten (v := sq) q0 q1
  obtain ⟨X2, hX2⟩ : ∃ M, putI sq = M := ⟨_, rfl⟩
  simp only [hX2] at c2 p2 t2 ⊢
  clear hM0 hX1 hX2
  go_enter Tryz.func16, Tryz.ntmps16
  obtain ⟨hl, z0, z1, z2, z3, z4, z5, z6, z7⟩ := C0.c8
  go_wp2_with fail
  refine (c0 w0).mono ?_
  rintro x w1 ⟨A0, cap0, rfl, hB0, _, ho0, hb1⟩
  have hOB : OB w0 w1 M0 (.slice A0 M0.length cap0) := ho0
  clear hl z0 z1 z2 z3 z4 z5 z6 z7 hw0 c0 hB0 ho0
  obtain ⟨hl, z0, z1, z2, z3, z4, z5, z6, z7⟩ := kC w1 hb1
  go_upto_region 4 with (fail)
  clear hl z0 z1 z2 z3 z4 z5 z6 z7
  go_cut [3] from 4 (fun s3 wx => Hid (OB w0 wx (M0 ++ X1 ++ X2) s3) ∧ Hid (Below w0.heap.size w0 wx))
  case first =>
    refine wp_region_held_drew (S := fun w' => Below w0.heap.size w0 w') (by kernel_rfl) (hb1.drew) (fun hHeld => ?_)
    have hOW := hOB.drew
    refine held_take (i := 0) (v := ?_) rfl (by kernel_rfl) (by kernel_rfl) (by kernel_rfl) (fun _ _ _ h => h) (by rfl) hHeld ?_ ?_
    rotate_left
    · intro wz hSz; go_simp; try with_reducible rfl
    simp only [Act.put, List.setIfInBounds_toArray, List.set_cons_zero, List.set_cons_succ]
    refine held_take (i := 1) (v := ?_) rfl (by kernel_rfl) (by kernel_rfl) (by kernel_rfl) (fun _ _ _ h => h) (by rfl) hHeld ?_ ?_
    rotate_left
    · intro wz hSz; go_simp; try with_reducible rfl
    simp only [Act.put, List.setIfInBounds_toArray, List.set_cons_zero, List.set_cons_succ]
    refine held_take (i := 2) (v := ?_) rfl (by kernel_rfl) (by kernel_rfl) (by kernel_rfl) (fun _ _ _ h => h) (by rfl) hHeld ?_ ?_
    rotate_left
    · intro wz hSz; obtain ⟨q8, q0, q1, q2, q3, q4, q5, q6, q7⟩ := kC wz hSz; go_simp; try with_reducible rfl
    simp only [Act.put, List.setIfInBounds_toArray, List.set_cons_zero, List.set_cons_succ]
    refine held_take (i := 5) (v := ?_) rfl (by kernel_rfl) (by kernel_rfl) (by kernel_rfl) (fun _ _ _ h => h) (by rfl) hHeld ?_ ?_
    rotate_left
    · intro wz hSz; go_simp; try with_reducible rfl
    simp only [Act.put, List.setIfInBounds_toArray, List.set_cons_zero, List.set_cons_succ]
    refine held_take (i := 6) (v := ?_) rfl (by kernel_rfl) (by kernel_rfl) (by kernel_rfl) (fun _ _ _ h => h) (by rfl) hHeld ?_ ?_
    rotate_left
    · intro wz hSz; obtain ⟨q8, q0, q1, q2, q3, q4, q5, q6, q7⟩ := kC wz hSz; go_simp; try with_reducible rfl
    simp only [Act.put, List.setIfInBounds_toArray, List.set_cons_zero, List.set_cons_succ]
    refine held_call (i := 3) (by kernel_rfl) rfl (by rfl) (by go_simp; try with_reducible rfl) (c1 _) ?_
    rintro e wy ⟨A1, cap1, rfl, hB1, _, _, hy⟩
    refine ⟨_, rfl, below_to hHeld hy, ?_⟩
    replace hHeld := below_to hHeld hy
    simp only [Act.put, List.setIfInBounds_toArray, List.set_cons_zero, List.set_cons_succ]
    replace hOW := hOW.later hy
    clear hy
    obtain ⟨v3, w3, hr3, ho3, hb3⟩ := ob_put hOW p0 p1 cap1 hB1 (by omega) hHeld.size
    refine held_make (i := 4) (v := v3) (w' := w3) (by kernel_rfl) rfl (by rfl) (run_op_append (.tmp 11) (.tmp 14) rfl hr3) (hHeld.trans hb3) ?_
    simp only [Act.put, List.setIfInBounds_toArray, List.set_cons_zero, List.set_cons_succ]
    replace hHeld := hHeld.trans hb3
    clear hr3 hb3 hB1
    refine held_call (i := 7) (by kernel_rfl) rfl (by rfl) (by go_simp; try with_reducible rfl) (c2 _) ?_
    rintro e wy ⟨A2, cap2, rfl, hB2, _, _, hy⟩
    refine ⟨_, rfl, below_to hHeld hy, ?_⟩
    replace hHeld := below_to hHeld hy
    simp only [Act.put, List.setIfInBounds_toArray, List.set_cons_zero, List.set_cons_succ]
    replace ho3 := ho3.later hy
    clear hy
    obtain ⟨v4, w4, hr4, ho4, hb4⟩ := ob_put ho3 (by rw [List.length_append]; omega) p2 cap2 hB2 (by rw [List.length_append]; omega) hHeld.size
    refine held_make (i := 8) (v := v4) (w' := w4) (by kernel_rfl) rfl (by rfl) (run_op_append (.tmp 15) (.tmp 18) rfl hr4) (hHeld.trans hb4) ?_
    simp only [Act.put, List.setIfInBounds_toArray, List.set_cons_zero, List.set_cons_succ]
    replace hHeld := hHeld.trans hb4
    refine held_take (i := 9) (v := ?_) rfl (by kernel_rfl) (by kernel_rfl) (by kernel_rfl) (fun _ _ _ h => h) (by rfl) hHeld ?_ ?_
    rotate_left
    · intro wz hSz; go_simp; try with_reducible rfl
    simp only [Act.put, List.setIfInBounds_toArray, List.set_cons_zero, List.set_cons_succ]
    refine wpAnyH_done (by kernel_rfl) ?_ _
    go_wp2_with fail
    go_meet
    exact ⟨Lib.hid ho4, Lib.hid hHeld⟩
  case rest =>
    obtain ⟨HO2, HB2⟩ := hcut
    obtain ⟨M2, hM2⟩ : ∃ M, M0 ++ X1 ++ X2 = M := ⟨_, rfl⟩
    have l2 : M2.length ≤ 30 ∧ 1 ≤ M2.length := by rw [← hM2, List.length_append, List.length_append]; omega
    skip
    obtain ⟨l2, g2⟩ := l2
    have HM2 := Lib.hid hM2
    clear hM2 hOB hb1 c1 c2 p1 p2 t1 t2 p0 t0
    obtain ⟨hl, z0, z1, z2, z3, z4, z5, z6, z7⟩ := kC _ HB2.out
    have HF := Lib.hid (HO2.out.end b0 HB2.out)
    go_wp2
    go_ret
    exact HF.out
set_option maxHeartbeats 2000000 in
set_option maxRecDepth 100000 in
theorem rput_4 (se sq : Int) (f : ByteArray) (ve K n : Int) (s : ByteArray) (hi : Cm.In ⟨4, se, sq, f, ve, K, n, s⟩) (w : World) (hf : f.data.toList.length ≤ 1000000) (_ : s.data.toList.length ≤ 1000000) :
    Calls Tryz.prog 16 #[V8 4 se sq f ve K n s] w (OwnBytes w (putC ⟨4, se, sq, f, ve, K, n, s⟩)) := by
  obtain ⟨-, -, e0, e1, q0, q1, v0, v1, K0, K1, n0, n1⟩ := hi
  simp only at e0 e1 q0 q1 v0 v1 K0 K1 n0 n1
  have hG := putC_4 (c := ⟨4, se, sq, f, ve, K, n, s⟩) rfl
  try dsimp only at hG
  rw [hG]; clear hG
  have b0 := below_alloc w (.cells (cs8 4 se sq f ve K n s) 25)
  have C0 := Blk.new w (cs8 4 se sq f ve K n s) 25
  obtain ⟨w0, hw0⟩ : ∃ w0, w.alloc (.cells (cs8 4 se sq f ve K n s) 25) = w0 := ⟨_, rfl⟩
  rw [hw0] at b0 C0
  have kC := fun wz (h : Below w0.heap.size w0 wz) => (C0.later h).c8
  have c0 := fun w => refint_any 4 w (by decide) (by decide)
  have p0 := putI_pos 4
  have t0 := putI_ten (v := 4) (by decide) (by decide)
  obtain ⟨M0, hM0⟩ : ∃ M, putI 4 = M := ⟨_, rfl⟩
  simp only [hM0] at c0 p0 t0 ⊢
  have c1 := fun w => refint_any se w e0 e1
  have p1 := putI_pos se
  have t1 := putI_ten (v := se) e0 e1
  obtain ⟨X1, hX1⟩ : ∃ M, putI se = M := ⟨_, rfl⟩
  simp only [hX1] at c1 p1 t1 ⊢
  have c2 := fun w => refint_any sq w q0 q1
  have p2 := putI_pos sq
  have t2 := putI_ten (v := sq) q0 q1
  obtain ⟨X2, hX2⟩ : ∃ M, putI sq = M := ⟨_, rfl⟩
  simp only [hX2] at c2 p2 t2 ⊢
  have c3 := fun w => reftext_any f w (by omega)
  have t3 := putT_len f.data.toList hf
  obtain ⟨X3, hX3⟩ : ∃ M, putT f.data.toList = M := ⟨_, rfl⟩
  simp only [hX3] at c3 t3 ⊢
  obtain ⟨p3, t3⟩ := t3
  clear hM0 hX1 hX2 hX3
  go_enter Tryz.func16, Tryz.ntmps16
  obtain ⟨hl, z0, z1, z2, z3, z4, z5, z6, z7⟩ := C0.c8
  go_wp2_with fail
  refine (c0 w0).mono ?_
  rintro x w1 ⟨A0, cap0, rfl, hB0, _, ho0, hb1⟩
  have hOB : OB w0 w1 M0 (.slice A0 M0.length cap0) := ho0
  clear hl z0 z1 z2 z3 z4 z5 z6 z7 hw0 c0 hB0 ho0
  obtain ⟨hl, z0, z1, z2, z3, z4, z5, z6, z7⟩ := kC w1 hb1
  go_upto_region 4 with (fail)
  clear hl z0 z1 z2 z3 z4 z5 z6 z7
  go_cut [3] from 4 (fun s3 wx => Hid (OB w0 wx (M0 ++ X1 ++ X2) s3) ∧ Hid (Below w0.heap.size w0 wx))
  case first =>
    refine wp_region_held_drew (S := fun w' => Below w0.heap.size w0 w') (by kernel_rfl) (hb1.drew) (fun hHeld => ?_)
    have hOW := hOB.drew
    refine held_take (i := 0) (v := ?_) rfl (by kernel_rfl) (by kernel_rfl) (by kernel_rfl) (fun _ _ _ h => h) (by rfl) hHeld ?_ ?_
    rotate_left
    · intro wz hSz; go_simp; try with_reducible rfl
    simp only [Act.put, List.setIfInBounds_toArray, List.set_cons_zero, List.set_cons_succ]
    refine held_take (i := 1) (v := ?_) rfl (by kernel_rfl) (by kernel_rfl) (by kernel_rfl) (fun _ _ _ h => h) (by rfl) hHeld ?_ ?_
    rotate_left
    · intro wz hSz; go_simp; try with_reducible rfl
    simp only [Act.put, List.setIfInBounds_toArray, List.set_cons_zero, List.set_cons_succ]
    refine held_take (i := 2) (v := ?_) rfl (by kernel_rfl) (by kernel_rfl) (by kernel_rfl) (fun _ _ _ h => h) (by rfl) hHeld ?_ ?_
    rotate_left
    · intro wz hSz; obtain ⟨q8, q0, q1, q2, q3, q4, q5, q6, q7⟩ := kC wz hSz; go_simp; try with_reducible rfl
    simp only [Act.put, List.setIfInBounds_toArray, List.set_cons_zero, List.set_cons_succ]
    refine held_take (i := 5) (v := ?_) rfl (by kernel_rfl) (by kernel_rfl) (by kernel_rfl) (fun _ _ _ h => h) (by rfl) hHeld ?_ ?_
    rotate_left
    · intro wz hSz; go_simp; try with_reducible rfl
    simp only [Act.put, List.setIfInBounds_toArray, List.set_cons_zero, List.set_cons_succ]
    refine held_take (i := 6) (v := ?_) rfl (by kernel_rfl) (by kernel_rfl) (by kernel_rfl) (fun _ _ _ h => h) (by rfl) hHeld ?_ ?_
    rotate_left
    · intro wz hSz; obtain ⟨q8, q0, q1, q2, q3, q4, q5, q6, q7⟩ := kC wz hSz; go_simp; try with_reducible rfl
    simp only [Act.put, List.setIfInBounds_toArray, List.set_cons_zero, List.set_cons_succ]
    refine held_call (i := 3) (by kernel_rfl) rfl (by rfl) (by go_simp; try with_reducible rfl) (c1 _) ?_
    rintro e wy ⟨A1, cap1, rfl, hB1, _, _, hy⟩
    refine ⟨_, rfl, below_to hHeld hy, ?_⟩
    replace hHeld := below_to hHeld hy
    simp only [Act.put, List.setIfInBounds_toArray, List.set_cons_zero, List.set_cons_succ]
    replace hOW := hOW.later hy
    clear hy
    obtain ⟨v3, w3, hr3, ho3, hb3⟩ := ob_put hOW p0 p1 cap1 hB1 (by omega) hHeld.size
    refine held_make (i := 4) (v := v3) (w' := w3) (by kernel_rfl) rfl (by rfl) (run_op_append (.tmp 11) (.tmp 14) rfl hr3) (hHeld.trans hb3) ?_
    simp only [Act.put, List.setIfInBounds_toArray, List.set_cons_zero, List.set_cons_succ]
    replace hHeld := hHeld.trans hb3
    clear hr3 hb3 hB1
    refine held_call (i := 7) (by kernel_rfl) rfl (by rfl) (by go_simp; try with_reducible rfl) (c2 _) ?_
    rintro e wy ⟨A2, cap2, rfl, hB2, _, _, hy⟩
    refine ⟨_, rfl, below_to hHeld hy, ?_⟩
    replace hHeld := below_to hHeld hy
    simp only [Act.put, List.setIfInBounds_toArray, List.set_cons_zero, List.set_cons_succ]
    replace ho3 := ho3.later hy
    clear hy
    obtain ⟨v4, w4, hr4, ho4, hb4⟩ := ob_put ho3 (by rw [List.length_append]; omega) p2 cap2 hB2 (by rw [List.length_append]; omega) hHeld.size
    refine held_make (i := 8) (v := v4) (w' := w4) (by kernel_rfl) rfl (by rfl) (run_op_append (.tmp 15) (.tmp 18) rfl hr4) (hHeld.trans hb4) ?_
    simp only [Act.put, List.setIfInBounds_toArray, List.set_cons_zero, List.set_cons_succ]
    replace hHeld := hHeld.trans hb4
    refine held_take (i := 9) (v := ?_) rfl (by kernel_rfl) (by kernel_rfl) (by kernel_rfl) (fun _ _ _ h => h) (by rfl) hHeld ?_ ?_
    rotate_left
    · intro wz hSz; go_simp; try with_reducible rfl
    simp only [Act.put, List.setIfInBounds_toArray, List.set_cons_zero, List.set_cons_succ]
    refine wpAnyH_done (by kernel_rfl) ?_ _
    go_wp2_with fail
    go_meet
    exact ⟨Lib.hid ho4, Lib.hid hHeld⟩
  case rest =>
    obtain ⟨HO2, HB2⟩ := hcut
    obtain ⟨M2, hM2⟩ : ∃ M, M0 ++ X1 ++ X2 = M := ⟨_, rfl⟩
    have l2 : M2.length ≤ 30 ∧ 1 ≤ M2.length := by rw [← hM2, List.length_append, List.length_append]; omega
    rw [hM2] at HO2
    obtain ⟨l2, g2⟩ := l2
    have HM2 := Lib.hid hM2
    clear hM2 hOB hb1 c1 c2 p1 p2 t1 t2 p0 t0
    obtain ⟨hl, z0, z1, z2, z3, z4, z5, z6, z7⟩ := kC _ HB2.out
    go_wp2_with fail
    refine (c3 _).mono ?_
    rintro x w4 ⟨A4, cap4, rfl, hB4, _, _, hy⟩
    have HO4 := Lib.hid (HO2.out.later hy)
    have hz4 := (below_to HB2.out hy).size
    have HB4 := Lib.hid (below_to HB2.out hy)
    clear hl z0 z1 z2 z3 z4 z5 z6 z7 hy
    go_wp2_with (at_builtin; refine wpList_append_own_src rfl (.tmp 40) (.tmp 43) 33 rfl w0.heap.size _ M2 X3 rfl HO4.out g2 _ rfl (src_slice cap4 hB4 p3) (by omega) hz4 ?_; intro b' w' ho hb)
    go_ret
    have HZ := own_bytes (ho.mono b0.size) (below_to b0 (HB4.out.trans hb))
    rw [← HM2.out] at HZ
    exact HZ
set_option maxHeartbeats 2000000 in
set_option maxRecDepth 100000 in
theorem rput_2 (se sq : Int) (f : ByteArray) (ve K n : Int) (s : ByteArray) (hi : Cm.In ⟨2, se, sq, f, ve, K, n, s⟩) (w : World) (hf : f.data.toList.length ≤ 1000000) (hs : s.data.toList.length ≤ 1000000) :
    Calls Tryz.prog 16 #[V8 2 se sq f ve K n s] w (OwnBytes w (putC ⟨2, se, sq, f, ve, K, n, s⟩)) := by
  obtain ⟨-, -, e0, e1, q0, q1, v0, v1, K0, K1, n0, n1⟩ := hi
  simp only at e0 e1 q0 q1 v0 v1 K0 K1 n0 n1
  have hG := putC_2 (c := ⟨2, se, sq, f, ve, K, n, s⟩) rfl
  try dsimp only at hG
  rw [hG]; clear hG
  have b0 := below_alloc w (.cells (cs8 2 se sq f ve K n s) 25)
  have C0 := Blk.new w (cs8 2 se sq f ve K n s) 25
  obtain ⟨w0, hw0⟩ : ∃ w0, w.alloc (.cells (cs8 2 se sq f ve K n s) 25) = w0 := ⟨_, rfl⟩
  rw [hw0] at b0 C0
  have kC := fun wz (h : Below w0.heap.size w0 wz) => (C0.later h).c8
  have c0 := fun w => refint_any 2 w (by decide) (by decide)
  have p0 := putI_pos 2
  have t0 := putI_ten (v := 2) (by decide) (by decide)
  obtain ⟨M0, hM0⟩ : ∃ M, putI 2 = M := ⟨_, rfl⟩
  simp only [hM0] at c0 p0 t0 ⊢
  have c1 := fun w => refint_any se w e0 e1
  have p1 := putI_pos se
  have t1 := putI_ten (v := se) e0 e1
  obtain ⟨X1, hX1⟩ : ∃ M, putI se = M := ⟨_, rfl⟩
  simp only [hX1] at c1 p1 t1 ⊢
  have c2 := fun w => refint_any sq w q0 q1
  have p2 := putI_pos sq
  have t2 := putI_ten (v := sq) q0 q1
  obtain ⟨X2, hX2⟩ : ∃ M, putI sq = M := ⟨_, rfl⟩
  simp only [hX2] at c2 p2 t2 ⊢
  have c3 := fun w => reftext_any f w (by omega)
  have t3 := putT_len f.data.toList hf
  obtain ⟨X3, hX3⟩ : ∃ M, putT f.data.toList = M := ⟨_, rfl⟩
  simp only [hX3] at c3 t3 ⊢
  obtain ⟨p3, t3⟩ := t3
  have c4 := fun w => refint_any ve w v0 v1
  have p4 := putI_pos ve
  have t4 := putI_ten (v := ve) v0 v1
  obtain ⟨X4, hX4⟩ : ∃ M, putI ve = M := ⟨_, rfl⟩
  simp only [hX4] at c4 p4 t4 ⊢
  have c5 := fun w => refput_any K n s w (by omega) K0 K1 n0 n1
  have p5 := putV_len K n s.data.toList K0 K1 n0 n1 hs
  obtain ⟨X5, hX5⟩ : ∃ M, putV K n s.data.toList = M := ⟨_, rfl⟩
  simp only [hX5] at c5 p5 ⊢
  obtain ⟨p5, t5⟩ := p5
  clear hM0 hX1 hX2 hX3 hX4 hX5
  go_enter Tryz.func16, Tryz.ntmps16
  obtain ⟨hl, z0, z1, z2, z3, z4, z5, z6, z7⟩ := C0.c8
  go_wp2_with fail
  refine (c0 w0).mono ?_
  rintro x w1 ⟨A0, cap0, rfl, hB0, _, ho0, hb1⟩
  have hOB : OB w0 w1 M0 (.slice A0 M0.length cap0) := ho0
  clear hl z0 z1 z2 z3 z4 z5 z6 z7 hw0 c0 hB0 ho0
  obtain ⟨hl, z0, z1, z2, z3, z4, z5, z6, z7⟩ := kC w1 hb1
  go_upto_region 4 with (fail)
  clear hl z0 z1 z2 z3 z4 z5 z6 z7
  go_cut [3] from 4 (fun s3 wx => Hid (OB w0 wx (M0 ++ X1 ++ X2) s3) ∧ Hid (Below w0.heap.size w0 wx))
  case first =>
    refine wp_region_held_drew (S := fun w' => Below w0.heap.size w0 w') (by kernel_rfl) (hb1.drew) (fun hHeld => ?_)
    have hOW := hOB.drew
    refine held_take (i := 0) (v := ?_) rfl (by kernel_rfl) (by kernel_rfl) (by kernel_rfl) (fun _ _ _ h => h) (by rfl) hHeld ?_ ?_
    rotate_left
    · intro wz hSz; go_simp; try with_reducible rfl
    simp only [Act.put, List.setIfInBounds_toArray, List.set_cons_zero, List.set_cons_succ]
    refine held_take (i := 1) (v := ?_) rfl (by kernel_rfl) (by kernel_rfl) (by kernel_rfl) (fun _ _ _ h => h) (by rfl) hHeld ?_ ?_
    rotate_left
    · intro wz hSz; go_simp; try with_reducible rfl
    simp only [Act.put, List.setIfInBounds_toArray, List.set_cons_zero, List.set_cons_succ]
    refine held_take (i := 2) (v := ?_) rfl (by kernel_rfl) (by kernel_rfl) (by kernel_rfl) (fun _ _ _ h => h) (by rfl) hHeld ?_ ?_
    rotate_left
    · intro wz hSz; obtain ⟨q8, q0, q1, q2, q3, q4, q5, q6, q7⟩ := kC wz hSz; go_simp; try with_reducible rfl
    simp only [Act.put, List.setIfInBounds_toArray, List.set_cons_zero, List.set_cons_succ]
    refine held_take (i := 5) (v := ?_) rfl (by kernel_rfl) (by kernel_rfl) (by kernel_rfl) (fun _ _ _ h => h) (by rfl) hHeld ?_ ?_
    rotate_left
    · intro wz hSz; go_simp; try with_reducible rfl
    simp only [Act.put, List.setIfInBounds_toArray, List.set_cons_zero, List.set_cons_succ]
    refine held_take (i := 6) (v := ?_) rfl (by kernel_rfl) (by kernel_rfl) (by kernel_rfl) (fun _ _ _ h => h) (by rfl) hHeld ?_ ?_
    rotate_left
    · intro wz hSz; obtain ⟨q8, q0, q1, q2, q3, q4, q5, q6, q7⟩ := kC wz hSz; go_simp; try with_reducible rfl
    simp only [Act.put, List.setIfInBounds_toArray, List.set_cons_zero, List.set_cons_succ]
    refine held_call (i := 3) (by kernel_rfl) rfl (by rfl) (by go_simp; try with_reducible rfl) (c1 _) ?_
    rintro e wy ⟨A1, cap1, rfl, hB1, _, _, hy⟩
    refine ⟨_, rfl, below_to hHeld hy, ?_⟩
    replace hHeld := below_to hHeld hy
    simp only [Act.put, List.setIfInBounds_toArray, List.set_cons_zero, List.set_cons_succ]
    replace hOW := hOW.later hy
    clear hy
    obtain ⟨v3, w3, hr3, ho3, hb3⟩ := ob_put hOW p0 p1 cap1 hB1 (by omega) hHeld.size
    refine held_make (i := 4) (v := v3) (w' := w3) (by kernel_rfl) rfl (by rfl) (run_op_append (.tmp 11) (.tmp 14) rfl hr3) (hHeld.trans hb3) ?_
    simp only [Act.put, List.setIfInBounds_toArray, List.set_cons_zero, List.set_cons_succ]
    replace hHeld := hHeld.trans hb3
    clear hr3 hb3 hB1
    refine held_call (i := 7) (by kernel_rfl) rfl (by rfl) (by go_simp; try with_reducible rfl) (c2 _) ?_
    rintro e wy ⟨A2, cap2, rfl, hB2, _, _, hy⟩
    refine ⟨_, rfl, below_to hHeld hy, ?_⟩
    replace hHeld := below_to hHeld hy
    simp only [Act.put, List.setIfInBounds_toArray, List.set_cons_zero, List.set_cons_succ]
    replace ho3 := ho3.later hy
    clear hy
    obtain ⟨v4, w4, hr4, ho4, hb4⟩ := ob_put ho3 (by rw [List.length_append]; omega) p2 cap2 hB2 (by rw [List.length_append]; omega) hHeld.size
    refine held_make (i := 8) (v := v4) (w' := w4) (by kernel_rfl) rfl (by rfl) (run_op_append (.tmp 15) (.tmp 18) rfl hr4) (hHeld.trans hb4) ?_
    simp only [Act.put, List.setIfInBounds_toArray, List.set_cons_zero, List.set_cons_succ]
    replace hHeld := hHeld.trans hb4
    refine held_take (i := 9) (v := ?_) rfl (by kernel_rfl) (by kernel_rfl) (by kernel_rfl) (fun _ _ _ h => h) (by rfl) hHeld ?_ ?_
    rotate_left
    · intro wz hSz; go_simp; try with_reducible rfl
    simp only [Act.put, List.setIfInBounds_toArray, List.set_cons_zero, List.set_cons_succ]
    refine wpAnyH_done (by kernel_rfl) ?_ _
    go_wp2_with fail
    go_meet
    exact ⟨Lib.hid ho4, Lib.hid hHeld⟩
  case rest =>
    obtain ⟨HO2, HB2⟩ := hcut
    obtain ⟨M2, hM2⟩ : ∃ M, M0 ++ X1 ++ X2 = M := ⟨_, rfl⟩
    have l2 : M2.length ≤ 30 ∧ 1 ≤ M2.length := by rw [← hM2, List.length_append, List.length_append]; omega
    rw [hM2] at HO2
    obtain ⟨l2, g2⟩ := l2
    have HM2 := Lib.hid hM2
    clear hM2 hOB hb1 c1 c2 p1 p2 t1 t2 p0 t0
    obtain ⟨hl, z0, z1, z2, z3, z4, z5, z6, z7⟩ := kC _ HB2.out
    go_upto_region 7 with (fail)
    clear hl z0 z1 z2 z3 z4 z5 z6 z7
    go_cut [3] from 4 (fun s3 wx => Hid (OB w0 wx (M2 ++ X3 ++ X4) s3) ∧ Hid (Below w0.heap.size w0 wx))
    case first =>
      refine wp_region_held_drew (S := fun w' => Below w0.heap.size w0 w') (by kernel_rfl) (HB2.out.drew) (fun hHeld => ?_)
      have hOW := HO2.out.drew
      refine held_take (i := 0) (v := ?_) rfl (by kernel_rfl) (by kernel_rfl) (by kernel_rfl) (fun _ _ _ h => h) (by rfl) hHeld ?_ ?_
      rotate_left
      · intro wz hSz; go_simp; try with_reducible rfl
      simp only [Act.put, List.setIfInBounds_toArray, List.set_cons_zero, List.set_cons_succ]
      refine held_take (i := 1) (v := ?_) rfl (by kernel_rfl) (by kernel_rfl) (by kernel_rfl) (fun _ _ _ h => h) (by rfl) hHeld ?_ ?_
      rotate_left
      · intro wz hSz; go_simp; try with_reducible rfl
      simp only [Act.put, List.setIfInBounds_toArray, List.set_cons_zero, List.set_cons_succ]
      refine held_take (i := 2) (v := ?_) rfl (by kernel_rfl) (by kernel_rfl) (by kernel_rfl) (fun _ _ _ h => h) (by rfl) hHeld ?_ ?_
      rotate_left
      · intro wz hSz; obtain ⟨q8, q0, q1, q2, q3, q4, q5, q6, q7⟩ := kC wz hSz; go_simp; try with_reducible rfl
      simp only [Act.put, List.setIfInBounds_toArray, List.set_cons_zero, List.set_cons_succ]
      refine held_take (i := 5) (v := ?_) rfl (by kernel_rfl) (by kernel_rfl) (by kernel_rfl) (fun _ _ _ h => h) (by rfl) hHeld ?_ ?_
      rotate_left
      · intro wz hSz; go_simp; try with_reducible rfl
      simp only [Act.put, List.setIfInBounds_toArray, List.set_cons_zero, List.set_cons_succ]
      refine held_take (i := 6) (v := ?_) rfl (by kernel_rfl) (by kernel_rfl) (by kernel_rfl) (fun _ _ _ h => h) (by rfl) hHeld ?_ ?_
      rotate_left
      · intro wz hSz; obtain ⟨q8, q0, q1, q2, q3, q4, q5, q6, q7⟩ := kC wz hSz; go_simp; try with_reducible rfl
      simp only [Act.put, List.setIfInBounds_toArray, List.set_cons_zero, List.set_cons_succ]
      refine held_call (i := 3) (by kernel_rfl) rfl (by rfl) (by go_simp; try with_reducible rfl) (c3 _) ?_
      rintro e wy ⟨A1, cap1, rfl, hB1, _, _, hy⟩
      refine ⟨_, rfl, below_to hHeld hy, ?_⟩
      replace hHeld := below_to hHeld hy
      simp only [Act.put, List.setIfInBounds_toArray, List.set_cons_zero, List.set_cons_succ]
      replace hOW := hOW.later hy
      clear hy
      obtain ⟨v3, w3, hr3, ho3, hb3⟩ := ob_put hOW g2 p3 cap1 hB1 (by omega) hHeld.size
      refine held_make (i := 4) (v := v3) (w' := w3) (by kernel_rfl) rfl (by rfl) (run_op_append (.tmp 24) (.tmp 27) rfl hr3) (hHeld.trans hb3) ?_
      simp only [Act.put, List.setIfInBounds_toArray, List.set_cons_zero, List.set_cons_succ]
      replace hHeld := hHeld.trans hb3
      clear hr3 hb3 hB1
      refine held_call (i := 7) (by kernel_rfl) rfl (by rfl) (by go_simp; try with_reducible rfl) (c4 _) ?_
      rintro e wy ⟨A2, cap2, rfl, hB2, _, _, hy⟩
      refine ⟨_, rfl, below_to hHeld hy, ?_⟩
      replace hHeld := below_to hHeld hy
      simp only [Act.put, List.setIfInBounds_toArray, List.set_cons_zero, List.set_cons_succ]
      replace ho3 := ho3.later hy
      clear hy
      obtain ⟨v4, w4, hr4, ho4, hb4⟩ := ob_put ho3 (by rw [List.length_append]; omega) p4 cap2 hB2 (by rw [List.length_append]; omega) hHeld.size
      refine held_make (i := 8) (v := v4) (w' := w4) (by kernel_rfl) rfl (by rfl) (run_op_append (.tmp 28) (.tmp 31) rfl hr4) (hHeld.trans hb4) ?_
      simp only [Act.put, List.setIfInBounds_toArray, List.set_cons_zero, List.set_cons_succ]
      replace hHeld := hHeld.trans hb4
      refine held_take (i := 9) (v := ?_) rfl (by kernel_rfl) (by kernel_rfl) (by kernel_rfl) (fun _ _ _ h => h) (by rfl) hHeld ?_ ?_
      rotate_left
      · intro wz hSz; go_simp; try with_reducible rfl
      simp only [Act.put, List.setIfInBounds_toArray, List.set_cons_zero, List.set_cons_succ]
      refine wpAnyH_done (by kernel_rfl) ?_ _
      go_wp2_with fail
      go_meet
      exact ⟨Lib.hid ho4, Lib.hid hHeld⟩
    case rest =>
      obtain ⟨HO4, HB4⟩ := hcut
      obtain ⟨M4, hM4⟩ : ∃ M, M2 ++ X3 ++ X4 = M := ⟨_, rfl⟩
      have l4 : M4.length ≤ 40 + (f.data.toList.length + 10) ∧ 1 ≤ M4.length := by rw [← hM4, List.length_append, List.length_append]; omega
      rw [hM4] at HO4
      obtain ⟨l4, g4⟩ := l4
      have HM4 := Lib.hid hM4
      clear hM4 c3 c4 p3 t3 p4 t4 HO2 l2 g2
      obtain ⟨hl, z0, z1, z2, z3, z4, z5, z6, z7⟩ := kC _ HB4.out
      go_wp2_with fail
      refine (c5 _).mono ?_
      rintro x w5 ⟨A5, cap5, rfl, hB5, _, _, hy⟩
      have HO5 := Lib.hid (HO4.out.later hy)
      have hz5 := (below_to HB4.out hy).size
      have HB5 := Lib.hid (below_to HB4.out hy)
      clear hl z0 z1 z2 z3 z4 z5 z6 z7 hy
      go_wp2_with (at_builtin; refine wpList_append_own_src rfl (.tmp 33) (.tmp 36) 33 rfl w0.heap.size _ M4 X5 rfl HO5.out g4 _ rfl (src_slice cap5 hB5 p5) (by omega) hz5 ?_; intro b' w' ho hb)
      go_ret
      have HZ := own_bytes (ho.mono b0.size) (below_to b0 (HB5.out.trans hb))
      rw [← HM4.out, ← HM2.out] at HZ
      exact HZ
end Go.Proofs.YtkbeemkmcnfiiaaGreatDoor
