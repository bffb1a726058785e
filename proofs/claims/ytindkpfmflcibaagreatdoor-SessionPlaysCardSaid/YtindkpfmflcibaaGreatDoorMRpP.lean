/- The contract of the document's own PutReply. -/
import Derived.Test.YtindkpfmflcibaaGreatDoorMRpK
import Derived.Test.YtindkpfmflcibaaGreatDoorGE
namespace Go.Proofs.YtindkpfmflcibaaGreatDoor
open Go.RowKit

theorem putV_len (K n : Int) (s : List UInt8) (k0 : -9223372036854775808 ≤ K) (k1 : K ≤ 9223372036854775807) (n0 : -9223372036854775808 ≤ n) (n1 : n ≤ 9223372036854775807) (h : s.length ≤ 1000000) : 1 ≤ (putV K n s).length ∧ (putV K n s).length ≤ s.length + 30 := by
  have a := putI_pos K
  have a2 := putI_ten (v := K) k0 k1
  have b2 := putI_ten (v := n) n0 n1
  have c := putI_ten (v := (s.length : Int)) (by omega) (by omega)
  unfold putV putT
  simp only [List.length_append]
  omega
set_option maxHeartbeats 1000000 in
theorem rputr_any (r : Rp) (hi : r.In) (w : World) (hs : r.s.data.toList.length ≤ 1000000) :
    Calls Tryz.prog 47 #[V5 r.e r.n r.K r.m r.s] w (OwnBytes w (putP r)) := by
  obtain ⟨e, n, K, m, s⟩ := r
  obtain ⟨e0, e1, n0, n1, k0, k1, m0, m1⟩ := hi
  simp only at e0 e1 n0 n1 k0 k1 m0 m1 hs
  have hb0 := below_alloc w (.cells (cs5 e n K m s) 34)
  have C0 := Blk.new w (cs5 e n K m s) 34
  have c1 := fun w => refint_any e w e0 e1
  have c2 := fun w => refint_any n w n0 n1
  have c3 := fun w => refput_any K m s w (by omega) k0 k1 m0 m1
  have t1 := putI_ten (v := e) e0 e1
  have t2 := putI_ten (v := n) n0 n1
  have p1 := putI_pos e
  have p2 := putI_pos n
  have q := putV_len K m s.data.toList k0 k1 m0 m1 hs
  have hG : putP ⟨e, n, K, m, s⟩ = putI e ++ putI n ++ putV K m s.data.toList := rfl
  rw [hG]
  clear hG
  generalize putV K m s.data.toList = X3 at *
  generalize putI e = X1 at *
  generalize putI n = X2 at *
  obtain ⟨w0, hw0⟩ : ∃ w0, w.alloc (.cells (cs5 e n K m s) 34) = w0 := ⟨_, rfl⟩
  rw [hw0] at hb0 C0
  have kC := fun wz (h : Below w0.heap.size w0 wz) => (C0.later h).c5
  go_enter Tryz.func47, Tryz.ntmps47
  go_wp2_with fail
  clear hw0
  refine wp_region_held_drew (S := fun w' => Below w0.heap.size w0 w') (by kernel_rfl) ((Below.refl _ _).drew) (fun hHeld => ?_)
  refine held_take (i := 0) (v := ?_) rfl (by kernel_rfl) (by kernel_rfl) (by kernel_rfl) (fun _ _ _ h => h) (by rfl) hHeld ?_ ?_
  rotate_left
  · intro wz hSz; go_simp; try with_reducible rfl
  simp only [Act.put, List.setIfInBounds_toArray, List.set_cons_zero, List.set_cons_succ]
  refine held_take (i := 1) (v := ?_) rfl (by kernel_rfl) (by kernel_rfl) (by kernel_rfl) (fun _ _ _ h => h) (by rfl) hHeld ?_ ?_
  rotate_left
  · intro wz hSz; obtain ⟨q5, q0, q1, q2, q3, q4⟩ := kC wz hSz; go_simp; try with_reducible rfl
  simp only [Act.put, List.setIfInBounds_toArray, List.set_cons_zero, List.set_cons_succ]
  refine held_take (i := 3) (v := ?_) rfl (by kernel_rfl) (by kernel_rfl) (by kernel_rfl) (fun _ _ _ h => h) (by rfl) hHeld ?_ ?_
  rotate_left
  · intro wz hSz; go_simp; try with_reducible rfl
  simp only [Act.put, List.setIfInBounds_toArray, List.set_cons_zero, List.set_cons_succ]
  refine held_take (i := 4) (v := ?_) rfl (by kernel_rfl) (by kernel_rfl) (by kernel_rfl) (fun _ _ _ h => h) (by rfl) hHeld ?_ ?_
  rotate_left
  · intro wz hSz; obtain ⟨q5, q0, q1, q2, q3, q4⟩ := kC wz hSz; go_simp; try with_reducible rfl
  simp only [Act.put, List.setIfInBounds_toArray, List.set_cons_zero, List.set_cons_succ]
  have hS0 := hHeld.size
  refine held_call (i := 2) (by kernel_rfl) rfl (by rfl) (by go_simp; try with_reducible rfl) (c1 _) ?_
  rintro e wy ⟨A1, cap1, rfl, hB1, _, ho1, hy⟩
  refine ⟨_, rfl, below_to hHeld hy, ?_⟩
  replace hHeld := below_to hHeld hy
  simp only [Act.put, List.setIfInBounds_toArray, List.set_cons_zero, List.set_cons_succ]
  replace ho1 := ho1.mono hS0
  clear hy
  refine held_call (i := 5) (by kernel_rfl) rfl (by rfl) (by go_simp; try with_reducible rfl) (c2 _) ?_
  rintro e wy ⟨A2, cap2, rfl, hB2, _, ho2, hy⟩
  refine ⟨_, rfl, below_to hHeld hy, ?_⟩
  replace hHeld := below_to hHeld hy
  simp only [Act.put, List.setIfInBounds_toArray, List.set_cons_zero, List.set_cons_succ]
  replace ho1 := own_later ho1 hy
  obtain ⟨v3, w3, hr, ho3, hb3⟩ := run_append_own_src wy 35 35 w0.heap.size _ X1 X2 ho1 p1 _ (src_slice cap2 hB2 p2) (by omega) hHeld.size
  refine held_make (i := 6) (v := v3) (w' := w3) (by kernel_rfl) rfl (by rfl) (run_op_append (.tmp 6) (.tmp 9) rfl hr) (hHeld.trans hb3) ?_
  replace hHeld := hHeld.trans hb3
  clear hr hb3 hy ho2 hB1 hB2 ho1
  simp only [Act.put, List.setIfInBounds_toArray, List.set_cons_zero, List.set_cons_succ]
  refine held_take (i := 7) (v := ?_) rfl (by kernel_rfl) (by kernel_rfl) (by kernel_rfl) (fun _ _ _ h => h) (by rfl) hHeld ?_ ?_
  rotate_left
  · intro wz hSz; go_simp; try with_reducible rfl
  simp only [Act.put, List.setIfInBounds_toArray, List.set_cons_zero, List.set_cons_succ]
  refine wpAnyH_done (by kernel_rfl) ?_ _
  have hl12 : (X1 ++ X2).length ≤ 20 := by rw [List.length_append]; omega
  have hl11 : 1 ≤ (X1 ++ X2).length := by rw [List.length_append]; omega
  generalize X1 ++ X2 = X12 at *
  obtain ⟨z5, z0, z1, z2, z3, z4⟩ := kC _ hHeld
  have HO := Lib.hid ho3
  clear ho3
  go_wp2_with fail
  refine (c3 _).mono ?_
  rintro e w4 ⟨A4, cap4, rfl, hB4, _, ho4, hy⟩
  have ho5 := own_later HO.out hy
  have hz4 := (below_to hHeld hy).size
  have hb4 := below_to hb0 (below_to hHeld hy)
  have HO5 := Lib.hid ho5
  clear ho5 ho4 z5 z0 z1 z2 z3 z4
  go_wp2_with (at_builtin; refine wpList_append_own_src rfl (.tmp 11) (.tmp 14) 35 rfl w0.heap.size _ X12 X3 rfl HO5.out hl11 _ rfl (src_slice cap4 hB4 q.1) (by omega) hz4 ?_; intro b' w' ho hb)
  go_ret
  exact own_bytes (ho.mono hb0.size) (hb4.trans (hb.mono hb0.size))
end Go.Proofs.YtindkpfmflcibaaGreatDoor
