/- The contracts of value.Put and of the document's own: the bytes, in memory of the call's own. -/
import Derived.Test.YtfcigknalnmhcaaDoorPuts
import Derived.Test.YtfcigknalnmhcaaDoorVBase
import Derived.Deep.Onto
import Derived.Test.YtfcigknalnmhcaaDoorHeldList
import Derived.Test.YtfcigknalnmhcaaDoorList
namespace Go.Proofs.YtfcigknalnmhcaaDoor
open Go.RowKit

/-- A value's bytes. -/
def putV (K n : Int) (s : List UInt8) : List UInt8 := putI K ++ putI n ++ putT s
theorem putV_app (L : List UInt8) (K n : Int) (s : List UInt8) : L ++ putI K ++ putI n ++ putT s = L ++ putV K n s := by unfold putV; simp only [List.append_assoc]
/-- Unlike values are put unlike. -/
theorem putI_inj {a b : Int} (a0 : -9223372036854775808 ≤ a) (a1 : a ≤ 9223372036854775807) (b0 : -9223372036854775808 ≤ b) (b1 : b ≤ 9223372036854775807) {R S : List UInt8} (h : putI a ++ R = putI b ++ S) : a = b ∧ R = S := by
  have x := stI_put a0 a1 R false
  rw [h, stI_put b0 b1 S false] at x
  injection x with x1 x2
  injection x2 with x2
  exact ⟨x1.symm, x2.symm⟩
theorem putV_inj {K n L m : Int} {s t : List UInt8} (k0 : -9223372036854775808 ≤ K) (k1 : K ≤ 9223372036854775807) (n0 : -9223372036854775808 ≤ n) (n1 : n ≤ 9223372036854775807)
    (l0 : -9223372036854775808 ≤ L) (l1 : L ≤ 9223372036854775807) (m0 : -9223372036854775808 ≤ m) (m1 : m ≤ 9223372036854775807) (hs : s.length ≤ 1000000) (ht : t.length ≤ 1000000)
    (h : putV K n s = putV L m t) : K = L ∧ n = m ∧ s = t := by
  unfold putV putT at h
  simp only [List.append_assoc] at h
  obtain ⟨e1, h1⟩ := putI_inj k0 k1 l0 l1 h
  obtain ⟨e2, h2⟩ := putI_inj n0 n1 m0 m1 h1
  obtain ⟨-, e3⟩ := putI_inj (by omega) (by omega) (by omega) (by omega) h2
  exact ⟨e1, e2, e3⟩
theorem src_slice {w : World} {A : Option Addr} {M : List UInt8} (cap : Nat) (hB : Bs w A M) (hm : 1 ≤ M.length) : Src Tryd.prog 1 48 (.slice A M.length cap) M.length (Lib.byteCells M) w := by
  obtain ⟨b, off, rfl, hc⟩ := hB (by omega)
  refine Src.ofSlice (size := 1) _ Tryd.underlying48 ⟨b, off, none⟩ M.length cap (Lib.byteCells M) (by simp [Lib.byteCells]) (fun j u hu => ?_) (fun u hu => by obtain ⟨x, _, rfl⟩ := List.mem_map.1 hu; rfl)
  unfold Lib.byteCells at hu
  rw [List.getElem?_map] at hu
  obtain ⟨x, hx, rfl⟩ := Option.map_eq_some_iff.1 hu
  have hj : j < M.length := (List.getElem?_eq_some_iff.1 hx).1
  have h := hc j hj
  have hd : M.getD j 0 = x := by rw [List.getD_eq_getElem?_getD, hx]; rfl
  have e : (⟨b, off, none⟩ : Addr).add j = ⟨b, off + j, none⟩ := by unfold Addr.add; split <;> simp_all
  rw [e, h, hd]
theorem run_op_append {w w' : World} {a : Act} {o : Oper} {v : Value} {t1 t2 : TypeId} (s x : Operand) (hop : o.op = .call { callee := .builtin .append, args := #[s, x], argTypes := #[t1, t2] })
    (hr : (Builtin.append_ #[t1, t2] o.type #[a.eval s, a.eval x]).run Tryd.prog w = .ok v w') : (execOp a.eval o).run Tryd.prog w = .ok (.value v) w' := by
  simp [execOp, hop, resolve, invoke, builtin, hr, Result.andThen]
theorem own_of {w w1 w2 : World} {L : List UInt8} {e : Ending} (h : OwnBytes w1 L e w2) (hb : Below w.heap.size w w1) : OwnBytes w L e w2 := by
  obtain ⟨A, cap, rfl, hB, hc, ho, hb2⟩ := h
  exact ⟨A, cap, rfl, hB, hc, ho.mono hb.size, below_to hb hb2⟩

set_option maxHeartbeats 1000000 in
theorem put_any (A : Option Addr) (L : List UInt8) (cap : Nat) (K n : Int) (s : ByteArray) (w : World) (hl : L.length + s.data.toList.length + 30 ≤ 140737488355328) (hlc : L.length ≤ cap) (hB : Bs w A L)
    (k0 : -9223372036854775808 ≤ K) (k1 : K ≤ 9223372036854775807) (n0 : -9223372036854775808 ≤ n) (n1 : n ≤ 9223372036854775807) :
    Calls Tryd.prog 32 #[.slice A L.length cap, V3 K n s] w (OwnBytes w (L ++ putV K n s.data.toList)) := by
  have hb0 := below_alloc w (.cells #[.int .i64 K, .int .i64 n, .string s] 23)
  have c1 := putint_any A L cap K _ (by omega) hlc (hB.below hb0) k0 k1
  have t1 := putI_ten (v := K) k0 k1
  have t2 := putI_ten (v := n) n0 n1
  have e := putV_app L K n s.data.toList
  have c2 := fun (M : List UInt8) (hM : M = L ++ putI K) A1 cap1 w1 h1 h2 => putint_any A1 M cap1 n w1 (by rw [hM, List.length_append]; omega) h1 h2 n0 n1
  have c3 := fun (M : List UInt8) (hM : M = L ++ putI K ++ putI n) A1 cap1 w1 h1 h2 => puttext_any A1 M cap1 s w1 (by rw [hM, List.length_append, List.length_append]; omega) h1 h2
  obtain ⟨M1, hM1⟩ : ∃ M, M = L ++ putI K := ⟨_, rfl⟩
  obtain ⟨M2, hM2⟩ : ∃ M, M = L ++ putI K ++ putI n := ⟨_, rfl⟩
  have d2 := c2 M1 hM1
  have d3 := c3 M2 hM2
  rw [← hM1] at c1 hM2
  simp only [← hM2] at d2
  rw [hM2, hM1] at d3
  rw [e] at d3
  rw [← hM1, ← hM2] at d3
  generalize L ++ putV K n s.data.toList = G at d3 ⊢
  clear c2 c3 hM1 hM2 hl t1 t2 e
  go_enter Tryd.func32, Tryd.ntmps32
  have h3 := three_new w (.int .i64 K) (.int .i64 n) (.string s) 23
  obtain ⟨w0, hw0⟩ : ∃ w0, w.alloc (.cells #[.int .i64 K, .int .i64 n, .string s] 23) = w0 := ⟨_, rfl⟩
  rw [hw0] at c1 hb0 h3
  have h31 := fun w1 (hb : Below w0.heap.size w0 w1) => h3.later hb
  obtain ⟨hlt0, z0, z1, z2, -, -, -⟩ := h3
  go_wp2_with fail
  refine c1.mono ?_
  rintro e w1 ⟨A1, cap1, rfl, hB1, _, ho1, hb1⟩
  replace h31 := h31 _ hb1
  have hbw1 := below_to hb0 hb1
  clear c1 hw0 z0 z1 z2 hb0 hb1 hlt0
  obtain ⟨hlt, a0, a1, a2, -, -, -⟩ := h31
  have hlt1 := hlt
  go_wp2_with fail
  refine (d2 A1 cap1 _ (own_cap ho1) hB1).mono ?_
  rintro e w2 ⟨A2, cap2, rfl, hB2, _, ho2, hb2⟩
  have hbw2 := below_to hbw1 hb2
  have z2 := (hb2.cell (p := ⟨w.heap.size, 2, none⟩) hlt1).trans a2
  clear a0 a1 a2 d2
  go_wp2_with fail
  refine (d3 A2 cap2 _ (own_cap ho2) hB2).mono ?_
  rintro e w3 ho3
  obtain ⟨A3, cap3, rfl, hB3, hc3, ho3, hb3⟩ := own_of ho3 hbw2
  go_wp2
  go_ret
  exact ⟨A3, cap3, rfl, hB3, hc3, ho3, hb3⟩

set_option maxHeartbeats 1000000 in
theorem refput_any (K n : Int) (s : ByteArray) (w : World) (hl : s.data.toList.length + 30 ≤ 140737488355328)
    (k0 : -9223372036854775808 ≤ K) (k1 : K ≤ 9223372036854775807) (n0 : -9223372036854775808 ≤ n) (n1 : n ≤ 9223372036854775807) :
    Calls Tryd.prog 34 #[V3 K n s] w (OwnBytes w (putV K n s.data.toList)) := by
  have hb0 := below_alloc w (.cells #[.int .i64 K, .int .i64 n, .string s] 23)
  have h3 := three_new w (.int .i64 K) (.int .i64 n) (.string s) 23
  have c1 := fun w => refint_any K w k0 k1
  have c2 := fun w => refint_any n w n0 n1
  have c3 := fun w => reftext_any s w (by omega)
  have t1 := putI_ten (v := K) k0 k1
  have t2 := putI_ten (v := n) n0 n1
  have p1 := putI_pos K
  have p2 := putI_pos n
  have q : 1 ≤ (putT s.data.toList).length ∧ (putT s.data.toList).length ≤ s.data.toList.length + 10 := by
    unfold putT
    have a := putI_pos (s.data.toList.length : Int)
    have b := putI_ten (v := (s.data.toList.length : Int)) (by omega) (by omega)
    rw [List.length_append]; omega
  have e : putI K ++ putI n ++ putT s.data.toList = putV K n s.data.toList := rfl
  rw [← e]
  generalize putT s.data.toList = X3 at *
  generalize putI K = X1 at *
  generalize putI n = X2 at *
  obtain ⟨w0, hw0⟩ : ∃ w0, w.alloc (.cells #[.int .i64 K, .int .i64 n, .string s] 23) = w0 := ⟨_, rfl⟩
  rw [hw0] at hb0 h3
  clear e
  go_enter Tryd.func34, Tryd.ntmps34
  obtain ⟨hlt, a0, a1, a2, -, -, -⟩ := h3
  have hlt0 := hlt
  have k0 : ∀ wz, Below w0.heap.size w0 wz → wz.cell? ⟨w.heap.size, 0, none⟩ = some (.int .i64 K) := fun wz h => (h.cell (p := ⟨w.heap.size, 0, none⟩) hlt0).trans a0
  have k1 : ∀ wz, Below w0.heap.size w0 wz → wz.cell? ⟨w.heap.size, 1, none⟩ = some (.int .i64 n) := fun wz h => (h.cell (p := ⟨w.heap.size, 1, none⟩) hlt0).trans a1
  have k2 : ∀ wz, Below w0.heap.size w0 wz → wz.cell? ⟨w.heap.size, 2, none⟩ = some (.string s) := fun wz h => (h.cell (p := ⟨w.heap.size, 2, none⟩) hlt0).trans a2
  clear a0 a1 a2
  go_wp2_with fail
  clear hw0
  refine wp_region_held_drew (S := fun w' => Below w0.heap.size w0 w') (by kernel_rfl) ((Below.refl _ _).drew) (fun hHeld => ?_)
  refine held_take (i := 0) (v := ?_) rfl (by kernel_rfl) (by kernel_rfl) (by kernel_rfl) (fun _ _ _ h => h) (by rfl) hHeld ?_ ?_
  rotate_left
  · intro wz hSz; go_simp; try with_reducible rfl
  simp only [Act.put, List.setIfInBounds_toArray, List.set_cons_zero, List.set_cons_succ]
  refine held_take (i := 1) (v := ?_) rfl (by kernel_rfl) (by kernel_rfl) (by kernel_rfl) (fun _ _ _ h => h) (by rfl) hHeld ?_ ?_
  rotate_left
  · intro wz hSz; have q0 := k0 wz hSz; go_simp; try with_reducible rfl
  simp only [Act.put, List.setIfInBounds_toArray, List.set_cons_zero, List.set_cons_succ]
  refine held_take (i := 3) (v := ?_) rfl (by kernel_rfl) (by kernel_rfl) (by kernel_rfl) (fun _ _ _ h => h) (by rfl) hHeld ?_ ?_
  rotate_left
  · intro wz hSz; go_simp; try with_reducible rfl
  simp only [Act.put, List.setIfInBounds_toArray, List.set_cons_zero, List.set_cons_succ]
  refine held_take (i := 4) (v := ?_) rfl (by kernel_rfl) (by kernel_rfl) (by kernel_rfl) (fun _ _ _ h => h) (by rfl) hHeld ?_ ?_
  rotate_left
  · intro wz hSz; have q0 := k1 wz hSz; go_simp; try with_reducible rfl
  simp only [Act.put, List.setIfInBounds_toArray, List.set_cons_zero, List.set_cons_succ]
  have hS0 := hHeld.size
  refine held_call (i := 2) (by kernel_rfl) rfl (by rfl) (by go_simp; try with_reducible rfl) (c1 _) ?_
  rintro e wy ⟨A1, cap1, rfl, hB1, _, ho1, hy⟩
  refine ⟨_, rfl, below_to hHeld hy, ?_⟩
  replace hHeld := below_to hHeld hy
  simp only [Act.put, List.setIfInBounds_toArray, List.set_cons_zero, List.set_cons_succ]
  replace ho1 := ho1.mono hS0
  clear hy
  refine held_call (i := 5) (by kernel_rfl) rfl (by rfl) (by go_simp; try with_reducible rfl) (c2 _) ?_
  rintro e wy ⟨A2, cap2, rfl, hB2, _, ho2, hy⟩
  refine ⟨_, rfl, below_to hHeld hy, ?_⟩
  replace hHeld := below_to hHeld hy
  simp only [Act.put, List.setIfInBounds_toArray, List.set_cons_zero, List.set_cons_succ]
  replace ho1 := own_later ho1 hy
  obtain ⟨v3, w3, hr, ho3, hb3⟩ := run_append_own_src wy 48 48 w0.heap.size _ X1 X2 ho1 p1 _ (src_slice cap2 hB2 p2) (by omega) hHeld.size
  refine held_make (i := 6) (v := v3) (w' := w3) (by kernel_rfl) rfl (by rfl) (run_op_append (.tmp 6) (.tmp 9) rfl hr) (hHeld.trans hb3) ?_
  replace hHeld := hHeld.trans hb3
  clear hr hb3 hy ho2 hB1 hB2 ho1
  simp only [Act.put, List.setIfInBounds_toArray, List.set_cons_zero, List.set_cons_succ]
  refine held_take (i := 7) (v := ?_) rfl (by kernel_rfl) (by kernel_rfl) (by kernel_rfl) (fun _ _ _ h => h) (by rfl) hHeld ?_ ?_
  rotate_left
  · intro wz hSz; go_simp; try with_reducible rfl
  simp only [Act.put, List.setIfInBounds_toArray, List.set_cons_zero, List.set_cons_succ]
  refine wpAnyH_done (by kernel_rfl) ?_ _
  have hl12 : (X1 ++ X2).length ≤ 20 := by rw [List.length_append]; omega
  have hl11 : 1 ≤ (X1 ++ X2).length := by rw [List.length_append]; omega
  generalize X1 ++ X2 = X12 at *
  have q2 := k2 _ hHeld
  have HO := Lib.hid ho3
  clear ho3
  go_wp2_with fail
  refine (c3 _).mono ?_
  rintro e w4 ⟨A4, cap4, rfl, hB4, _, ho4, hy⟩
  have ho5 := own_later HO.out hy
  have hz4 := (below_to hHeld hy).size
  have hb4 := below_to hb0 (below_to hHeld hy)
  have HO5 := Lib.hid ho5
  clear ho5 ho4
  go_wp2_with (at_builtin; refine wpList_append_own_src rfl (.tmp 11) (.tmp 14) 48 rfl w0.heap.size _ X12 X3 rfl HO5.out hl11 _ rfl (src_slice cap4 hB4 q.1) (by omega) hz4 ?_; intro b' w' ho hb)
  go_ret
  exact own_bytes (ho.mono hb0.size) (hb4.trans (hb.mono hb0.size))
end Go.Proofs.YtfcigknalnmhcaaDoor
