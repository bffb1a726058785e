/- The statement ValueApart: unlike values that may be are shown, and put, unlike. Conditions: none but what the card ties (the library's tables hold what their texts lay). -/
import Derived.Test.YtfcigknalnmhcaaDoorVFrame
import Derived.Test.YtfcigknalnmhcaaDoorVRefCheck
import Derived.Test.YtfcigknalnmhcaaDoorVPut
import Derived.Test.YtfcigknalnmhcaaDoorVEq
import Derived.Test.YtfcigknalnmhcaaDoorHeldList
namespace Go.Proofs.YtfcigknalnmhcaaDoor
open Go.ChangeShapes Go.WideShapes Go.ChangeAt Go.RowKit

theorem checked_size {K n : Int} {s : ByteArray} (h : checkB K n s.data.toList = true) : s.size ≤ 400 := by
  rcases check_kind h with ⟨_, _, h⟩ | ⟨_, h⟩ | ⟨_, _, h⟩ | ⟨_, _, _, h⟩ | ⟨_, _, _, h⟩
  · rw [← size_list, h]; simp
  · rw [← size_list, h]; simp
  · rw [← size_list, h]; simp
  · exact count_len s h
  · rw [← size_list, h]; simp
section
variable {P : Program} {md : Region.Mode} {l : List Oper} {Q : Exit → Act → World → Prop} {S : World → Prop} {fuel : Nat} {listed : Array Bool} {a : Act} {w : World} {i j : Nat} {o o2 : Oper}
/-- Two may come up: one that only reads, one that calls. -/
theorem held_read_call {v : Value} {f : FuncId} {args : Array Value} {R : Ending → World → Prop} (hr : Region.ready md l.toArray listed = [i, j]) (ho : l[i]? = some o) (ho2 : l[j]? = some o2)
    (hw : Region.wanted o (yielded l.toArray a.tmps) = true) (hw2 : Region.wanted o2 (yielded l.toArray a.tmps) = true) (hS : S w) (hy : (execOp a.eval o).run P w = .ok (.value v) w) (hy2 : (execOp a.eval o2).run P w = .ok (.enter f args) w)
    (hc : Calls P f args w R) (h : wpAnyH P md l.toArray Q S fuel (listed.setIfInBounds i true) (a.put o.dst v) w)
    (h2 : ∀ e w', R e w' → ∃ v2, e = .returned v2 ∧ S w' ∧ wpAnyH P md l.toArray Q S fuel (listed.setIfInBounds j true) (a.put o2.dst v2) w') : wpAnyH P md l.toArray Q S (fuel + 1) listed a w :=
  wpAnyH_ready hr (by simp) (AllReadyH.cons (by simpa using ho) (fun K hK => by
      rw [if_pos hw]
      unfold Oper.wp
      rw [hy]
      exact hK _ _ hS fun _ => h)
    (AllReadyH.cons (by simpa using ho2) (fun K hK => by
      rw [if_pos hw2]
      unfold Oper.wp
      rw [hy2]
      refine hc.mono fun e w' hR => ?_
      obtain ⟨v2, rfl, hS2, hh⟩ := h2 e w' hR
      exact hK _ _ hS2 fun _ => hh) AllReadyH.nil))
/-- Two may come up that only read. -/
theorem held_read_read {v v2 : Value} (hr : Region.ready md l.toArray listed = [i, j]) (ho : l[i]? = some o) (ho2 : l[j]? = some o2)
    (hw : Region.wanted o (yielded l.toArray a.tmps) = true) (hw2 : Region.wanted o2 (yielded l.toArray a.tmps) = true) (hS : S w) (hy : (execOp a.eval o).run P w = .ok (.value v) w) (hy2 : (execOp a.eval o2).run P w = .ok (.value v2) w)
    (h : wpAnyH P md l.toArray Q S fuel (listed.setIfInBounds i true) (a.put o.dst v) w) (h2 : wpAnyH P md l.toArray Q S fuel (listed.setIfInBounds j true) (a.put o2.dst v2) w) : wpAnyH P md l.toArray Q S (fuel + 1) listed a w :=
  wpAnyH_ready hr (by simp) (AllReadyH.cons (by simpa using ho) (fun K hK => by
      rw [if_pos hw]
      unfold Oper.wp
      rw [hy]
      exact hK _ _ hS fun _ => h)
    (AllReadyH.cons (by simpa using ho2) (fun K hK => by
      rw [if_pos hw2]
      unfold Oper.wp
      rw [hy2]
      exact hK _ _ hS fun _ => h2) AllReadyH.nil))
end
theorem putv_nil (K n : Int) (s : ByteArray) (w : World) (hl : s.size ≤ 400) (k0 : -9223372036854775808 ≤ K) (k1 : K ≤ 9223372036854775807) (n0 : -9223372036854775808 ≤ n) (n1 : n ≤ 9223372036854775807) :
    Calls Tryd.prog 32 #[.slice none 0 0, V3 K n s] w (OwnBytes w (putV K n s.data.toList)) := by
  have c := put_any none [] 0 K n s w (by rw [size_list]; simp; omega) (by simp) (Bs.nil _ _) k0 k1 n0 n1
  rw [List.nil_append] at c
  exact c
theorem run_text_of {w : World} {A : Option Addr} {L : List UInt8} {t : ByteArray} (cap : Nat) (hB : Bs w A L) (h : (⟨L.toArray⟩ : ByteArray) = t) : (convert 48 9 (.slice A L.length cap)).run Tryd.prog w = .ok (.string t) w := by
  rw [← h]
  exact run_str_of (P := Tryd.prog) 48 9 5 cap Tryd.underlying48 Tryd.underlying5 Tryd.underlying9 hB
theorem bytes_of_list {a b : List UInt8} (h : (⟨a.toArray⟩ : ByteArray) = ⟨b.toArray⟩) : a = b := by
  injection h with h
  exact List.toArray_inj h
/-- Unlike values are shown, and put, unlike. -/
theorem show_same {K n L m : Int} {s t : ByteArray} (ha : checkB K n s.data.toList = true) (hb : checkB L m t.data.toList = true) (n0 : -9223372036854775808 ≤ n) (n1 : n ≤ 9223372036854775807) (m0 : -9223372036854775808 ≤ m) (m1 : m ≤ 9223372036854775807) :
    ((⟨(showL K n s.data.toList).toArray⟩ : ByteArray) == ⟨(showL L m t.data.toList).toArray⟩) = sameV K n s L m t := by
  rw [Bool.eq_iff_iff, beqB, sameV_iff]
  constructor
  · intro h
    obtain ⟨h1, h2, h3⟩ := show_inj K n _ L m _ n0 n1 m0 m1 ha hb (bytes_of_list h)
    exact ⟨h1, h2, ByteArray.ext (Array.toList_inj.1 h3)⟩
  · rintro ⟨rfl, rfl, rfl⟩; rfl
theorem put_same {K n L m : Int} {s t : ByteArray} (hs : s.size ≤ 400) (ht : t.size ≤ 400) (k0 : -9223372036854775808 ≤ K) (k1 : K ≤ 9223372036854775807) (n0 : -9223372036854775808 ≤ n) (n1 : n ≤ 9223372036854775807)
    (l0 : -9223372036854775808 ≤ L) (l1 : L ≤ 9223372036854775807) (m0 : -9223372036854775808 ≤ m) (m1 : m ≤ 9223372036854775807) :
    ((⟨(putV K n s.data.toList).toArray⟩ : ByteArray) == ⟨(putV L m t.data.toList).toArray⟩) = sameV K n s L m t := by
  rw [Bool.eq_iff_iff, beqB, sameV_iff]
  constructor
  · intro h
    obtain ⟨h1, h2, h3⟩ := putV_inj k0 k1 n0 n1 l0 l1 m0 m1 (by rw [size_list]; omega) (by rw [size_list]; omega) (bytes_of_list h)
    exact ⟨h1, h2, ByteArray.ext (Array.toList_inj.1 h3)⟩
  · rintro ⟨rfl, rfl, rfl⟩; rfl

set_option maxHeartbeats 4000000 in
set_option maxRecDepth 100000 in
theorem valueapart_walk (K n : Int) (s : ByteArray) (L m : Int) (t : ByteArray) (w : World) (k0 : -9223372036854775808 ≤ K) (k1 : K ≤ 9223372036854775807) (n0 : -9223372036854775808 ≤ n) (n1 : n ≤ 9223372036854775807) (_ : s.size ≤ maxLen)
    (l0 : -9223372036854775808 ≤ L) (l1 : L ≤ 9223372036854775807) (m0 : -9223372036854775808 ≤ m) (m1 : m ≤ 9223372036854775807) (_ : t.size ≤ maxLen) (hE : Env w) :
    Calls Tryd.prog 11 #[V3 K n s, V3 L m t] w fun e w' => e = .returned (.bool true) ∧ Below w.heap.size w w' := by
  have cA := fun w1 => refCheck_any K n s w1
  have cB := fun w1 => refCheck_any L m t w1
  have ba := below_alloc w (.cells #[.int .i64 K, .int .i64 n, .string s] 23)
  have bb := below_alloc (w.alloc (.cells #[.int .i64 K, .int .i64 n, .string s] 23)) (.cells #[.int .i64 L, .int .i64 m, .string t] 23)
  have ta := (three_new w (.int .i64 K) (.int .i64 n) (.string s) 23).later bb
  have tb := three_new (w.alloc (.cells #[.int .i64 K, .int .i64 n, .string s] 23)) (.int .i64 L) (.int .i64 m) (.string t) 23
  have hz : (w.alloc (.cells #[.int .i64 K, .int .i64 n, .string s] 23)).heap.size = w.heap.size + 1 := by simp
  rw [hz] at tb
  have hb0 := below_to ba bb
  obtain ⟨w0, hw0⟩ : ∃ w0, (w.alloc (.cells #[.int .i64 K, .int .i64 n, .string s] 23)).alloc (.cells #[.int .i64 L, .int .i64 m, .string t] 23) = w0 := ⟨_, rfl⟩
  rw [hw0] at ta tb hb0
  have hE0 := hE.later hb0
  clear ba bb hz hE
  cases hZa : checkB K n s.data.toList with
  | false =>
    simp only [hZa] at cA
    clear hZa cB
    go_enter Tryd.func11, Tryd.ntmps11
    obtain ⟨-, a0, a1, a2, -, -, -⟩ := ta
    clear tb
    go_wp2_with fail
    refine (cA _).mono ?_
    rintro e w1 ⟨rfl, hb1⟩
    clear hw0 cA
    have hbw := below_to hb0 hb1
    have hA := awake_any w1 (hE0.later hb1)
    go_wp2_with fail
    refine hA.mono ?_
    rintro e w2 ⟨rfl, hb2⟩
    go_wp2
    go_ret
    exact ⟨rfl, below_to hbw hb2⟩
  | true =>
    simp only [hZa] at cA
    cases hZb : checkB L m t.data.toList with
    | false =>
      simp only [hZb] at cB
      clear hZa hZb
      go_enter Tryd.func11, Tryd.ntmps11
      have tb1 := fun w1 h => tb.later (w' := w1) h
      obtain ⟨-, a0, a1, a2, -, -, -⟩ := ta
      clear tb
      go_wp2_with fail
      refine (cA _).mono ?_
      rintro e w1 ⟨rfl, hb1⟩
      clear hw0 cA a0 a1 a2
      have hbw := below_to hb0 hb1
      have hE1 := hE0.later hb1
      obtain ⟨-, a0, a1, a2, -, -, -⟩ := tb1 _ hb1
      clear hb1 tb1
      go_wp2_with fail
      refine (cB _).mono ?_
      rintro e w2 ⟨rfl, hb2⟩
      have hbw2 := below_to hbw hb2
      have hA := awake_any w2 (hE1.later hb2)
      clear hb2 cB a0 a1 a2
      go_wp2_with fail
      refine hA.mono ?_
      rintro e w3 ⟨rfl, hb3⟩
      go_wp2
      go_ret
      exact ⟨rfl, below_to hbw2 hb3⟩
    | true =>
      simp only [hZb] at cB
      have hsz := checked_size hZa
      have htz := checked_size hZb
      have hTZ := show_same hZa hZb n0 n1 m0 m1
      have hUZ := put_same hsz htz k0 k1 n0 n1 l0 l1 m0 m1
      have cS := fun w1 (hb : Below w0.heap.size w0 w1) => show_any K n s w1 n0 n1 (by omega) (hE0.later hb)
      have cT := fun w1 (hb : Below w0.heap.size w0 w1) => show_any L m t w1 m0 m1 (by omega) (hE0.later hb)
      have cP := fun w1 => putv_nil K n s w1 hsz k0 k1 n0 n1
      have cQ := fun w1 => putv_nil L m t w1 htz l0 l1 m0 m1
      have hq := fun w => eql_val K n s L m t w
      have hqi := fun w => eqlIn_val K n s L m t w
      generalize sameV K n s L m t = Z at *
      generalize (⟨(showL K n s.data.toList).toArray⟩ : ByteArray) = T1 at *
      generalize (⟨(showL L m t.data.toList).toArray⟩ : ByteArray) = T2 at *
      generalize putV K n s.data.toList = X1 at *
      generalize putV L m t.data.toList = X2 at *
      obtain ⟨U1, hU1⟩ : ∃ U : ByteArray, (⟨X1.toArray⟩ : ByteArray) = U := ⟨_, rfl⟩
      obtain ⟨U2, hU2⟩ : ∃ U : ByteArray, (⟨X2.toArray⟩ : ByteArray) = U := ⟨_, rfl⟩
      rw [hU1, hU2, beq_toListBytes] at hUZ
      rw [beq_toListBytes] at hTZ
      have HU1 := Lib.hid hU1
      have HU2 := Lib.hid hU2
      clear hZa hZb hU1 hU2
      go_enter Tryd.func11, Tryd.ntmps11
      have ta1 := fun w1 h => ta.later (w' := w1) h
      have tb1 := fun w1 h => tb.later (w' := w1) h
      obtain ⟨-, a0, a1, a2, -, -, -⟩ := ta
      clear tb
      go_wp2_with fail
      refine (cA _).mono ?_
      rintro e w1 ⟨rfl, hb1⟩
      clear hw0 cA a0 a1 a2
      have hb1k := hb1
      have hbw := below_to hb0 hb1
      obtain ⟨-, a0, a1, a2, -, -, -⟩ := tb1 _ hb1
      clear hb1
      go_wp2_with fail
      refine (cB _).mono ?_
      rintro e w2 ⟨rfl, hb2⟩
      have hbw2 := below_to hbw hb2
      have hb02 : Below w0.heap.size w0 w2 := below_to hb1k hb2
      clear hb2 hb1k cB a0 a1 a2
      go_wp2_with fail
      clear hq
      refine wp_region_held_drew (S := fun w' => Below w0.heap.size w0 w') (by kernel_rfl) (hb02.drew) (fun hHeld => ?_)
      refine held_take (i := 0) (v := ?_) rfl (by kernel_rfl) (by kernel_rfl) (by kernel_rfl) (fun _ _ _ h => h) (by rfl) hHeld ?_ ?_
      rotate_left
      · intro wz hSz; obtain ⟨-, q0, q1, q2, -, -, -⟩ := ta1 wz hSz; go_simp; try with_reducible rfl
      simp only [Act.put, List.setIfInBounds_toArray, List.set_cons_zero, List.set_cons_succ]
      refine held_take (i := 2) (v := ?_) rfl (by kernel_rfl) (by kernel_rfl) (by kernel_rfl) (fun _ _ _ h => h) (by rfl) hHeld ?_ ?_
      rotate_left
      · intro wz hSz; obtain ⟨-, q0, q1, q2, -, -, -⟩ := tb1 wz hSz; go_simp; try with_reducible rfl
      simp only [Act.put, List.setIfInBounds_toArray, List.set_cons_zero, List.set_cons_succ]
      refine held_take (i := 5) (v := ?_) rfl (by kernel_rfl) (by kernel_rfl) (by kernel_rfl) (fun _ _ _ h => h) (by rfl) hHeld ?_ ?_
      rotate_left
      · intro wz hSz; obtain ⟨-, q0, q1, q2, -, -, -⟩ := ta1 wz hSz; go_simp; try with_reducible rfl
      simp only [Act.put, List.setIfInBounds_toArray, List.set_cons_zero, List.set_cons_succ]
      refine held_take (i := 6) (v := ?_) rfl (by kernel_rfl) (by kernel_rfl) (by kernel_rfl) (fun _ _ _ h => h) (by rfl) hHeld ?_ ?_
      rotate_left
      · intro wz hSz; obtain ⟨-, q0, q1, q2, -, -, -⟩ := tb1 wz hSz; go_simp; try with_reducible rfl
      simp only [Act.put, List.setIfInBounds_toArray, List.set_cons_zero, List.set_cons_succ]
      refine held_take (i := 7) (v := .bool Z) rfl (by kernel_rfl) (by kernel_rfl) (by kernel_rfl) (fun _ _ _ h => h) (by rfl) hHeld ?_ ?_
      · intro wz hSz; (go_simp; first | done | rfl | simp [hqi])
      simp only [Act.put, List.setIfInBounds_toArray, List.set_cons_zero, List.set_cons_succ]
      refine held_call (i := 1) (by kernel_rfl) rfl (by rfl) (by go_simp; try with_reducible rfl) (cS _ hHeld) ?_
      rintro e wy ⟨rfl, hy⟩
      refine ⟨_, rfl, below_to hHeld hy, ?_⟩
      replace hHeld := below_to hHeld hy
      simp only [Act.put, List.setIfInBounds_toArray, List.set_cons_zero, List.set_cons_succ]
      clear hy
      refine held_call (i := 3) (by kernel_rfl) rfl (by rfl) (by go_simp; try with_reducible rfl) (cT _ hHeld) ?_
      rintro e wy ⟨rfl, hy⟩
      refine ⟨_, rfl, below_to hHeld hy, ?_⟩
      replace hHeld := below_to hHeld hy
      simp only [Act.put, List.setIfInBounds_toArray, List.set_cons_zero, List.set_cons_succ]
      clear hy cS cT
      refine held_take (i := 4) (v := .bool Z) rfl (by kernel_rfl) (by kernel_rfl) (by kernel_rfl) (fun _ _ _ h => h) (by rfl) hHeld ?_ ?_
      · intro wz hSz; (go_simp; first | done | rfl | exact hTZ | simp [hTZ])
      simp only [Act.put, List.setIfInBounds_toArray, List.set_cons_zero, List.set_cons_succ]
      refine held_take (i := 8) (v := .bool true) rfl (by kernel_rfl) (by kernel_rfl) (by kernel_rfl) (fun _ _ _ h => h) (by rfl) hHeld ?_ ?_
      · intro wz hSz; (go_simp; first | done | rfl | simp)
      simp only [Act.put, List.setIfInBounds_toArray, List.set_cons_zero, List.set_cons_succ]
      refine held_take (i := 9) (v := ?_) rfl (by kernel_rfl) (by kernel_rfl) (by kernel_rfl) (fun _ _ _ h => h) (by rfl) hHeld ?_ ?_
      rotate_left
      · intro wz hSz; go_simp; try with_reducible rfl
      simp only [Act.put, List.setIfInBounds_toArray, List.set_cons_zero, List.set_cons_succ]
      refine held_take (i := 10) (v := ?_) rfl (by kernel_rfl) (by kernel_rfl) (by kernel_rfl) (fun _ _ _ h => h) (by rfl) hHeld ?_ ?_
      rotate_left
      · intro wz hSz; obtain ⟨-, q0, q1, q2, -, -, -⟩ := ta1 wz hSz; go_simp; try with_reducible rfl
      simp only [Act.put, List.setIfInBounds_toArray, List.set_cons_zero, List.set_cons_succ]
      refine held_take (i := 13) (v := ?_) rfl (by kernel_rfl) (by kernel_rfl) (by kernel_rfl) (fun _ _ _ h => h) (by rfl) hHeld ?_ ?_
      rotate_left
      · intro wz hSz; obtain ⟨-, q0, q1, q2, -, -, -⟩ := tb1 wz hSz; go_simp; try with_reducible rfl
      simp only [Act.put, List.setIfInBounds_toArray, List.set_cons_zero, List.set_cons_succ]
      refine held_take (i := 17) (v := ?_) rfl (by kernel_rfl) (by kernel_rfl) (by kernel_rfl) (fun _ _ _ h => h) (by rfl) hHeld ?_ ?_
      rotate_left
      · intro wz hSz; obtain ⟨-, q0, q1, q2, -, -, -⟩ := ta1 wz hSz; go_simp; try with_reducible rfl
      simp only [Act.put, List.setIfInBounds_toArray, List.set_cons_zero, List.set_cons_succ]
      refine held_take (i := 18) (v := ?_) rfl (by kernel_rfl) (by kernel_rfl) (by kernel_rfl) (fun _ _ _ h => h) (by rfl) hHeld ?_ ?_
      rotate_left
      · intro wz hSz; obtain ⟨-, q0, q1, q2, -, -, -⟩ := tb1 wz hSz; go_simp; try with_reducible rfl
      simp only [Act.put, List.setIfInBounds_toArray, List.set_cons_zero, List.set_cons_succ]
      refine held_take (i := 19) (v := ?_) rfl (by kernel_rfl) (by kernel_rfl) (by kernel_rfl) (fun _ _ _ h => h) (by rfl) hHeld ?_ ?_
      rotate_left
      · intro wz hSz; go_simp; try with_reducible rfl
      simp only [Act.put, List.setIfInBounds_toArray, List.set_cons_zero, List.set_cons_succ]
      clear hqi hTZ ta1 tb1
      refine held_call (i := 11) (by kernel_rfl) rfl (by rfl) (by go_simp; try with_reducible rfl) (cP _) ?_
      rintro e wy ⟨A1, p1, rfl, hB1, _, _, hy⟩
      refine ⟨_, rfl, below_to hHeld hy, ?_⟩
      replace hHeld := below_to hHeld hy
      simp only [Act.put, List.setIfInBounds_toArray, List.set_cons_zero, List.set_cons_succ]
      have r1 := run_text_of p1 hB1 HU1.out
      clear hy cP
      refine held_read_call (i := 12) (j := 14) (v := .string U1) (by kernel_rfl) rfl rfl (by rfl) (by rfl) hHeld (by go_simp; try with_reducible rfl) (by go_simp; try with_reducible rfl) (cQ _) ?_ ?_
      · simp only [Act.put, List.setIfInBounds_toArray, List.set_cons_zero, List.set_cons_succ]
        refine held_call (i := 14) (by kernel_rfl) rfl (by rfl) (by go_simp; try with_reducible rfl) (cQ _) ?_
        rintro e wy ⟨A2, p2, rfl, hB2, _, _, hy⟩
        refine ⟨_, rfl, below_to hHeld hy, ?_⟩
        replace hHeld := below_to hHeld hy
        simp only [Act.put, List.setIfInBounds_toArray, List.set_cons_zero, List.set_cons_succ]
        have r2 := run_text_of p2 hB2 HU2.out
        clear hy cQ
        refine held_read (i := 15) (v := ?_) (by kernel_rfl) rfl (by rfl) hHeld ?_ ?_
        rotate_left
        · go_simp; try with_reducible rfl
        simp only [Act.put, List.setIfInBounds_toArray, List.set_cons_zero, List.set_cons_succ]
        refine held_take (i := 16) (v := .bool Z) rfl (by kernel_rfl) (by kernel_rfl) (by kernel_rfl) (fun _ _ _ h => h) (by rfl) hHeld ?_ ?_
        · intro wz hSz; (go_simp; first | done | rfl | exact hUZ | simp [hUZ])
        simp only [Act.put, List.setIfInBounds_toArray, List.set_cons_zero, List.set_cons_succ]
        refine held_take (i := 20) (v := .bool true) rfl (by kernel_rfl) (by kernel_rfl) (by kernel_rfl) (fun _ _ _ h => h) (by rfl) hHeld ?_ ?_
        · intro wz hSz; (go_simp; first | done | rfl | simp)
        simp only [Act.put, List.setIfInBounds_toArray, List.set_cons_zero, List.set_cons_succ]
        refine held_take (i := 21) (v := ?_) rfl (by kernel_rfl) (by kernel_rfl) (by kernel_rfl) (fun _ _ _ h => h) (by rfl) hHeld ?_ ?_
        rotate_left
        · intro wz hSz; go_simp; try with_reducible rfl
        simp only [Act.put, List.setIfInBounds_toArray, List.set_cons_zero, List.set_cons_succ]
        refine held_take (i := 22) (v := ?_) rfl (by kernel_rfl) (by kernel_rfl) (by kernel_rfl) (fun _ _ _ h => h) (by rfl) hHeld ?_ ?_
        rotate_left
        · intro wz hSz; go_simp; try with_reducible rfl
        simp only [Act.put, List.setIfInBounds_toArray, List.set_cons_zero, List.set_cons_succ]
        refine held_call (i := 23) (by kernel_rfl) rfl (by rfl) (by go_simp; try with_reducible rfl) (awake_any _ (hE0.later hHeld)) ?_
        rintro e wy ⟨rfl, hy⟩
        refine ⟨_, rfl, below_to hHeld hy, ?_⟩
        replace hHeld := below_to hHeld hy
        simp only [Act.put, List.setIfInBounds_toArray, List.set_cons_zero, List.set_cons_succ]
        refine held_take (i := 24) (v := ?_) rfl (by kernel_rfl) (by kernel_rfl) (by kernel_rfl) (fun _ _ _ h => h) (by rfl) hHeld ?_ ?_
        rotate_left
        · intro wz hSz; go_simp; try with_reducible rfl
        simp only [Act.put, List.setIfInBounds_toArray, List.set_cons_zero, List.set_cons_succ]
        refine held_take (i := 25) (v := ?_) rfl (by kernel_rfl) (by kernel_rfl) (by kernel_rfl) (fun _ _ _ h => h) (by rfl) hHeld ?_ ?_
        rotate_left
        · intro wz hSz; go_simp; try with_reducible rfl
        simp only [Act.put, List.setIfInBounds_toArray, List.set_cons_zero, List.set_cons_succ]
        refine wpAnyH_done (by kernel_rfl) ?_ _
        go_wp2
        go_ret
        exact ⟨rfl, below_to hb0 hHeld⟩
      · rintro e wy ⟨A2, p2, rfl, hB2, _, _, hy⟩
        refine ⟨_, rfl, below_to hHeld hy, ?_⟩
        replace hHeld := below_to hHeld hy
        have r3 := run_text_of p1 (hB1.below hy) HU1.out
        have r2 := run_text_of p2 hB2 HU2.out
        clear hy r1 cQ
        simp only [Act.put, List.setIfInBounds_toArray, List.set_cons_zero, List.set_cons_succ]
        refine held_read_read (i := 12) (j := 15) (v := .string U1) (v2 := .string U2) (by kernel_rfl) rfl rfl (by rfl) (by rfl) hHeld (by go_simp; try with_reducible rfl) (by go_simp; try with_reducible rfl) ?_ ?_
        · simp only [Act.put, List.setIfInBounds_toArray, List.set_cons_zero, List.set_cons_succ]
          refine held_read (i := 15) (v := ?_) (by kernel_rfl) rfl (by rfl) hHeld ?_ ?_
          rotate_left
          · go_simp; try with_reducible rfl
          simp only [Act.put, List.setIfInBounds_toArray, List.set_cons_zero, List.set_cons_succ]
          refine held_take (i := 16) (v := .bool Z) rfl (by kernel_rfl) (by kernel_rfl) (by kernel_rfl) (fun _ _ _ h => h) (by rfl) hHeld ?_ ?_
          · intro wz hSz; (go_simp; first | done | rfl | exact hUZ | simp [hUZ])
          simp only [Act.put, List.setIfInBounds_toArray, List.set_cons_zero, List.set_cons_succ]
          refine held_take (i := 20) (v := .bool true) rfl (by kernel_rfl) (by kernel_rfl) (by kernel_rfl) (fun _ _ _ h => h) (by rfl) hHeld ?_ ?_
          · intro wz hSz; (go_simp; first | done | rfl | simp)
          simp only [Act.put, List.setIfInBounds_toArray, List.set_cons_zero, List.set_cons_succ]
          refine held_take (i := 21) (v := ?_) rfl (by kernel_rfl) (by kernel_rfl) (by kernel_rfl) (fun _ _ _ h => h) (by rfl) hHeld ?_ ?_
          rotate_left
          · intro wz hSz; go_simp; try with_reducible rfl
          simp only [Act.put, List.setIfInBounds_toArray, List.set_cons_zero, List.set_cons_succ]
          refine held_take (i := 22) (v := ?_) rfl (by kernel_rfl) (by kernel_rfl) (by kernel_rfl) (fun _ _ _ h => h) (by rfl) hHeld ?_ ?_
          rotate_left
          · intro wz hSz; go_simp; try with_reducible rfl
          simp only [Act.put, List.setIfInBounds_toArray, List.set_cons_zero, List.set_cons_succ]
          refine held_call (i := 23) (by kernel_rfl) rfl (by rfl) (by go_simp; try with_reducible rfl) (awake_any _ (hE0.later hHeld)) ?_
          rintro e wy ⟨rfl, hy⟩
          refine ⟨_, rfl, below_to hHeld hy, ?_⟩
          replace hHeld := below_to hHeld hy
          simp only [Act.put, List.setIfInBounds_toArray, List.set_cons_zero, List.set_cons_succ]
          refine held_take (i := 24) (v := ?_) rfl (by kernel_rfl) (by kernel_rfl) (by kernel_rfl) (fun _ _ _ h => h) (by rfl) hHeld ?_ ?_
          rotate_left
          · intro wz hSz; go_simp; try with_reducible rfl
          simp only [Act.put, List.setIfInBounds_toArray, List.set_cons_zero, List.set_cons_succ]
          refine held_take (i := 25) (v := ?_) rfl (by kernel_rfl) (by kernel_rfl) (by kernel_rfl) (fun _ _ _ h => h) (by rfl) hHeld ?_ ?_
          rotate_left
          · intro wz hSz; go_simp; try with_reducible rfl
          simp only [Act.put, List.setIfInBounds_toArray, List.set_cons_zero, List.set_cons_succ]
          refine wpAnyH_done (by kernel_rfl) ?_ _
          go_wp2
          go_ret
          exact ⟨rfl, below_to hb0 hHeld⟩
        · simp only [Act.put, List.setIfInBounds_toArray, List.set_cons_zero, List.set_cons_succ]
          refine held_read (i := 12) (v := ?_) (by kernel_rfl) rfl (by rfl) hHeld ?_ ?_
          rotate_left
          · go_simp; try with_reducible rfl
          simp only [Act.put, List.setIfInBounds_toArray, List.set_cons_zero, List.set_cons_succ]
          refine held_take (i := 16) (v := .bool Z) rfl (by kernel_rfl) (by kernel_rfl) (by kernel_rfl) (fun _ _ _ h => h) (by rfl) hHeld ?_ ?_
          · intro wz hSz; (go_simp; first | done | rfl | exact hUZ | simp [hUZ])
          simp only [Act.put, List.setIfInBounds_toArray, List.set_cons_zero, List.set_cons_succ]
          refine held_take (i := 20) (v := .bool true) rfl (by kernel_rfl) (by kernel_rfl) (by kernel_rfl) (fun _ _ _ h => h) (by rfl) hHeld ?_ ?_
          · intro wz hSz; (go_simp; first | done | rfl | simp)
          simp only [Act.put, List.setIfInBounds_toArray, List.set_cons_zero, List.set_cons_succ]
          refine held_take (i := 21) (v := ?_) rfl (by kernel_rfl) (by kernel_rfl) (by kernel_rfl) (fun _ _ _ h => h) (by rfl) hHeld ?_ ?_
          rotate_left
          · intro wz hSz; go_simp; try with_reducible rfl
          simp only [Act.put, List.setIfInBounds_toArray, List.set_cons_zero, List.set_cons_succ]
          refine held_take (i := 22) (v := ?_) rfl (by kernel_rfl) (by kernel_rfl) (by kernel_rfl) (fun _ _ _ h => h) (by rfl) hHeld ?_ ?_
          rotate_left
          · intro wz hSz; go_simp; try with_reducible rfl
          simp only [Act.put, List.setIfInBounds_toArray, List.set_cons_zero, List.set_cons_succ]
          refine held_call (i := 23) (by kernel_rfl) rfl (by rfl) (by go_simp; try with_reducible rfl) (awake_any _ (hE0.later hHeld)) ?_
          rintro e wy ⟨rfl, hy⟩
          refine ⟨_, rfl, below_to hHeld hy, ?_⟩
          replace hHeld := below_to hHeld hy
          simp only [Act.put, List.setIfInBounds_toArray, List.set_cons_zero, List.set_cons_succ]
          refine held_take (i := 24) (v := ?_) rfl (by kernel_rfl) (by kernel_rfl) (by kernel_rfl) (fun _ _ _ h => h) (by rfl) hHeld ?_ ?_
          rotate_left
          · intro wz hSz; go_simp; try with_reducible rfl
          simp only [Act.put, List.setIfInBounds_toArray, List.set_cons_zero, List.set_cons_succ]
          refine held_take (i := 25) (v := ?_) rfl (by kernel_rfl) (by kernel_rfl) (by kernel_rfl) (fun _ _ _ h => h) (by rfl) hHeld ?_ ?_
          rotate_left
          · intro wz hSz; go_simp; try with_reducible rfl
          simp only [Act.put, List.setIfInBounds_toArray, List.set_cons_zero, List.set_cons_succ]
          refine wpAnyH_done (by kernel_rfl) ?_ _
          go_wp2
          go_ret
          exact ⟨rfl, below_to hb0 hHeld⟩
set_option maxRecDepth 1000000 in
theorem valueapart_lifted (os : Os) (started : os.Started) (H : Type) (enc : TypeId × Value → H) :
    ReturnsInHanded {} Tryd.checked os 11 .any (fun w args => (Rows.valueApartSpec.pre enc Tryd.prog Tryd.f11 [] false w args ∧ laidMetH Tryd.prog tabsLaid w) ∧ sizedMet enc Tryd.prog Tryd.f11 (OpenSpec.ofChange Rows.valueApartSpec) false w args)
      (Rows.valueApartSpec.post enc Tryd.prog Tryd.f11 false true false false) := by
  refine returnsInHanded_of_change_and (C := Tryd.checked) (X := fun w _ => laidMetH Tryd.prog tabsLaid w) (fun _ _ _ hh h => h.of_heap hh) own started (by kernel_rfl) Tryd.func11
    (ChangeSpec.witness_shaped (enc := enc) (C := Tryd.checked) (os := os) (X := fun w _ => laidMetH Tryd.prog tabsLaid w) false (World.laidAll Tryd.prog os tabsLaid) #[.agg #[.int .i64 0, .int .i64 0, .string ⟨#[]⟩], .agg #[.int .i64 0, .int .i64 0, .string ⟨#[]⟩]] 8 (World.laidAll_os _ _ _)
      (World.shaped_of_ZipB (by kernel_rfl) (by kernel_rfl)) (by kernel_rfl) (by kernel_rfl) (by kernel_rfl) (start_met os _)) ?_
  intro W base args ds gs before hval0 hW _ _ hL hsz0
  have hsz := hsz0
  have hval : ∀ (j : Nat) t v, Tryd.f11.params[j]? = some t → args[j]? = some v → Value.okWide Tryd.prog W .any base t v := hval0
  have hW' := hW
  obtain ⟨p, q, hA0, hV, rfl, _, _⟩ := hW
  have hA : DataW.TrodAll enc Tryd.prog W 0 (fun _ => true) true Tryd.f11.params.toList args.toList ds p := hA0
  rw [Tryd.params11] at hA hval
  obtain ⟨v0, v1, d0, d1, p0, p1, rfl, rfl, rfl, h0, h1⟩ := trodAll_two hA
  obtain ⟨rfl, rfl⟩ := trodVars_none hV
  obtain ⟨K0, n0, s0, rfl, rfl, T0, a0, b0, e0, f0, z0, rfl⟩ := open_val (hval 0 23 v0 rfl rfl) h0
  obtain ⟨K1, n1, s1, rfl, rfl, T1, a1, b1, e1, f1, z1, rfl⟩ := open_val (hval 1 23 v1 rfl rfl) h1
  simp only [List.append_nil] at hW'
  refine (valueapart_walk K0 n0 s0 K1 n1 s1 W a0 b0 e0 f0 z0 a1 b1 e1 f1 z1 (env_of_laid hL)).mono fun e W' ⟨he, hb⟩ => ?_
  subst he
  exact ⟨_, rfl, _, _, _, [], _, [], hW', trodAll_mk1 (shut_bool Tryd.underlying4 _), trodAll_mk2 (T0 _ _) (T1 _ _), rfl, hb.frame _, fun h => by cases h⟩

theorem valueapart_holds : Rows.ValueApartSaid :=
  OpenClaim.holds_of_wide 11 Tryd.f11 rfl rfl rfl rfl rfl rfl rfl ⟨rfl, rfl, rfl, rfl, rfl⟩ rfl rfl rfl rfl rfl (by kernel_rfl) Tryd.func11 (by kernel_rfl)
    (of_decide_eq_true (by kernel_rfl)) (by unfold Func.isWrapper; first | (rw [if_pos (by decide +kernel)]; kernel_rfl) | (rw [if_neg (by decide +kernel)]; exact ⟨rfl, rfl⟩))
    (fun os started H enc _ => valueapart_lifted os started H enc)

theorem valueapart_card : Rows.ValueApartCardSaid :=
  Claim7.holds_tied_plain_at .later [] [.data, .data, .data, .data, .pinned] true _ true
    valueapart_holds (fun _ h => by cases h) (by kernel_rfl) (fun _ h => by cases h) valueApart_row_tie rfl ⟨rfl, rfl⟩ (by kernel_rfl) rfl
    (fun f fn hf hfn => by
      obtain rfl : f = 11 := Option.some.inj ((show Tryd.prog.funcNamed "palaver/palaverlaw05.ValueApart" = some 11 by kernel_rfl).symm.trans hf) |>.symm
      obtain rfl : fn = Tryd.f11 := (Option.some.inj (Tryd.func11.symm.trans hfn)).symm
      exact ⟨by kernel_rfl, fun j t ht => by
        rw [Tryd.params11] at ht
        have hm : t ∈ [23, 23] := by simpa using Array.mem_of_getElem? ht
        have hall : ([23, 23].all fun u => !Tryd.prog.wantsStandIn u) = true := by kernel_rfl
        exact (show Tryd.prog.wantsStandIn t = false by simpa using List.all_eq_true.1 hall t hm)⟩)
    (by kernel_rfl)
end Go.Proofs.YtfcigknalnmhcaaDoor
