/- The statement ParseTexts: of any expression that has few enough parts and that may be, the program's Text is the document's, its Names are the document's, it is the same as its copy, and its text, if that has few enough bytes, says it. Conditions: none but what the card ties (the library's variables, and the table of forms, hold what their texts lay). -/
import Derived.Test.YtbbblmedoagncaaGreatDoorGR
import Derived.Test.YtbbblmedoagncaaGreatDoorMParAwk
import Derived.Test.YtbbblmedoagncaaGreatDoorGQ
import Derived.Test.YtbbblmedoagncaaGreatDoorHD
import Derived.Test.YtbbblmedoagncaaGreatDoorMKitE
import Derived.Test.YtbbblmedoagncaaGreatDoorHF
import Derived.Test.YtbbblmedoagncaaGreatDoorGE
import Derived.Test.YtbbblmedoagncaaGreatDoorGP
import Derived.Test.YtbbblmedoagncaaGreatDoorGU
import Derived.Test.YtbbblmedoagncaaGreatDoorMParSame
import Derived.Test.YtbbblmedoagncaaGreatDoorMRSame
import Derived.Test.YtbbblmedoagncaaGreatDoorMPNm
import Derived.Test.YtbbblmedoagncaaGreatDoorMRNm
import Derived.Test.YtbbblmedoagncaaGreatDoorMRTxB
import Derived.Test.YtbbblmedoagncaaGreatDoorMSTx
namespace Go.Proofs.YtbbblmedoagncaaGreatDoor
open Go.RowKit

mutual
/-- Where no name has kids the two ways of names are one. -/
theorem pn_nm : ∀ e : Ex, allB e = true → pnE e = nmE e
  | .mk op n s ks, h => by
    rw [pnE, nmE]
    have hk : allBL ks = true := by rw [allB] at h; simp only [Bool.and_eq_true] at h; exact h.2
    rw [pn_nmL ks hk]
    by_cases h4 : op = 4
    · subst h4
      have hl : ks.length = 0 := by have := arity_in (part_arity (all_part h)).1; omega
      rw [List.length_eq_zero_iff.1 hl]
      rfl
    · rw [if_neg h4, if_neg h4, List.nil_append]
theorem pn_nmL : ∀ es : List Ex, allBL es = true → pnL es = nmL es
  | [], _ => by rw [pnL, nmL]
  | e :: es, h => by
    rw [allBL] at h
    simp only [Bool.and_eq_true] at h
    rw [pnL, nmL, pn_nm e h.1, pn_nmL es h.2]
end
theorem riseB_ext {L M : List ByteArray} (hL : RiseB L) (hM : RiseB M) (h : ∀ x, x ∈ L ↔ x ∈ M) : L = M := by
  have hx : ∀ (K : List ByteArray) (y : List UInt8), y ∈ (K.map fun s => s.data.toList) ↔ (⟨y.toArray⟩ : ByteArray) ∈ K := fun K y => by
    rw [List.mem_map]
    constructor
    · rintro ⟨x, h1, rfl⟩
      simpa using h1
    · intro h1
      exact ⟨_, h1, by simp⟩
  have e := Rise.ext hL hM fun y => by rw [hx, hx]; exact h _
  have inj : ∀ {L M : List ByteArray}, (L.map fun s => s.data.toList) = (M.map fun s => s.data.toList) → L = M := by
    intro L
    induction L with
    | nil => intro M h; cases M with
      | nil => rfl
      | cons b M => simp at h
    | cons a L ih => intro M h; cases M with
      | nil => simp at h
      | cons b M =>
        simp only [List.map_cons, List.cons.injEq] at h
        rw [ih h.2, show a = b from ByteArray.ext (Array.toList_inj.1 h.1)]
  exact inj e
theorem copy_pos (e : Ex) (v : Value) (S : Nat → Prop) (w : World) (hv : ExIn w S e v) (hd : deepE e ≤ 36) (hn : nodes e ≤ 300) (h0 : 0 < w.heap.size) :
    Calls Tryz.prog 10 #[v] w fun en w' => Below w.heap.size w w' ∧ ∃ ao c, en = .returned (EV e.op e.num ⟨e.str.toArray⟩ (.slice ao e.kids.length c)) ∧ ExIn w' (fun b => 0 < b) e (EV e.op e.num ⟨e.str.toArray⟩ (.slice ao e.kids.length c)) :=
  (copy_any e v S w hv hd hn).mono fun _ _ ⟨h1, ao, c, h2, h3⟩ => ⟨h1, ao, c, h2, h3.wide fun b (hb : w.heap.size ≤ b) _ => (by omega : 0 < b)⟩
set_option maxHeartbeats 8000000 in
set_option maxRecDepth 1000000 in
theorem parsetexts_walk (v : Value) (e : Ex) (w : World) (hv : ExIn w (fun _ => True) e v) (hE : EnvP w) :
    Calls Tryz.prog 3 #[v] w fun en w' => en = .returned (.bool true) ∧ Below w.heap.size w w' := by
  have cW := fun w' (hb : Below w.heap.size w w') => awake_any w' (hE.later hb)
  obtain ⟨ao, cap, rfl, -⟩ := hv.get
  have hX := four_new w (.int .i64 e.op) (.int .i64 e.num) (.string ⟨e.str.toArray⟩) (.slice ao e.kids.length cap) 24
  have hbX := below_alloc w (.cells #[.int .i64 e.op, .int .i64 e.num, .string ⟨e.str.toArray⟩, .slice ao e.kids.length cap] 24)
  have hvX := hv.later hbX
  obtain ⟨wX, hwX⟩ : ∃ wX, w.alloc (.cells #[.int .i64 e.op, .int .i64 e.num, .string ⟨e.str.toArray⟩, .slice ao e.kids.length cap] 24) = wX := ⟨_, rfl⟩
  rw [hwX] at hX hbX hvX
  have cT := tinyE_any e _ _ wX hvX
  have HX := Lib.hid hX
  have HV := Lib.hid hvX
  have HE := Lib.hid hE
  obtain ⟨-, x0, x1, x2, x3, -⟩ := hX
  clear hv hvX hE
  go_enter Tryz.func3, Tryz.ntmps3
  go_wp2_with fail
  refine cT.mono ?_
  rintro en w1 ⟨b, rfl, b1, hb⟩
  have hB1 := below_to hbX b1
  have HB := Lib.hid hb
  clear cT x0 x1 x2 x3 hwX hb
  cases b with
  | false =>
    have c2 := cW w1 hB1
    have HB1 := Lib.hid hB1
    clear cW hB1 b1 hbX
    go_wp2_with fail
    refine c2.mono ?_
    rintro en w2 ⟨rfl, b2⟩
    go_wp2_with fail
    go_ret
    exact ⟨rfl, below_to HB1.out b2⟩
  | true =>
  have hnd := HB.out rfl
  have cC := rcheck_any e _ _ w1 (HE.out.later hB1) (HV.out.later b1)
  obtain ⟨-, x0, x1, x2, x3, -⟩ := HX.out.later b1
  go_wp2_with fail
  refine cC.mono ?_
  rintro en w2 ⟨rfl, b2⟩
  have hB2 := below_to hB1 b2
  have hX2 := HX.out.later (below_to b1 b2)
  have hv2 := HV.out.later (below_to b1 b2)
  clear cC x0 x1 x2 x3 b1 b2 hB1 hbX HB HX HV
  cases hc : chkB e with
  | false =>
    have c2 := cW w2 hB2
    have HB1 := Lib.hid hB2
    clear cW hB2
    go_wp2_with fail
    refine c2.mono ?_
    rintro en w2 ⟨rfl, b2⟩
    go_wp2_with fail
    go_ret
    exact ⟨rfl, below_to HB1.out b2⟩
  | true =>
  have HC := Lib.hid hc
  have HAB := Lib.hid (chk_all hc).1
  have HFT := Lib.hid hv2.fit
  have hLEN := textE_len e (chk_all hc).1 hv2.fit
  have HX := Lib.hid hX2
  have HV := Lib.hid hv2
  have HB2 := Lib.hid hB2
  have HND := Lib.hid hnd
  have HW := Lib.hid cW
  have cC := copy_any e _ _ _ hv2 hnd.2 hnd.1
  obtain ⟨-, x0, x1, x2, x3, -⟩ := hX2
  clear hv2 hB2 hc cW
  go_wp2_with fail
  refine cC.mono ?_
  rintro en w3 ⟨b3, ao2, c2, rfl, hx3⟩
  have cT := ptext_any e _ _ w3 (HE.out.later (below_to HB2.out b3)) hx3
  rw [if_pos HC.out] at cT
  have HB3 := Lib.hid (below_to HB2.out b3)
  have HX3 := Lib.hid (HX.out.later b3)
  have HV3 := Lib.hid (HV.out.later b3)
  clear cC x0 x1 x2 x3 b3 hx3 HX HV
  go_wp2_with fail
  refine cT.mono ?_
  rintro en w4 ⟨rfl, b4⟩
  have HB4 := Lib.hid (below_to HB3.out b4)
  have HX4 := Lib.hid (HX3.out.later b4)
  have HV4 := Lib.hid (HV3.out.later b4)
  have HQ : Hid ((⟨(textE e).toArray⟩ : ByteArray).size = (textE e).length) := Lib.hid (by simp [ByteArray.size])
  have HS : Hid ((textE e).length ≤ 400 → Says (⟨(textE e).toArray⟩ : ByteArray).data.toList (.ok e)) := Lib.hid fun h => by
    rw [show (⟨(textE e).toArray⟩ : ByteArray).data.toList = textE e by simp]
    exact text_says HC.out HFT.out h
  have HRT : Hid (∀ w', ExIn w' (fun _ => True) e (EV e.op e.num ⟨e.str.toArray⟩ (.slice ao e.kids.length cap)) → Calls Tryz.prog 11 #[EV e.op e.num ⟨e.str.toArray⟩ (.slice ao e.kids.length cap)] w' fun en wz => en = .returned (.string ⟨(textE e).toArray⟩) ∧ Below w'.heap.size w' wz) := Lib.hid fun w' h => rtext_any e _ _ w' h (by have := HND.out.1; omega) HAB.out
  have HP : Hid (0 < w4.heap.size) := Lib.hid (by have := HX4.out.lt; omega)
  clear cT b4 HX3 HV3
  have hsz : (⟨(textE e).toArray⟩ : ByteArray).size ≤ 100000000 := by rw [HQ.out]; have := HND.out.1; omega
  have HLT : Hid ((⟨(textE e).toArray⟩ : ByteArray).size ≤ 400 → Says (⟨(textE e).toArray⟩ : ByteArray).data.toList (.ok e)) := Lib.hid fun h => HS.out (by rw [← HQ.out]; exact h)
  clear HQ HS hLEN
  generalize (⟨(textE e).toArray⟩ : ByteArray) = T at *
  have hTT : (T.toList == T.toList) = true := by simp
  have hTN : (T.toList != T.toList) = false := by simp
  go_wp2_with fail
  refine wp_region_held_drew (S := fun w' => Below w4.heap.size w4 w') (by kernel_rfl) ((Below.refl _ _).drew) (fun hHeld => ?_)
  refine held_take (i := 0) (v := ?_) rfl (by kernel_rfl) (by kernel_rfl) (by kernel_rfl) (fun _ _ _ h => h) (by rfl) hHeld ?_ ?_
  rotate_left
  · intro wz hSz; go_simp; try with_reducible rfl
  simp only [Act.put, List.setIfInBounds_toArray, List.set_cons_zero, List.set_cons_succ]
  refine held_take (i := 1) (v := ?_) rfl (by kernel_rfl) (by kernel_rfl) (by kernel_rfl) (fun _ _ _ h => h) (by rfl) hHeld ?_ ?_
  rotate_left
  · intro wz hSz; obtain ⟨-, q0, q1, q2, q3, -⟩ := HX4.out.later hSz; go_simp; try with_reducible rfl
  simp only [Act.put, List.setIfInBounds_toArray, List.set_cons_zero, List.set_cons_succ]
  refine held_call (i := 2) (by kernel_rfl) rfl (by rfl) (by go_simp; try with_reducible rfl) (HRT.out _ (HV4.out.later hHeld)) ?_
  rintro e wy ⟨rfl, hy⟩
  refine ⟨_, rfl, below_to hHeld hy, ?_⟩
  replace hHeld := below_to hHeld hy
  simp only [Act.put, List.setIfInBounds_toArray, List.set_cons_zero, List.set_cons_succ]
  refine held_take (i := 3) (v := .bool false) rfl (by kernel_rfl) (by kernel_rfl) (by kernel_rfl) (fun _ _ _ h => h) (by rfl) hHeld ?_ ?_
  · intro wz hSz; (go_simp; first | done | rfl | simp)
  simp only [Act.put, List.setIfInBounds_toArray, List.set_cons_zero, List.set_cons_succ]
  refine held_take (i := 4) (v := ?_) rfl (by kernel_rfl) (by kernel_rfl) (by kernel_rfl) (fun _ _ _ h => h) (by rfl) hHeld ?_ ?_
  rotate_left
  · intro wz hSz; go_simp; try with_reducible rfl
  simp only [Act.put, List.setIfInBounds_toArray, List.set_cons_zero, List.set_cons_succ]
  refine held_take (i := 5) (v := ?_) rfl (by kernel_rfl) (by kernel_rfl) (by kernel_rfl) (fun _ _ _ h => h) (by rfl) hHeld ?_ ?_
  rotate_left
  · intro wz hSz; obtain ⟨-, q0, q1, q2, q3, -⟩ := HX4.out.later hSz; go_simp; try with_reducible rfl
  simp only [Act.put, List.setIfInBounds_toArray, List.set_cons_zero, List.set_cons_succ]
  refine held_take (i := 8) (v := ?_) rfl (by kernel_rfl) (by kernel_rfl) (by kernel_rfl) (fun _ _ _ h => h) (by rfl) hHeld ?_ ?_
  rotate_left
  · intro wz hSz; obtain ⟨-, q0, q1, q2, q3, -⟩ := HX4.out.later hSz; go_simp; try with_reducible rfl
  simp only [Act.put, List.setIfInBounds_toArray, List.set_cons_zero, List.set_cons_succ]
  refine held_call (i := 6) (by kernel_rfl) rfl (by rfl) (by go_simp; try with_reducible rfl) (copy_pos e _ _ _ (HV4.out.later hHeld) HND.out.2 HND.out.1 (Nat.lt_of_lt_of_le HP.out hHeld.size)) ?_
  rintro e wy ⟨hy, ao3, c3, rfl, hx3⟩
  refine ⟨_, rfl, below_to hHeld hy, ?_⟩
  replace hHeld := below_to hHeld hy
  simp only [Act.put, List.setIfInBounds_toArray, List.set_cons_zero, List.set_cons_succ]
  refine held_call (i := 7) (by kernel_rfl) rfl (by rfl) (by go_simp; try with_reducible rfl) (pnames_any e _ _ _ hx3 (Nat.lt_irrefl 0) (by have := HND.out.1; omega)) ?_
  rintro e wy ⟨hy2, v1, L1, rfl, ho1, hm1, hr1, hl1⟩
  refine ⟨_, rfl, below_to hHeld hy2, ?_⟩
  replace hHeld := below_to hHeld hy2
  simp only [Act.put, List.setIfInBounds_toArray, List.set_cons_zero, List.set_cons_succ]
  obtain ⟨A1, k1, rfl, hk1, hE1, -⟩ := els_own (f := Value.string) (d := ByteArray.empty) ho1
  clear hx3 ho1 hk1 hy
  refine held_call (i := 9) (by kernel_rfl) rfl (by rfl) (by go_simp; try with_reducible rfl) (names_rise _ e (Nat.le_refl _) (by have := HND.out.1; omega) _ _ _ (HV4.out.later hHeld)) ?_
  rintro e wy ⟨hy3, v2, L2, rfl, hn2, hl2, hm2, hr2⟩
  refine ⟨_, rfl, below_to hHeld hy3, ?_⟩
  replace hHeld := below_to hHeld hy3
  simp only [Act.put, List.setIfInBounds_toArray, List.set_cons_zero, List.set_cons_succ]
  obtain ⟨A2, k2, rfl, hE2⟩ := hn2.els
  obtain rfl : L2 = L1 := riseB_ext hr2 hr1 fun x => by rw [hm2, hm1, pn_nm e HAB.out]
  refine held_call (i := 10) (by kernel_rfl) rfl (by rfl) (by go_simp; try with_reducible rfl) (same_texts A1 A2 _ k1 k2 _ (by have := HND.out.1; omega) (Els.below hE1 hy3) hE2) ?_
  rintro e wy ⟨rfl, hy4⟩
  refine ⟨_, rfl, below_to hHeld hy4, ?_⟩
  replace hHeld := below_to hHeld hy4
  simp only [Act.put, List.setIfInBounds_toArray, List.set_cons_zero, List.set_cons_succ]
  refine held_take (i := 11) (v := .bool false) rfl (by kernel_rfl) (by kernel_rfl) (by kernel_rfl) (fun _ _ _ h => h) (by rfl) hHeld ?_ ?_
  · intro wz hSz; (go_simp; first | done | rfl | simp)
  simp only [Act.put, List.setIfInBounds_toArray, List.set_cons_zero, List.set_cons_succ]
  refine held_take (i := 12) (v := .bool false) rfl (by kernel_rfl) (by kernel_rfl) (by kernel_rfl) (fun _ _ _ h => h) (by rfl) hHeld ?_ ?_
  · intro wz hSz; (go_simp; first | done | rfl | simp)
  simp only [Act.put, List.setIfInBounds_toArray, List.set_cons_zero, List.set_cons_succ]
  refine held_take (i := 13) (v := ?_) rfl (by kernel_rfl) (by kernel_rfl) (by kernel_rfl) (fun _ _ _ h => h) (by rfl) hHeld ?_ ?_
  rotate_left
  · intro wz hSz; go_simp; try with_reducible rfl
  simp only [Act.put, List.setIfInBounds_toArray, List.set_cons_zero, List.set_cons_succ]
  clear hE1 hE2 hn2 hm1 hm2 hr1 hr2 hl1 hl2
  refine held_take (i := 14) (v := ?_) rfl (by kernel_rfl) (by kernel_rfl) (by kernel_rfl) (fun _ _ _ h => h) (by rfl) hHeld ?_ ?_
  rotate_left
  · intro wz hSz; obtain ⟨-, q0, q1, q2, q3, -⟩ := HX4.out.later hSz; go_simp; try with_reducible rfl
  simp only [Act.put, List.setIfInBounds_toArray, List.set_cons_zero, List.set_cons_succ]
  refine held_take (i := 15) (v := ?_) rfl (by kernel_rfl) (by kernel_rfl) (by kernel_rfl) (fun _ _ _ h => h) (by rfl) hHeld ?_ ?_
  rotate_left
  · intro wz hSz; obtain ⟨-, q0, q1, q2, q3, -⟩ := HX4.out.later hSz; go_simp; try with_reducible rfl
  simp only [Act.put, List.setIfInBounds_toArray, List.set_cons_zero, List.set_cons_succ]
  refine held_call (i := 16) (by kernel_rfl) rfl (by rfl) (by go_simp; try with_reducible rfl) (copy_any e _ _ _ (HV4.out.later hHeld) HND.out.2 HND.out.1) ?_
  rintro e wy ⟨hy5, ao6, c6, rfl, hx6⟩
  refine ⟨_, rfl, below_to hHeld hy5, ?_⟩
  replace hHeld := below_to hHeld hy5
  simp only [Act.put, List.setIfInBounds_toArray, List.set_cons_zero, List.set_cons_succ]
  refine held_call (i := 17) (by kernel_rfl) rfl (by rfl) (by go_simp; try with_reducible rfl) (psame_any e _ _ _ _ _ (HV4.out.later hHeld) hx6 (by have := HND.out.1; omega)) ?_
  rintro e wy ⟨rfl, hy6⟩
  refine ⟨_, rfl, below_to hHeld hy6, ?_⟩
  replace hHeld := below_to hHeld hy6
  simp only [Act.put, List.setIfInBounds_toArray, List.set_cons_zero, List.set_cons_succ]
  refine held_take (i := 18) (v := .bool false) rfl (by kernel_rfl) (by kernel_rfl) (by kernel_rfl) (fun _ _ _ h => h) (by rfl) hHeld ?_ ?_
  · intro wz hSz; (go_simp; first | done | rfl | simp)
  simp only [Act.put, List.setIfInBounds_toArray, List.set_cons_zero, List.set_cons_succ]
  refine held_take (i := 19) (v := ?_) rfl (by kernel_rfl) (by kernel_rfl) (by kernel_rfl) (fun _ _ _ h => h) (by rfl) hHeld ?_ ?_
  rotate_left
  · intro wz hSz; go_simp; try with_reducible rfl
  simp only [Act.put, List.setIfInBounds_toArray, List.set_cons_zero, List.set_cons_succ]
  refine wpAnyH_done (by kernel_rfl) ?_ _
  have HB5 := Lib.hid (below_to HB4.out hHeld)
  have HX5 := Lib.hid (HX4.out.later hHeld)
  have HV5 := Lib.hid (HV4.out.later hHeld)
  clear hHeld HX4 HV4 HB4
  by_cases hl : 400 < T.size
  · have hlz : (400 : Int) < (T.size : Int) := by omega
    have c := HW.out _ HB5.out
    clear HW
    go_wp2_with fail
    refine c.mono ?_
    rintro en w6 ⟨rfl, b6⟩
    go_wp2_with fail
    go_ret
    exact ⟨rfl, below_to HB5.out b6⟩
  · have hlz : ¬ (400 : Int) < (T.size : Int) := by omega
    have cP := parseF_any T (.ok e) _ (by omega) (HE.out.later HB5.out) (HLT.out (by omega))
    unfold PaEnd at cP
    dsimp only at cP
    go_wp2_with fail
    refine cP.mono ?_
    rintro en w6 ⟨b6, op, n, z, ao7, c7, rfl, hx⟩
    have d7 := below_alloc w6 (.cells #[.int .i64 op, .int .i64 n, .string z, .slice ao7 e.kids.length c7] 24)
    have f7 := four_new w6 (.int .i64 op) (.int .i64 n) (.string z) (.slice ao7 e.kids.length c7) 24
    have hx7 := hx.later d7
    have hB7 := below_to (below_to HB5.out b6) d7
    obtain ⟨w7, hw7⟩ : ∃ w7, w6.alloc (.cells #[.int .i64 op, .int .i64 n, .string z, .slice ao7 e.kids.length c7] 24) = w7 := ⟨_, rfl⟩
    rw [hw7] at d7 f7 hx7 hB7
    obtain ⟨-, y0, y1, y2, y3, -⟩ := HX5.out.later (below_to b6 d7)
    obtain ⟨-, z0, z1, z2, z3, -⟩ := f7
    have cS := rsame_any e _ _ _ _ w7 hx7 (HV5.out.later (below_to b6 d7))
    have HB7 := Lib.hid hB7
    clear cP hx hx7 hB7 b6 d7 HX5 HV5 HB5 HLT HRT
    go_wp2_with fail
    refine cS.mono ?_
    rintro en w8 ⟨rfl, b8⟩
    have HB8 := Lib.hid (below_to HB7.out b8)
    have c := HW.out _ HB8.out
    clear cS b8 HW HB7
    go_wp2_with fail
    refine c.mono ?_
    rintro en w9 ⟨rfl, b9⟩
    go_wp2_with fail
    go_ret
    exact ⟨rfl, below_to HB8.out b9⟩
end Go.Proofs.YtbbblmedoagncaaGreatDoor
