/- The document's own parser: atom. -/
import Derived.Test.YtjmfpgalepahoaaGreatDoorMRxW
namespace Go.Proofs.YtjmfpgalepahoaaGreatDoor
open Go.RowKit
set_option maxHeartbeats 8000000 in
set_option maxRecDepth 100000 in
theorem xatom_step {w0 : World} {g : Nat} {T : List Tk} {h cap F : Nat} (hW : ∀ (w : World) (i : Nat) (t : Tk) r, XG w0 w g T h cap i (-1) → T[i]? = some t → t.k = 3 → pW F t.s (T.drop (i + 1)) = some r → Calls Tryz.prog 262 #[.pointer (some ⟨g, 0, none⟩), .string ⟨t.s.toArray⟩] w (XEnd w0 w g T h cap r))
    (hO : ∀ (w : World) (i : Nat) r, XG w0 w g T h cap i (-1) → pE F 0 (T.drop i) = some r → Calls Tryz.prog 36 #[.pointer (some ⟨g, 0, none⟩)] w (XEnd w0 w g T h cap r))
    (w : World) (i : Nat) (r : Except Nat (Ex × List Tk)) (p : XG w0 w g T h cap i (-1)) (hr : pA (F + 1) (T.drop i) = some r) : Calls Tryz.prog 261 #[.pointer (some ⟨g, 0, none⟩)] w (XEnd w0 w g T h cap r) := by
  have hgl := p.glt
  obtain ⟨t, ht, hd, -⟩ := p.tok
  have hmem := List.mem_of_getElem? ht
  have hI : isS (T.drop i) [40] = decide (sgT t = [40]) := by rw [hd]; exact isS_sg (by decide)
  have hId : isS (T.drop i) [40] = isS (t :: T.drop (i + 1)) [40] := by rw [hd]
  rw [hd, pA] at hr
  have d1 := below_alloc w (.cells #[.int .i64 0, .int .i64 0, .string ⟨#[]⟩, .slice none 0 0] 25)
  have f1 := four_new w (.int .i64 0) (.int .i64 0) (.string ⟨#[]⟩) (.slice none 0 0) 25
  have z1 := alloc_size w (.cells #[.int .i64 0, .int .i64 0, .string ⟨#[]⟩, .slice none 0 0] 25)
  obtain ⟨w1, hw1⟩ : ∃ x, w.alloc (.cells #[.int .i64 0, .int .i64 0, .string ⟨#[]⟩, .slice none 0 0] 25) = x := ⟨_, rfl⟩
  rw [hw1] at d1 f1 z1
  have p1 := p.later d1
  have HP1 := Lib.hid p1
  have HF1 := Lib.hid f1
  have HA1 := Lib.hid (Away.of (g := g) d1)
  have HZ1 := Lib.hid z1
  have HGL := Lib.hid hgl
  have hbig := p.big
  have hlt := p.lt
  have hwr : IntKind.i64.wrap ((i : Int) + 1) = (i : Int) + 1 := IntWalk.i64_in _ (by omega)
  have HT := Lib.hid ht
  have HSZ := Lib.hid (p.good.size t hmem)
  have HNM := Lib.hid (p.good.num t hmem)
  have HNX := Lib.hid (fun (hk : t.k ≠ 0) => p.next ht hk)
  have cT := xtok_any w0 w1 g T h cap i (-1) t p1 ht
  obtain ⟨y0, y1, y2, f1, f2⟩ := p1.cells
  have HSS := Lib.hid (rfl : (⟨t.s.toArray⟩ : ByteArray) = ⟨t.s.toArray⟩)
  clear d1 z1 p1 p ht hmem hgl hd
  by_cases hk1 : t.k = 1
  · rw [if_pos hk1] at hr
    injection hr with hr
    have HR := Lib.hid hr
    have HL := Lib.hid (HNX.out (by omega))
    have hkI : ((t.k : Nat) : Int) = 1 := by rw [hk1]; rfl
    rw [hkI] at cT
    clear hr hk1 hkI hI hId hW hO
    generalize hS : (⟨t.s.toArray⟩ : ByteArray) = S at *
    clear hS
    go_enter Tryz.func261, Tryz.ntmps261
    go_wp2_with fail
    refine cT.mono ?_
    rintro e w2 ⟨rfl, b2⟩
    have d3 := below_alloc w2 (.cells #[.int .i64 1, .string S, .int .i64 (t.n : Int), .int .i64 (t.a : Int)] 61)
    have f3 := four_new w2 (.int .i64 1) (.string S) (.int .i64 (t.n : Int)) (.int .i64 (t.a : Int)) 61
    have z3 := alloc_size w2 (.cells #[.int .i64 1, .string S, .int .i64 (t.n : Int), .int .i64 (t.a : Int)] 61)
    obtain ⟨w3, hw3⟩ : ∃ x, w2.alloc (.cells #[.int .i64 1, .string S, .int .i64 (t.n : Int), .int .i64 (t.a : Int)] 61) = x := ⟨_, rfl⟩
    rw [hw3] at d3 f3 z3
    have d13 := below_to b2 d3
    have hs2 := b2.size
    have HF3 := Lib.hid (HF1.out.later d13)
    have p3 := HP1.out.later d13
    have HP3 := Lib.hid p3
    have HA3 := Lib.hid (HA1.out.next d13)
    have HV : Hid (w.heap.size < w3.heap.size) := Lib.hid (by have := HZ1.out; omega)
    have HFT := Lib.hid f3
    obtain ⟨-, x1, x2, fx1, fx2⟩ := p3.cells
    obtain ⟨-, k0, k1, k2, k3, -⟩ := f3
    have HF3' := HF3.out
    obtain ⟨-, r0, r1, r2, r3, fr0, fr1, fr2, fr3⟩ := HF3'
    have hgl := HGL.out
    have hz := HZ1.out
    have hne1 : w2.heap.size ≠ g := by omega
    clear cT b2 d3 d13 p3 y0 y1 y2 f1 f2 hw1
    go_wp2_with fail
    have HP4 := Lib.hid (HP3.out.goes (z := (i : Int) + 1) HL.out (by push_cast; rfl))
    exact bodyPost_ret (v := EV 1 (t.n : Int) ⟨#[]⟩ (.slice none 0 0)) (by simp [EV, results, Tryz.results261, go_sem, r0, r1, r2, r3]) rfl ⟨(HA3.out.set 1 _).put4 (Nat.le_refl _) _ _ _ _, 1, (t.n : Int), ⟨#[]⟩, none, 0, 0, rfl, .inl ⟨_, i + 1, HR.out.symm, ExIn.leaf ⟨⟨by decide, by decide⟩, ⟨by omega, by have := HNM.out; omega⟩, by decide⟩, HP4.out.put4 hgl _ _ _ _⟩⟩
  rw [if_neg hk1] at hr
  have hb1 : ((t.k : Int) == 1) = false := by simp; omega
  have hn1 : ¬ (t.k : Int) = 1 := by omega
  by_cases hk2 : t.k = 2
  · rw [if_pos hk2] at hr
    injection hr with hr
    have HR := Lib.hid hr
    have HL := Lib.hid (HNX.out (by omega))
    have hkI : ((t.k : Nat) : Int) = 2 := by rw [hk2]; rfl
    rw [hkI] at cT
    clear hr hk1 hk2 hkI hI hId hW hO hb1 hn1
    generalize hS : (⟨t.s.toArray⟩ : ByteArray) = S at *
    have HS := Lib.hid hS
    clear hS
    go_enter Tryz.func261, Tryz.ntmps261
    go_wp2_with fail
    refine cT.mono ?_
    rintro e w2 ⟨rfl, b2⟩
    have d3 := below_alloc w2 (.cells #[.int .i64 2, .string S, .int .i64 (t.n : Int), .int .i64 (t.a : Int)] 61)
    have f3 := four_new w2 (.int .i64 2) (.string S) (.int .i64 (t.n : Int)) (.int .i64 (t.a : Int)) 61
    have z3 := alloc_size w2 (.cells #[.int .i64 2, .string S, .int .i64 (t.n : Int), .int .i64 (t.a : Int)] 61)
    obtain ⟨w3, hw3⟩ : ∃ x, w2.alloc (.cells #[.int .i64 2, .string S, .int .i64 (t.n : Int), .int .i64 (t.a : Int)] 61) = x := ⟨_, rfl⟩
    rw [hw3] at d3 f3 z3
    have d13 := below_to b2 d3
    have hs2 := b2.size
    have HF3 := Lib.hid (HF1.out.later d13)
    have p3 := HP1.out.later d13
    have HP3 := Lib.hid p3
    have HA3 := Lib.hid (HA1.out.next d13)
    have HV : Hid (w.heap.size < w3.heap.size) := Lib.hid (by have := HZ1.out; omega)
    have HFT := Lib.hid f3
    obtain ⟨-, x1, x2, fx1, fx2⟩ := p3.cells
    obtain ⟨-, k0, k1, k2, k3, -⟩ := f3
    have HF3' := HF3.out
    obtain ⟨-, r0, r1, r2, r3, fr0, fr1, fr2, fr3⟩ := HF3'
    have hgl := HGL.out
    have hz := HZ1.out
    have hne1 : w2.heap.size ≠ g := by omega
    clear cT b2 d3 d13 p3 y0 y1 y2 f1 f2 hw1
    go_wp2_with fail
    have HP4 := Lib.hid (HP3.out.goes (z := (i : Int) + 1) HL.out (by push_cast; rfl))
    exact bodyPost_ret (v := EV 2 0 S (.slice none 0 0)) (by simp [EV, results, Tryz.results261, go_sem, r0, r1, r2, r3]) rfl ⟨(HA3.out.set 1 _).put4 (Nat.le_refl _) _ _ _ _, 2, 0, S, none, 0, 0, rfl, .inl ⟨_, i + 1, HR.out.symm, by rw [← HS.out]; exact ExIn.leaf ⟨⟨by decide, by decide⟩, in64_0, by have := HSZ.out; omega⟩, HP4.out.put4 hgl _ _ _ _⟩⟩
  rw [if_neg hk2] at hr
  have hb2 : ((t.k : Int) == 2) = false := by simp; omega
  have hn2 : ¬ (t.k : Int) = 2 := by omega
  by_cases hk3 : t.k = 3
  · rw [if_pos hk3] at hr
    have HW := Lib.hid (fun w' (q : XG w0 w' g T h cap i (-1)) => hW w' i t r q HT.out hk3 hr)
    have hkI : ((t.k : Nat) : Int) = 3 := by rw [hk3]; rfl
    rw [hkI] at cT
    clear hr hk1 hk2 hk3 hkI hI hId hW hO hb1 hn1 hb2 hn2
    generalize hS : (⟨t.s.toArray⟩ : ByteArray) = S at *
    clear hS
    go_enter Tryz.func261, Tryz.ntmps261
    go_wp2_with fail
    refine cT.mono ?_
    rintro e w2 ⟨rfl, b2⟩
    have d3 := below_alloc w2 (.cells #[.int .i64 3, .string S, .int .i64 (t.n : Int), .int .i64 (t.a : Int)] 61)
    have f3 := four_new w2 (.int .i64 3) (.string S) (.int .i64 (t.n : Int)) (.int .i64 (t.a : Int)) 61
    have z3 := alloc_size w2 (.cells #[.int .i64 3, .string S, .int .i64 (t.n : Int), .int .i64 (t.a : Int)] 61)
    obtain ⟨w3, hw3⟩ : ∃ x, w2.alloc (.cells #[.int .i64 3, .string S, .int .i64 (t.n : Int), .int .i64 (t.a : Int)] 61) = x := ⟨_, rfl⟩
    rw [hw3] at d3 f3 z3
    have d13 := below_to b2 d3
    have hs2 := b2.size
    have HF3 := Lib.hid (HF1.out.later d13)
    have p3 := HP1.out.later d13
    have HP3 := Lib.hid p3
    have HA3 := Lib.hid (HA1.out.next d13)
    have HV : Hid (w.heap.size < w3.heap.size) := Lib.hid (by have := HZ1.out; omega)
    have HFT := Lib.hid f3
    obtain ⟨-, x1, x2, fx1, fx2⟩ := p3.cells
    obtain ⟨-, k0, k1, k2, k3, -⟩ := f3
    have HF3' := HF3.out
    obtain ⟨-, r0, r1, r2, r3, fr0, fr1, fr2, fr3⟩ := HF3'
    have hgl := HGL.out
    have hz := HZ1.out
    have hne1 : w2.heap.size ≠ g := by omega
    clear cT b2 d3 d13 p3 y0 y1 y2 f1 f2 hw1
    have c2 := HW.out w3 HP3.out
    go_wp2_with fail
    refine c2.mono ?_
    rintro e w4 ⟨a2, op, n, s2, ao, la, ca, rfl, hst⟩
    have hR4 := HF3.out.away a2 (by omega)
    clear r0 r1 r2 r3 fr0 fr1 fr2 fr3
    obtain ⟨-, r0, r1, r2, r3, fr0, fr1, fr2, fr3⟩ := hR4
    have HST := Lib.hid hst
    have AA := Lib.hid a2
    clear c2 hst a2
    go_wp2_with fail
    exact bodyPost_ret (v := EV op n s2 (.slice ao la ca)) (by simp [EV, results, Tryz.results261, go_sem, r0, r1, r2, r3]) rfl (xend_set HA3.out HGL.out HV.out AA.out HST.out _ _ _ _)
  rw [if_neg hk3] at hr
  have hb3 : ((t.k : Int) == 3) = false := by simp; omega
  have hn3 : ¬ (t.k : Int) = 3 := by omega
  cases hq : isS (T.drop i) [40] with
  | false =>
    rw [← hId, hq, if_neg (by decide)] at hr
    injection hr with hr
    have HR := Lib.hid hr
    have HQ := Lib.hid hq
    clear hr hk1 hk2 hk3 hI hId hW hO hq
    generalize hS : (⟨t.s.toArray⟩ : ByteArray) = S at *
    clear hS
    go_enter Tryz.func261, Tryz.ntmps261
    go_wp2_with fail
    refine cT.mono ?_
    rintro e w2 ⟨rfl, b2⟩
    have d3 := below_alloc w2 (.cells #[.int .i64 (t.k : Int), .string S, .int .i64 (t.n : Int), .int .i64 (t.a : Int)] 61)
    have f3 := four_new w2 (.int .i64 (t.k : Int)) (.string S) (.int .i64 (t.n : Int)) (.int .i64 (t.a : Int)) 61
    have z3 := alloc_size w2 (.cells #[.int .i64 (t.k : Int), .string S, .int .i64 (t.n : Int), .int .i64 (t.a : Int)] 61)
    obtain ⟨w3, hw3⟩ : ∃ x, w2.alloc (.cells #[.int .i64 (t.k : Int), .string S, .int .i64 (t.n : Int), .int .i64 (t.a : Int)] 61) = x := ⟨_, rfl⟩
    rw [hw3] at d3 f3 z3
    have d13 := below_to b2 d3
    have hs2 := b2.size
    have HF3 := Lib.hid (HF1.out.later d13)
    have p3 := HP1.out.later d13
    have HP3 := Lib.hid p3
    have HA3 := Lib.hid (HA1.out.next d13)
    have HV : Hid (w.heap.size < w3.heap.size) := Lib.hid (by have := HZ1.out; omega)
    have HFT := Lib.hid f3
    obtain ⟨-, x1, x2, fx1, fx2⟩ := p3.cells
    obtain ⟨-, k0, k1, k2, k3, -⟩ := f3
    have HF3' := HF3.out
    obtain ⟨-, r0, r1, r2, r3, fr0, fr1, fr2, fr3⟩ := HF3'
    have hgl := HGL.out
    have hz := HZ1.out
    have hne1 : w2.heap.size ≠ g := by omega
    clear cT b2 d3 d13 p3 y0 y1 y2 f1 f2 hw1
    have c1 := xsign_any w0 w3 g T h cap i [40] (by decide) HP3.out
    go_wp2_with fail
    refine c1.mono ?_
    unfold SgE
    rw [HQ.out]
    rintro e w4 ⟨rfl, a4, q4⟩
    replace q4 : XG w0 w4 g T h cap i (-1) := by simpa using q4
    have c2 := xwrong_any w0 w4 g T h cap i t q4 HT.out
    have A4 := Lib.hid a4
    have hR4 := HF3.out.away a4 (by omega)
    have HR4 := Lib.hid hR4
    clear c1 a4 q4 r0 r1 r2 r3 fr0 fr1 fr2 fr3 hR4
    go_wp2_with fail
    refine c2.mono ?_
    rintro e w5 ⟨rfl, a5, q5⟩
    have hR5 := HR4.out.away a5 (by omega)
    obtain ⟨-, r0, r1, r2, r3, fr0, fr1, fr2, fr3⟩ := hR5
    have A5 := Lib.hid a5
    have Q5 := Lib.hid q5
    clear c2 a5 q5
    go_wp2_with fail
    exact bodyPost_ret (v := EV 0 0 ⟨#[]⟩ (.slice none 0 0)) (by simp [EV, results, Tryz.results261, go_sem, r0, r1, r2, r3]) rfl ⟨((HA3.out.trans A4.out).trans A5.out).put4 (Nat.le_refl _) _ _ _ _, 0, 0, ⟨#[]⟩, none, 0, 0, rfl, .inr ⟨t.a, i, HR.out.symm, Q5.out.put4 hgl _ _ _ _⟩⟩
  | true =>
    rw [← hId, hq, if_pos rfl] at hr
    cases hp : pE F 0 (T.drop (i + 1)) with
    | none => rw [hp] at hr; cases hr
    | some r2 =>
    rw [hp] at hr
    have HR := Lib.hid hr
    have HQ := Lib.hid hq
    have HO := Lib.hid (fun w' (q : XG w0 w' g T h cap (i + 1) (-1)) => hO w' (i + 1) r2 q hp)
    clear hr hk1 hk2 hk3 hI hId hW hO hq hp
    generalize hS : (⟨t.s.toArray⟩ : ByteArray) = S at *
    clear hS
    go_enter Tryz.func261, Tryz.ntmps261
    go_wp2_with fail
    refine cT.mono ?_
    rintro e w2 ⟨rfl, b2⟩
    have d3 := below_alloc w2 (.cells #[.int .i64 (t.k : Int), .string S, .int .i64 (t.n : Int), .int .i64 (t.a : Int)] 61)
    have f3 := four_new w2 (.int .i64 (t.k : Int)) (.string S) (.int .i64 (t.n : Int)) (.int .i64 (t.a : Int)) 61
    have z3 := alloc_size w2 (.cells #[.int .i64 (t.k : Int), .string S, .int .i64 (t.n : Int), .int .i64 (t.a : Int)] 61)
    obtain ⟨w3, hw3⟩ : ∃ x, w2.alloc (.cells #[.int .i64 (t.k : Int), .string S, .int .i64 (t.n : Int), .int .i64 (t.a : Int)] 61) = x := ⟨_, rfl⟩
    rw [hw3] at d3 f3 z3
    have d13 := below_to b2 d3
    have hs2 := b2.size
    have HF3 := Lib.hid (HF1.out.later d13)
    have p3 := HP1.out.later d13
    have HP3 := Lib.hid p3
    have HA3 := Lib.hid (HA1.out.next d13)
    have HV : Hid (w.heap.size < w3.heap.size) := Lib.hid (by have := HZ1.out; omega)
    have HFT := Lib.hid f3
    obtain ⟨-, x1, x2, fx1, fx2⟩ := p3.cells
    obtain ⟨-, k0, k1, k2, k3, -⟩ := f3
    have HF3' := HF3.out
    obtain ⟨-, r0, r1, r2, r3, fr0, fr1, fr2, fr3⟩ := HF3'
    have hgl := HGL.out
    have hz := HZ1.out
    have hne1 : w2.heap.size ≠ g := by omega
    clear cT b2 d3 d13 p3 y0 y1 y2 f1 f2 hw1
    have c1 := xsign_any w0 w3 g T h cap i [40] (by decide) HP3.out
    go_wp2_with fail
    refine c1.mono ?_
    unfold SgE
    rw [HQ.out]
    rintro e w4 ⟨rfl, a4, q4⟩
    replace q4 : XG w0 w4 g T h cap (i + 1) (-1) := by simpa using q4
    have c2 := HO.out w4 q4
    have A4 := Lib.hid (HA3.out.trans a4)
    have HV4 : Hid (w.heap.size < w4.heap.size) := Lib.hid (Nat.lt_of_lt_of_le HV.out a4.size)
    have HR4 := Lib.hid (HF3.out.away a4 (by omega))
    clear c1 a4 q4 r0 r1 r2 r3 fr0 fr1 fr2 fr3
    go_wp2_with fail
    refine c2.mono ?_
    rintro e w5 ⟨a5, op2, n2, s2, ao2, la2, ca2, rfl, hst⟩
    have hs5 := a5.size
    have d6 := below_alloc w5 (.cells #[.int .i64 op2, .int .i64 n2, .string s2, .slice ao2 la2 ca2] 25)
    have f6 := four_new w5 (.int .i64 op2) (.int .i64 n2) (.string s2) (.slice ao2 la2 ca2) 25
    obtain ⟨w6, hw6⟩ : ∃ x, w5.alloc (.cells #[.int .i64 op2, .int .i64 n2, .string s2, .slice ao2 la2 ca2] 25) = x := ⟨_, rfl⟩
    rw [hw6] at d6 f6
    have HR6 := Lib.hid ((HR4.out.away a5 (by omega)).later d6)
    have A6 := Lib.hid (a5.next d6)
    have F6 := Lib.hid f6
    have HVV := HV4.out
    rcases hst with ⟨c, j, rfl, hx, pj⟩ | ⟨pp, j, rfl, pj⟩
    · have p6 := pj.later d6
      have HX6 := Lib.hid (hx.later d6)
      obtain ⟨t2, ht2, hd2, -⟩ := p6.tok
      have c3 := xmust_any w0 w6 g T h cap j [41] (by decide) t2 p6 ht2
      have HI2 : Hid (isS (T.drop j) [41] = decide (sgT t2 = [41])) := Lib.hid (by rw [hd2]; exact isS_sg (by decide))
      have HRR : Hid ((isS (T.drop j) [41] = true ∧ r = .ok (c, T.drop (j + 1))) ∨ (isS (T.drop j) [41] = false ∧ r = .error t2.a)) := by
        have h1 := HR.out
        rw [bnd_ok rfl] at h1
        dsimp only at h1
        unfold mustS at h1
        cases hm : isS (T.drop j) [41] with
        | true => rw [hm, if_pos rfl, bnd_ok rfl, List.tail_drop] at h1; injection h1 with h1; exact Lib.hid (.inl ⟨rfl, h1.symm⟩)
        | false =>
          rw [hm, if_neg (by decide), bnd_err rfl] at h1
          injection h1 with h1
          refine Lib.hid (.inr ⟨rfl, ?_⟩)
          rw [← h1, hd2]; rfl
      clear c2 hx pj a5 d6 f6 p6 ht2 hd2 k0 k1 k2 k3
      go_wp2_with fail
      refine c3.mono ?_
      rintro e w7 ⟨rfl, a7, q7⟩
      have hR7 := HR6.out.away a7 (by omega)
      obtain ⟨-, r0, r1, r2, r3, fr0, fr1, fr2, fr3⟩ := hR7
      have hF7 := F6.out.away a7 (by omega)
      obtain ⟨-, y0, y1, y2, y3, -⟩ := hF7
      have A7 := Lib.hid a7
      have Q7 := Lib.hid q7
      clear c3 a7 q7
      go_wp2_with fail
      refine bodyPost_ret (v := EV op2 n2 s2 (.slice ao2 la2 ca2)) (by simp [EV, results, Tryz.results261, go_sem, r0, r1, r2, r3]) rfl (xend_set A4.out hgl HV4.out (A6.out.trans A7.out) ?_ _ _ _ _)
      have q7 := Q7.out
      rcases HRR.out with ⟨h1, h2⟩ | ⟨h1, h2⟩
      · rw [if_pos h1, if_pos h1] at q7
        exact .inl ⟨c, j + 1, h2, HX6.out.keep (Stays.away A7.out (fun hb => by have : w4.heap.size ≤ g := hb; omega)), q7⟩
      · rw [if_neg (by rw [h1]; decide), if_neg (by rw [h1]; decide)] at q7
        exact .inr ⟨t2.a, j, h2, q7⟩
    · have p6 := pj.later d6
      have P6 := Lib.hid p6
      have c3 := xmust_bad w0 w6 g T h cap j pp ⟨#[41]⟩ p6
      have HRR : Hid (r = .error pp) := by
        have h1 := HR.out
        rw [bnd_err rfl] at h1
        injection h1 with h1
        exact Lib.hid h1.symm
      obtain ⟨-, y0, y1, y2, y3, -⟩ := f6
      have hR6 := HR6.out
      obtain ⟨-, r0, r1, r2, r3, fr0, fr1, fr2, fr3⟩ := hR6
      clear c2 pj a5 d6 p6 k0 k1 k2 k3
      go_wp2_with fail
      refine c3.mono ?_
      rintro e w7 ⟨rfl, rfl⟩
      clear c3
      go_wp2_with fail
      exact bodyPost_ret (v := EV op2 n2 s2 (.slice ao2 la2 ca2)) (by simp [EV, results, Tryz.results261, go_sem, r0, r1, r2, r3]) rfl (xend_set A4.out hgl HV4.out A6.out (.inr ⟨pp, j, HRR.out, P6.out⟩) _ _ _ _)
end Go.Proofs.YtjmfpgalepahoaaGreatDoor
