/- The document's own parser: cmp. -/
import Derived.Test.YtjmfpgalepahoaaGreatDoorMRxL
namespace Go.Proofs.YtjmfpgalepahoaaGreatDoor
open Go.RowKit
theorem opH2 (ts : List Tk) : opH 2 ts = if isS ts [61] = true then some (12, false) else if isS ts [33, 61] = true then some (13, false) else if isS ts [60] = true then some (14, false) else if isS ts [60, 61] = true then some (15, false) else if isS ts [62] = true then some (14, true) else if isS ts [62, 61] = true then some (15, true) else none := by
  cases ts with
  | nil => rfl
  | cons t q =>
    unfold opH opAt isS
    by_cases hk : t.k = 4
    · simp [hk]
    · simp [hk]
set_option maxHeartbeats 4000000 in
set_option maxRecDepth 100000 in
theorem xcmp_step {w0 : World} {g : Nat} {T : List Tk} {h cap F : Nat} (hG : ∀ (w : World) (i : Nat) r, XG w0 w g T h cap i (-1) → pE F 3 (T.drop i) = some r → Calls Tryz.prog 206 #[.pointer (some ⟨g, 0, none⟩)] w (XEnd w0 w g T h cap r))
    (w : World) (i : Nat) (r : Except Nat (Ex × List Tk)) (p : XG w0 w g T h cap i (-1)) (hr : pE (F + 1) 2 (T.drop i) = some r) : Calls Tryz.prog 137 #[.pointer (some ⟨g, 0, none⟩)] w (XEnd w0 w g T h cap r) := by
  have hgl := p.glt
  rw [pE, if_pos (by decide)] at hr
  have d1 := below_alloc w (.cells #[.int .i64 0, .int .i64 0, .string ⟨#[]⟩, .slice none 0 0] 25)
  have f1 := four_new w (.int .i64 0) (.int .i64 0) (.string ⟨#[]⟩) (.slice none 0 0) 25
  have z1 := alloc_size w (.cells #[.int .i64 0, .int .i64 0, .string ⟨#[]⟩, .slice none 0 0] 25)
  obtain ⟨w1, hw1⟩ : ∃ x, w.alloc (.cells #[.int .i64 0, .int .i64 0, .string ⟨#[]⟩, .slice none 0 0] 25) = x := ⟨_, rfl⟩
  rw [hw1] at d1 f1 z1
  have p1 := p.later d1
  cases h1 : pE F 3 (T.drop i) with
  | none => rw [h1] at hr; cases hr
  | some r1 =>
    rw [h1] at hr
    have cG := hG w1 i r1 p1 h1
    have HR := Lib.hid hr
    have HF1 := Lib.hid f1
    have HD1 := Lib.hid d1
    have HZ1 := Lib.hid z1
    have HGL := Lib.hid hgl
    have HG := Lib.hid hG
    clear hr f1 d1 z1 p1 p h1 hG hgl
    go_enter Tryz.func137, Tryz.ntmps137
    go_wp2_with fail
    refine cG.mono ?_
    rintro e w2 ⟨a2, op, n, s, ao, la, ca, rfl, hst⟩
    have d3 := below_alloc w2 (.cells #[.int .i64 op, .int .i64 n, .string s, .slice ao la ca] 25)
    have f3 := four_new w2 (.int .i64 op) (.int .i64 n) (.string s) (.slice ao la ca) 25
    have HAW0 : Hid (Away g w (w2.alloc (.cells #[.int .i64 op, .int .i64 n, .string s, .slice ao la ca] 25))) := Lib.hid (((Away.of HD1.out).trans a2).trans (Away.of d3))
    have hsz := a2.size
    have h0 := HZ1.out
    have hR := (HF1.out.away a2 (by have := HGL.out; omega)).later d3
    have HGA : Hid (w.heap.size < w2.heap.size) := Lib.hid (by omega)
    have HS : Hid ((∃ a i, r1 = .ok (a, T.drop i) ∧ ExIn (w2.alloc (.cells #[.int .i64 op, .int .i64 n, .string s, .slice ao la ca] 25)) (Rows w w2.heap.size) a (EV op n s (.slice ao la ca)) ∧ XG w0 (w2.alloc (.cells #[.int .i64 op, .int .i64 n, .string s, .slice ao la ca] 25)) g T h cap i (-1)) ∨ (∃ p j : Nat, r1 = .error p ∧ XG w0 (w2.alloc (.cells #[.int .i64 op, .int .i64 n, .string s, .slice ao la ca] 25)) g T h cap j (p : Int))) := by
      refine Lib.hid ?_
      rcases hst with ⟨a, j, rfl, hx, pj⟩ | ⟨pp, j, rfl, pj⟩
      · exact .inl ⟨a, j, rfl, (hx.wide (R := Rows w w2.heap.size) (fun b hb hl => ⟨by have : w1.heap.size ≤ b := hb; omega, by omega⟩)).later d3, pj.later d3⟩
      · exact .inr ⟨pp, j, rfl, pj.later d3⟩
    obtain ⟨w3, hw3⟩ : ∃ x, w2.alloc (.cells #[.int .i64 op, .int .i64 n, .string s, .slice ao la ca] 25) = x := ⟨_, rfl⟩
    rw [hw3] at HAW0 HS hR f3
    clear cG a2 hst d3 HD1 HF1 HZ1 hsz h0
    go_wp2_with fail
    obtain ⟨gA, hgA⟩ : ∃ x, w2.heap.size = x := ⟨_, rfl⟩
    rw [hgA] at HGA HS f3 ⊢
    clear hgA
    clear hw3 hw1
    have HA0 := Lib.hid f3
    have HRR0 := Lib.hid hR
    rcases HS.out with ⟨a, i, rfl, hx, pi⟩ | ⟨pp, j, rfl, pj⟩
    · have PI := Lib.hid pi
      have HX0 := Lib.hid hx
      have hL : pL F 2 a (T.drop i) = some r := HR.out
      clear pi hx hR HR HS f3
      cases hI0 : isS (T.drop i) [61] with
      | false =>
        cases hI1 : isS (T.drop i) [33, 61] with
        | false =>
          cases hI2 : isS (T.drop i) [60] with
          | false =>
            cases hI3 : isS (T.drop i) [60, 61] with
            | false =>
              cases hI4 : isS (T.drop i) [62] with
              | false =>
                cases hI5 : isS (T.drop i) [62, 61] with
                | false =>
                  have hr : r = .ok (a, T.drop i) := by
                    cases F with
                    | zero => rw [pL] at hL; cases hL
                    | succ q0 =>
                      rw [pL, opH2, hI0, if_neg (by decide), hI1, if_neg (by decide), hI2, if_neg (by decide), hI3, if_neg (by decide), hI4, if_neg (by decide), hI5, if_neg (by decide)] at hL
                      injection hL with hL; exact hL.symm
                  subst hr
                  clear hL HG
                  have c1 := xsign_any w0 w3 g T h cap i [61] (by decide) PI.out
                  unfold SgE at c1
                  rw [hI0] at c1
                  go_wp2_with fail
                  refine c1.mono ?_
                  rintro e v1 ⟨rfl, a1, q1⟩
                  replace q1 : XG w0 v1 g T h cap i (-1) := by simpa using q1
                  replace PI := Lib.hid q1
                  have HX1 := Lib.hid (HX0.out.keep (.away a1 (by intro hb; have := hb.1; have := HGL.out; omega)))
                  have HA1 := Lib.hid (HA0.out.away a1 (by have := HGL.out; have := HGA.out; omega))
                  have HRR1 := Lib.hid (HRR0.out.away a1 (by have := HGL.out; omega))
                  have HAW1 := Lib.hid (HAW0.out.trans a1)
                  clear c1 q1 a1 HX0 HA0 HRR0 HAW0
                  have c1 := xsign_any w0 v1 g T h cap i [33, 61] (by decide) PI.out
                  unfold SgE at c1
                  rw [hI1] at c1
                  go_wp2_with fail
                  refine c1.mono ?_
                  rintro e v2 ⟨rfl, a1, q1⟩
                  replace q1 : XG w0 v2 g T h cap i (-1) := by simpa using q1
                  replace PI := Lib.hid q1
                  have HX2 := Lib.hid (HX1.out.keep (.away a1 (by intro hb; have := hb.1; have := HGL.out; omega)))
                  have HA2 := Lib.hid (HA1.out.away a1 (by have := HGL.out; have := HGA.out; omega))
                  have HRR2 := Lib.hid (HRR1.out.away a1 (by have := HGL.out; omega))
                  have HAW2 := Lib.hid (HAW1.out.trans a1)
                  clear c1 q1 a1 HX1 HA1 HRR1 HAW1
                  have c1 := xsign_any w0 v2 g T h cap i [60] (by decide) PI.out
                  unfold SgE at c1
                  rw [hI2] at c1
                  go_wp2_with fail
                  refine c1.mono ?_
                  rintro e v3 ⟨rfl, a1, q1⟩
                  replace q1 : XG w0 v3 g T h cap i (-1) := by simpa using q1
                  replace PI := Lib.hid q1
                  have HX3 := Lib.hid (HX2.out.keep (.away a1 (by intro hb; have := hb.1; have := HGL.out; omega)))
                  have HA3 := Lib.hid (HA2.out.away a1 (by have := HGL.out; have := HGA.out; omega))
                  have HRR3 := Lib.hid (HRR2.out.away a1 (by have := HGL.out; omega))
                  have HAW3 := Lib.hid (HAW2.out.trans a1)
                  clear c1 q1 a1 HX2 HA2 HRR2 HAW2
                  have c1 := xsign_any w0 v3 g T h cap i [60, 61] (by decide) PI.out
                  unfold SgE at c1
                  rw [hI3] at c1
                  go_wp2_with fail
                  refine c1.mono ?_
                  rintro e v4 ⟨rfl, a1, q1⟩
                  replace q1 : XG w0 v4 g T h cap i (-1) := by simpa using q1
                  replace PI := Lib.hid q1
                  have HX4 := Lib.hid (HX3.out.keep (.away a1 (by intro hb; have := hb.1; have := HGL.out; omega)))
                  have HA4 := Lib.hid (HA3.out.away a1 (by have := HGL.out; have := HGA.out; omega))
                  have HRR4 := Lib.hid (HRR3.out.away a1 (by have := HGL.out; omega))
                  have HAW4 := Lib.hid (HAW3.out.trans a1)
                  clear c1 q1 a1 HX3 HA3 HRR3 HAW3
                  have c1 := xsign_any w0 v4 g T h cap i [62] (by decide) PI.out
                  unfold SgE at c1
                  rw [hI4] at c1
                  go_wp2_with fail
                  refine c1.mono ?_
                  rintro e v5 ⟨rfl, a1, q1⟩
                  replace q1 : XG w0 v5 g T h cap i (-1) := by simpa using q1
                  replace PI := Lib.hid q1
                  have HX5 := Lib.hid (HX4.out.keep (.away a1 (by intro hb; have := hb.1; have := HGL.out; omega)))
                  have HA5 := Lib.hid (HA4.out.away a1 (by have := HGL.out; have := HGA.out; omega))
                  have HRR5 := Lib.hid (HRR4.out.away a1 (by have := HGL.out; omega))
                  have HAW5 := Lib.hid (HAW4.out.trans a1)
                  clear c1 q1 a1 HX4 HA4 HRR4 HAW4
                  have c1 := xsign_any w0 v5 g T h cap i [62, 61] (by decide) PI.out
                  unfold SgE at c1
                  rw [hI5] at c1
                  go_wp2_with fail
                  refine c1.mono ?_
                  rintro e v6 ⟨rfl, a1, q1⟩
                  replace q1 : XG w0 v6 g T h cap i (-1) := by simpa using q1
                  replace PI := Lib.hid q1
                  have HX6 := Lib.hid (HX5.out.keep (.away a1 (by intro hb; have := hb.1; have := HGL.out; omega)))
                  have HA6 := Lib.hid (HA5.out.away a1 (by have := HGL.out; have := HGA.out; omega))
                  have HRR6 := Lib.hid (HRR5.out.away a1 (by have := HGL.out; omega))
                  have HAW6 := Lib.hid (HAW5.out.trans a1)
                  clear c1 q1 a1 HX5 HA5 HRR5 HAW5
                  have HR1 := Lib.hid HRR6.out
                  obtain ⟨-, x0, x1, x2, x3, -⟩ := HA6.out
                  obtain ⟨-, y0, y1, y2, y3, f0, f1, f2, f3⟩ := HR1.out
                  go_wp2_with fail
                  exact bodyPost_ret (v := EV op n s (.slice ao la ca)) (by simp [EV, results, Tryz.results137, go_sem, y0, y1, y2, y3]) rfl ⟨HAW6.out.put4 (Nat.le_refl _) _ _ _ _, op, n, s, ao, la, ca, rfl, .inl ⟨a, i, rfl, (HX6.out.keep (.set4 _ _ _ _ _ (by intro hb; have := hb.1; omega))).wide (fun b hb _ => by have := hb.1; show w.heap.size ≤ b; omega), PI.out.put4 HGL.out _ _ _ _⟩⟩
                | true =>
                  cases F with
                  | zero => rw [pL] at hL; cases hL
                  | succ q0 =>
                  rw [pL, opH2, hI0, if_neg (by decide), hI1, if_neg (by decide), hI2, if_neg (by decide), hI3, if_neg (by decide), hI4, if_neg (by decide), hI5, if_pos rfl] at hL
                  replace hL : bnd (pE q0 3 (T.drop i).tail) (fun x => some (.ok (twoE 15 true a x.1, x.2))) = some r := hL
                  rw [List.tail_drop] at hL
                  cases hp : pE q0 3 (T.drop (i + 1)) with
                  | none => rw [hp] at hL; cases hL
                  | some r2 =>
                  rw [hp] at hL
                  have hpF : pE (q0 + 1) 3 (T.drop (i + 1)) = some r2 := pE_add hp 1
                  have HL := Lib.hid hL
                  have HPF := Lib.hid hpF
                  clear hL hp hpF
                  have c1 := xsign_any w0 w3 g T h cap i [61] (by decide) PI.out
                  unfold SgE at c1
                  rw [hI0] at c1
                  go_wp2_with fail
                  refine c1.mono ?_
                  rintro e v1 ⟨rfl, a1, q1⟩
                  replace q1 : XG w0 v1 g T h cap i (-1) := by simpa using q1
                  replace PI := Lib.hid q1
                  have HX1 := Lib.hid (HX0.out.keep (.away a1 (by intro hb; have := hb.1; have := HGL.out; omega)))
                  have HA1 := Lib.hid (HA0.out.away a1 (by have := HGL.out; have := HGA.out; omega))
                  have HRR1 := Lib.hid (HRR0.out.away a1 (by have := HGL.out; omega))
                  have HAW1 := Lib.hid (HAW0.out.trans a1)
                  clear c1 q1 a1 HX0 HA0 HRR0 HAW0
                  have c1 := xsign_any w0 v1 g T h cap i [33, 61] (by decide) PI.out
                  unfold SgE at c1
                  rw [hI1] at c1
                  go_wp2_with fail
                  refine c1.mono ?_
                  rintro e v2 ⟨rfl, a1, q1⟩
                  replace q1 : XG w0 v2 g T h cap i (-1) := by simpa using q1
                  replace PI := Lib.hid q1
                  have HX2 := Lib.hid (HX1.out.keep (.away a1 (by intro hb; have := hb.1; have := HGL.out; omega)))
                  have HA2 := Lib.hid (HA1.out.away a1 (by have := HGL.out; have := HGA.out; omega))
                  have HRR2 := Lib.hid (HRR1.out.away a1 (by have := HGL.out; omega))
                  have HAW2 := Lib.hid (HAW1.out.trans a1)
                  clear c1 q1 a1 HX1 HA1 HRR1 HAW1
                  have c1 := xsign_any w0 v2 g T h cap i [60] (by decide) PI.out
                  unfold SgE at c1
                  rw [hI2] at c1
                  go_wp2_with fail
                  refine c1.mono ?_
                  rintro e v3 ⟨rfl, a1, q1⟩
                  replace q1 : XG w0 v3 g T h cap i (-1) := by simpa using q1
                  replace PI := Lib.hid q1
                  have HX3 := Lib.hid (HX2.out.keep (.away a1 (by intro hb; have := hb.1; have := HGL.out; omega)))
                  have HA3 := Lib.hid (HA2.out.away a1 (by have := HGL.out; have := HGA.out; omega))
                  have HRR3 := Lib.hid (HRR2.out.away a1 (by have := HGL.out; omega))
                  have HAW3 := Lib.hid (HAW2.out.trans a1)
                  clear c1 q1 a1 HX2 HA2 HRR2 HAW2
                  have c1 := xsign_any w0 v3 g T h cap i [60, 61] (by decide) PI.out
                  unfold SgE at c1
                  rw [hI3] at c1
                  go_wp2_with fail
                  refine c1.mono ?_
                  rintro e v4 ⟨rfl, a1, q1⟩
                  replace q1 : XG w0 v4 g T h cap i (-1) := by simpa using q1
                  replace PI := Lib.hid q1
                  have HX4 := Lib.hid (HX3.out.keep (.away a1 (by intro hb; have := hb.1; have := HGL.out; omega)))
                  have HA4 := Lib.hid (HA3.out.away a1 (by have := HGL.out; have := HGA.out; omega))
                  have HRR4 := Lib.hid (HRR3.out.away a1 (by have := HGL.out; omega))
                  have HAW4 := Lib.hid (HAW3.out.trans a1)
                  clear c1 q1 a1 HX3 HA3 HRR3 HAW3
                  have c1 := xsign_any w0 v4 g T h cap i [62] (by decide) PI.out
                  unfold SgE at c1
                  rw [hI4] at c1
                  go_wp2_with fail
                  refine c1.mono ?_
                  rintro e v5 ⟨rfl, a1, q1⟩
                  replace q1 : XG w0 v5 g T h cap i (-1) := by simpa using q1
                  replace PI := Lib.hid q1
                  have HX5 := Lib.hid (HX4.out.keep (.away a1 (by intro hb; have := hb.1; have := HGL.out; omega)))
                  have HA5 := Lib.hid (HA4.out.away a1 (by have := HGL.out; have := HGA.out; omega))
                  have HRR5 := Lib.hid (HRR4.out.away a1 (by have := HGL.out; omega))
                  have HAW5 := Lib.hid (HAW4.out.trans a1)
                  clear c1 q1 a1 HX4 HA4 HRR4 HAW4
                  have c1 := xsign_any w0 v5 g T h cap i [62, 61] (by decide) PI.out
                  unfold SgE at c1
                  rw [hI5] at c1
                  have hrl := HA5.out.lt
                  go_wp2_with fail
                  refine c1.mono ?_
                  rintro e v6 ⟨rfl, a1, q1⟩
                  replace q1 : XG w0 v6 g T h cap (i + 1) (-1) := by simpa using q1
                  have As1 := Lib.hid (HAW5.out.trans a1)
                  have hs1 := a1.size
                  have HXs := Lib.hid (HX5.out.keep (.away a1 (by intro hb; have := hb.1; have := HGL.out; omega)))
                  have HAs := Lib.hid (HA5.out.away a1 (by have := HGL.out; have := HGA.out; omega))
                  have HRs := Lib.hid (HRR5.out.away a1 (by have := HGL.out; omega))
                  have c2 := HG.out v6 (i + 1) r2 q1 HPF.out
                  clear c1 q1 a1
                  go_wp2_with fail
                  refine c2.mono ?_
                  rintro e w4 ⟨a2, op2, n2, s2, ao2, la2, ca2, rfl, hst⟩
                  have hs2 := a2.size
                  have d5 := below_alloc w4 (.cells #[.int .i64 op2, .int .i64 n2, .string s2, .slice ao2 la2 ca2] 25)
                  have f5 := four_new w4 (.int .i64 op2) (.int .i64 n2) (.string s2) (.slice ao2 la2 ca2) 25
                  have z5 := alloc_size w4 (.cells #[.int .i64 op2, .int .i64 n2, .string s2, .slice ao2 la2 ca2] 25)
                  have HXf := Lib.hid ((HXs.out.keep (.away a2 (by intro hb; have := hb.1; have := HGL.out; omega))).later d5)
                  have hAf := (HAs.out.away a2 (by have := HGL.out; have := HGA.out; omega)).later d5
                  have HRf := Lib.hid ((HRs.out.away a2 (by have := HGL.out; omega)).later d5)
                  have As5 := Lib.hid ((As1.out.trans a2).next d5)
                  have HS5 : Hid ((∃ c j, r2 = .ok (c, T.drop j) ∧ ExIn (w4.alloc (.cells #[.int .i64 op2, .int .i64 n2, .string s2, .slice ao2 la2 ca2] 25)) (Rows w gA) c (EV op2 n2 s2 (.slice ao2 la2 ca2)) ∧ XG w0 (w4.alloc (.cells #[.int .i64 op2, .int .i64 n2, .string s2, .slice ao2 la2 ca2] 25)) g T h cap j (-1)) ∨ (∃ p j : Nat, r2 = .error p ∧ XG w0 (w4.alloc (.cells #[.int .i64 op2, .int .i64 n2, .string s2, .slice ao2 la2 ca2] 25)) g T h cap j (p : Int))) := by
                    refine Lib.hid ?_
                    rcases hst with ⟨c, j, h1, h2, h3⟩ | ⟨p, j, h1, h3⟩
                    · exact .inl ⟨c, j, h1, (h2.wide (R := Rows w gA) (fun b hb _ => ⟨by have : (v6).heap.size ≤ b := hb; have := HGA.out; omega, by have : (v6).heap.size ≤ b := hb; omega⟩)).later d5, h3.later d5⟩
                    · exact .inr ⟨p, j, h1, h3.later d5⟩
                  obtain ⟨w5, hw5⟩ : ∃ x, w4.alloc (.cells #[.int .i64 op2, .int .i64 n2, .string s2, .slice ao2 la2 ca2] 25) = x := ⟨_, rfl⟩
                  rw [hw5] at f5 z5 HXf hAf HRf As5 HS5
                  have HAf := Lib.hid hAf
                  obtain ⟨-, x0, x1, x2, x3, -⟩ := hAf
                  obtain ⟨-, y0, y1, y2, y3, -⟩ := f5
                  have c3 := xtwo_any 15 n2 n s2 s ao2 ao la2 ca2 la ca op2 op w5
                  clear c2 hst d5 a2 HXs HAs HRs As1 HX5 HA5 HRR5 HAW5
                  go_wp2_with fail
                  refine c3.mono ?_
                  rintro e w6 ⟨b6, hb6, hl6, rfl, B6, hrow⟩
                  have hR6 := HRf.out.later B6
                  have HR6 := Lib.hid hR6
                  obtain ⟨-, z0, z1, z2, z3, g0, g1, g2, g3⟩ := hR6
                  have hs6 := B6.size
                  have KB6 := Lib.hid B6
                  have HROW := Lib.hid hrow
                  clear c3 x0 x1 x2 x3 y0 y1 y2 y3 B6 hrow HAf
                  go_wp2_with fail
                  have hgA := HGA.out
                  have hgl := HGL.out
                  refine bodyPost_ret (v := EV 15 0 ⟨#[]⟩ (.slice (some ⟨b6, 0, none⟩) 2 2)) (by simp [EV, results, Tryz.results137, go_sem, z0, z1, z2, z3]) rfl ?_
                  refine ⟨(As5.out.next KB6.out).put4 (Nat.le_refl _) _ _ _ _, 15, 0, ⟨#[]⟩, some ⟨b6, 0, none⟩, 2, 2, rfl, ?_⟩
                  rcases HS5.out with ⟨c, j, h1, h2, h3⟩ | ⟨p, j, h1, h3⟩
                  · refine .inl ⟨twoE 15 true a c, j, ?_, ?_, (h3.later KB6.out).put4 hgl _ _ _ _⟩
                    · have := HL.out; rw [h1] at this; injection this with this; exact this.symm
                    · refine ex_two ⟨by decide, by decide⟩ (by show w.heap.size ≤ b6; omega) (by rw [set4_size]; exact hl6) ?_
                      exact RowIn.from (fun b hb _ => by have := hb.1; show w.heap.size ≤ b; omega) _ _ _ (RowIn.stays (Stays.set4 w6 _ _ _ _ (fun hb => by have := hb.1; omega)) _ _ _ ⟨by omega, by omega⟩ hl6 (HROW.out (Rows w gA) _ _ h2 HXf.out))
                  · exact .inr ⟨p, j, by have := HL.out; rw [h1] at this; exact (by simpa [bnd] using this.symm), (h3.later KB6.out).put4 hgl _ _ _ _⟩
              | true =>
                cases F with
                | zero => rw [pL] at hL; cases hL
                | succ q0 =>
                rw [pL, opH2, hI0, if_neg (by decide), hI1, if_neg (by decide), hI2, if_neg (by decide), hI3, if_neg (by decide), hI4, if_pos rfl] at hL
                replace hL : bnd (pE q0 3 (T.drop i).tail) (fun x => some (.ok (twoE 14 true a x.1, x.2))) = some r := hL
                rw [List.tail_drop] at hL
                cases hp : pE q0 3 (T.drop (i + 1)) with
                | none => rw [hp] at hL; cases hL
                | some r2 =>
                rw [hp] at hL
                have hpF : pE (q0 + 1) 3 (T.drop (i + 1)) = some r2 := pE_add hp 1
                have HL := Lib.hid hL
                have HPF := Lib.hid hpF
                clear hL hp hpF
                have c1 := xsign_any w0 w3 g T h cap i [61] (by decide) PI.out
                unfold SgE at c1
                rw [hI0] at c1
                go_wp2_with fail
                refine c1.mono ?_
                rintro e v1 ⟨rfl, a1, q1⟩
                replace q1 : XG w0 v1 g T h cap i (-1) := by simpa using q1
                replace PI := Lib.hid q1
                have HX1 := Lib.hid (HX0.out.keep (.away a1 (by intro hb; have := hb.1; have := HGL.out; omega)))
                have HA1 := Lib.hid (HA0.out.away a1 (by have := HGL.out; have := HGA.out; omega))
                have HRR1 := Lib.hid (HRR0.out.away a1 (by have := HGL.out; omega))
                have HAW1 := Lib.hid (HAW0.out.trans a1)
                clear c1 q1 a1 HX0 HA0 HRR0 HAW0
                have c1 := xsign_any w0 v1 g T h cap i [33, 61] (by decide) PI.out
                unfold SgE at c1
                rw [hI1] at c1
                go_wp2_with fail
                refine c1.mono ?_
                rintro e v2 ⟨rfl, a1, q1⟩
                replace q1 : XG w0 v2 g T h cap i (-1) := by simpa using q1
                replace PI := Lib.hid q1
                have HX2 := Lib.hid (HX1.out.keep (.away a1 (by intro hb; have := hb.1; have := HGL.out; omega)))
                have HA2 := Lib.hid (HA1.out.away a1 (by have := HGL.out; have := HGA.out; omega))
                have HRR2 := Lib.hid (HRR1.out.away a1 (by have := HGL.out; omega))
                have HAW2 := Lib.hid (HAW1.out.trans a1)
                clear c1 q1 a1 HX1 HA1 HRR1 HAW1
                have c1 := xsign_any w0 v2 g T h cap i [60] (by decide) PI.out
                unfold SgE at c1
                rw [hI2] at c1
                go_wp2_with fail
                refine c1.mono ?_
                rintro e v3 ⟨rfl, a1, q1⟩
                replace q1 : XG w0 v3 g T h cap i (-1) := by simpa using q1
                replace PI := Lib.hid q1
                have HX3 := Lib.hid (HX2.out.keep (.away a1 (by intro hb; have := hb.1; have := HGL.out; omega)))
                have HA3 := Lib.hid (HA2.out.away a1 (by have := HGL.out; have := HGA.out; omega))
                have HRR3 := Lib.hid (HRR2.out.away a1 (by have := HGL.out; omega))
                have HAW3 := Lib.hid (HAW2.out.trans a1)
                clear c1 q1 a1 HX2 HA2 HRR2 HAW2
                have c1 := xsign_any w0 v3 g T h cap i [60, 61] (by decide) PI.out
                unfold SgE at c1
                rw [hI3] at c1
                go_wp2_with fail
                refine c1.mono ?_
                rintro e v4 ⟨rfl, a1, q1⟩
                replace q1 : XG w0 v4 g T h cap i (-1) := by simpa using q1
                replace PI := Lib.hid q1
                have HX4 := Lib.hid (HX3.out.keep (.away a1 (by intro hb; have := hb.1; have := HGL.out; omega)))
                have HA4 := Lib.hid (HA3.out.away a1 (by have := HGL.out; have := HGA.out; omega))
                have HRR4 := Lib.hid (HRR3.out.away a1 (by have := HGL.out; omega))
                have HAW4 := Lib.hid (HAW3.out.trans a1)
                clear c1 q1 a1 HX3 HA3 HRR3 HAW3
                have c1 := xsign_any w0 v4 g T h cap i [62] (by decide) PI.out
                unfold SgE at c1
                rw [hI4] at c1
                have hrl := HA4.out.lt
                go_wp2_with fail
                refine c1.mono ?_
                rintro e v5 ⟨rfl, a1, q1⟩
                replace q1 : XG w0 v5 g T h cap (i + 1) (-1) := by simpa using q1
                have As1 := Lib.hid (HAW4.out.trans a1)
                have hs1 := a1.size
                have HXs := Lib.hid (HX4.out.keep (.away a1 (by intro hb; have := hb.1; have := HGL.out; omega)))
                have HAs := Lib.hid (HA4.out.away a1 (by have := HGL.out; have := HGA.out; omega))
                have HRs := Lib.hid (HRR4.out.away a1 (by have := HGL.out; omega))
                have c2 := HG.out v5 (i + 1) r2 q1 HPF.out
                clear c1 q1 a1
                go_wp2_with fail
                refine c2.mono ?_
                rintro e w4 ⟨a2, op2, n2, s2, ao2, la2, ca2, rfl, hst⟩
                have hs2 := a2.size
                have d5 := below_alloc w4 (.cells #[.int .i64 op2, .int .i64 n2, .string s2, .slice ao2 la2 ca2] 25)
                have f5 := four_new w4 (.int .i64 op2) (.int .i64 n2) (.string s2) (.slice ao2 la2 ca2) 25
                have z5 := alloc_size w4 (.cells #[.int .i64 op2, .int .i64 n2, .string s2, .slice ao2 la2 ca2] 25)
                have HXf := Lib.hid ((HXs.out.keep (.away a2 (by intro hb; have := hb.1; have := HGL.out; omega))).later d5)
                have hAf := (HAs.out.away a2 (by have := HGL.out; have := HGA.out; omega)).later d5
                have HRf := Lib.hid ((HRs.out.away a2 (by have := HGL.out; omega)).later d5)
                have As5 := Lib.hid ((As1.out.trans a2).next d5)
                have HS5 : Hid ((∃ c j, r2 = .ok (c, T.drop j) ∧ ExIn (w4.alloc (.cells #[.int .i64 op2, .int .i64 n2, .string s2, .slice ao2 la2 ca2] 25)) (Rows w gA) c (EV op2 n2 s2 (.slice ao2 la2 ca2)) ∧ XG w0 (w4.alloc (.cells #[.int .i64 op2, .int .i64 n2, .string s2, .slice ao2 la2 ca2] 25)) g T h cap j (-1)) ∨ (∃ p j : Nat, r2 = .error p ∧ XG w0 (w4.alloc (.cells #[.int .i64 op2, .int .i64 n2, .string s2, .slice ao2 la2 ca2] 25)) g T h cap j (p : Int))) := by
                  refine Lib.hid ?_
                  rcases hst with ⟨c, j, h1, h2, h3⟩ | ⟨p, j, h1, h3⟩
                  · exact .inl ⟨c, j, h1, (h2.wide (R := Rows w gA) (fun b hb _ => ⟨by have : (v5).heap.size ≤ b := hb; have := HGA.out; omega, by have : (v5).heap.size ≤ b := hb; omega⟩)).later d5, h3.later d5⟩
                  · exact .inr ⟨p, j, h1, h3.later d5⟩
                obtain ⟨w5, hw5⟩ : ∃ x, w4.alloc (.cells #[.int .i64 op2, .int .i64 n2, .string s2, .slice ao2 la2 ca2] 25) = x := ⟨_, rfl⟩
                rw [hw5] at f5 z5 HXf hAf HRf As5 HS5
                have HAf := Lib.hid hAf
                obtain ⟨-, x0, x1, x2, x3, -⟩ := hAf
                obtain ⟨-, y0, y1, y2, y3, -⟩ := f5
                have c3 := xtwo_any 14 n2 n s2 s ao2 ao la2 ca2 la ca op2 op w5
                clear c2 hst d5 a2 HXs HAs HRs As1 HX4 HA4 HRR4 HAW4
                go_wp2_with fail
                refine c3.mono ?_
                rintro e w6 ⟨b6, hb6, hl6, rfl, B6, hrow⟩
                have hR6 := HRf.out.later B6
                have HR6 := Lib.hid hR6
                obtain ⟨-, z0, z1, z2, z3, g0, g1, g2, g3⟩ := hR6
                have hs6 := B6.size
                have KB6 := Lib.hid B6
                have HROW := Lib.hid hrow
                clear c3 x0 x1 x2 x3 y0 y1 y2 y3 B6 hrow HAf
                go_wp2_with fail
                have hgA := HGA.out
                have hgl := HGL.out
                refine bodyPost_ret (v := EV 14 0 ⟨#[]⟩ (.slice (some ⟨b6, 0, none⟩) 2 2)) (by simp [EV, results, Tryz.results137, go_sem, z0, z1, z2, z3]) rfl ?_
                refine ⟨(As5.out.next KB6.out).put4 (Nat.le_refl _) _ _ _ _, 14, 0, ⟨#[]⟩, some ⟨b6, 0, none⟩, 2, 2, rfl, ?_⟩
                rcases HS5.out with ⟨c, j, h1, h2, h3⟩ | ⟨p, j, h1, h3⟩
                · refine .inl ⟨twoE 14 true a c, j, ?_, ?_, (h3.later KB6.out).put4 hgl _ _ _ _⟩
                  · have := HL.out; rw [h1] at this; injection this with this; exact this.symm
                  · refine ex_two ⟨by decide, by decide⟩ (by show w.heap.size ≤ b6; omega) (by rw [set4_size]; exact hl6) ?_
                    exact RowIn.from (fun b hb _ => by have := hb.1; show w.heap.size ≤ b; omega) _ _ _ (RowIn.stays (Stays.set4 w6 _ _ _ _ (fun hb => by have := hb.1; omega)) _ _ _ ⟨by omega, by omega⟩ hl6 (HROW.out (Rows w gA) _ _ h2 HXf.out))
                · exact .inr ⟨p, j, by have := HL.out; rw [h1] at this; exact (by simpa [bnd] using this.symm), (h3.later KB6.out).put4 hgl _ _ _ _⟩
            | true =>
              cases F with
              | zero => rw [pL] at hL; cases hL
              | succ q0 =>
              rw [pL, opH2, hI0, if_neg (by decide), hI1, if_neg (by decide), hI2, if_neg (by decide), hI3, if_pos rfl] at hL
              replace hL : bnd (pE q0 3 (T.drop i).tail) (fun x => some (.ok (twoE 15 false a x.1, x.2))) = some r := hL
              rw [List.tail_drop] at hL
              cases hp : pE q0 3 (T.drop (i + 1)) with
              | none => rw [hp] at hL; cases hL
              | some r2 =>
              rw [hp] at hL
              have hpF : pE (q0 + 1) 3 (T.drop (i + 1)) = some r2 := pE_add hp 1
              have HL := Lib.hid hL
              have HPF := Lib.hid hpF
              clear hL hp hpF
              have c1 := xsign_any w0 w3 g T h cap i [61] (by decide) PI.out
              unfold SgE at c1
              rw [hI0] at c1
              go_wp2_with fail
              refine c1.mono ?_
              rintro e v1 ⟨rfl, a1, q1⟩
              replace q1 : XG w0 v1 g T h cap i (-1) := by simpa using q1
              replace PI := Lib.hid q1
              have HX1 := Lib.hid (HX0.out.keep (.away a1 (by intro hb; have := hb.1; have := HGL.out; omega)))
              have HA1 := Lib.hid (HA0.out.away a1 (by have := HGL.out; have := HGA.out; omega))
              have HRR1 := Lib.hid (HRR0.out.away a1 (by have := HGL.out; omega))
              have HAW1 := Lib.hid (HAW0.out.trans a1)
              clear c1 q1 a1 HX0 HA0 HRR0 HAW0
              have c1 := xsign_any w0 v1 g T h cap i [33, 61] (by decide) PI.out
              unfold SgE at c1
              rw [hI1] at c1
              go_wp2_with fail
              refine c1.mono ?_
              rintro e v2 ⟨rfl, a1, q1⟩
              replace q1 : XG w0 v2 g T h cap i (-1) := by simpa using q1
              replace PI := Lib.hid q1
              have HX2 := Lib.hid (HX1.out.keep (.away a1 (by intro hb; have := hb.1; have := HGL.out; omega)))
              have HA2 := Lib.hid (HA1.out.away a1 (by have := HGL.out; have := HGA.out; omega))
              have HRR2 := Lib.hid (HRR1.out.away a1 (by have := HGL.out; omega))
              have HAW2 := Lib.hid (HAW1.out.trans a1)
              clear c1 q1 a1 HX1 HA1 HRR1 HAW1
              have c1 := xsign_any w0 v2 g T h cap i [60] (by decide) PI.out
              unfold SgE at c1
              rw [hI2] at c1
              go_wp2_with fail
              refine c1.mono ?_
              rintro e v3 ⟨rfl, a1, q1⟩
              replace q1 : XG w0 v3 g T h cap i (-1) := by simpa using q1
              replace PI := Lib.hid q1
              have HX3 := Lib.hid (HX2.out.keep (.away a1 (by intro hb; have := hb.1; have := HGL.out; omega)))
              have HA3 := Lib.hid (HA2.out.away a1 (by have := HGL.out; have := HGA.out; omega))
              have HRR3 := Lib.hid (HRR2.out.away a1 (by have := HGL.out; omega))
              have HAW3 := Lib.hid (HAW2.out.trans a1)
              clear c1 q1 a1 HX2 HA2 HRR2 HAW2
              have c1 := xsign_any w0 v3 g T h cap i [60, 61] (by decide) PI.out
              unfold SgE at c1
              rw [hI3] at c1
              have hrl := HA3.out.lt
              go_wp2_with fail
              refine c1.mono ?_
              rintro e v4 ⟨rfl, a1, q1⟩
              replace q1 : XG w0 v4 g T h cap (i + 1) (-1) := by simpa using q1
              have As1 := Lib.hid (HAW3.out.trans a1)
              have hs1 := a1.size
              have HXs := Lib.hid (HX3.out.keep (.away a1 (by intro hb; have := hb.1; have := HGL.out; omega)))
              have HAs := Lib.hid (HA3.out.away a1 (by have := HGL.out; have := HGA.out; omega))
              have HRs := Lib.hid (HRR3.out.away a1 (by have := HGL.out; omega))
              have c2 := HG.out v4 (i + 1) r2 q1 HPF.out
              clear c1 q1 a1
              go_wp2_with fail
              refine c2.mono ?_
              rintro e w4 ⟨a2, op2, n2, s2, ao2, la2, ca2, rfl, hst⟩
              have hs2 := a2.size
              have d5 := below_alloc w4 (.cells #[.int .i64 op2, .int .i64 n2, .string s2, .slice ao2 la2 ca2] 25)
              have f5 := four_new w4 (.int .i64 op2) (.int .i64 n2) (.string s2) (.slice ao2 la2 ca2) 25
              have z5 := alloc_size w4 (.cells #[.int .i64 op2, .int .i64 n2, .string s2, .slice ao2 la2 ca2] 25)
              have HXf := Lib.hid ((HXs.out.keep (.away a2 (by intro hb; have := hb.1; have := HGL.out; omega))).later d5)
              have hAf := (HAs.out.away a2 (by have := HGL.out; have := HGA.out; omega)).later d5
              have HRf := Lib.hid ((HRs.out.away a2 (by have := HGL.out; omega)).later d5)
              have As5 := Lib.hid ((As1.out.trans a2).next d5)
              have HS5 : Hid ((∃ c j, r2 = .ok (c, T.drop j) ∧ ExIn (w4.alloc (.cells #[.int .i64 op2, .int .i64 n2, .string s2, .slice ao2 la2 ca2] 25)) (Rows w gA) c (EV op2 n2 s2 (.slice ao2 la2 ca2)) ∧ XG w0 (w4.alloc (.cells #[.int .i64 op2, .int .i64 n2, .string s2, .slice ao2 la2 ca2] 25)) g T h cap j (-1)) ∨ (∃ p j : Nat, r2 = .error p ∧ XG w0 (w4.alloc (.cells #[.int .i64 op2, .int .i64 n2, .string s2, .slice ao2 la2 ca2] 25)) g T h cap j (p : Int))) := by
                refine Lib.hid ?_
                rcases hst with ⟨c, j, h1, h2, h3⟩ | ⟨p, j, h1, h3⟩
                · exact .inl ⟨c, j, h1, (h2.wide (R := Rows w gA) (fun b hb _ => ⟨by have : (v4).heap.size ≤ b := hb; have := HGA.out; omega, by have : (v4).heap.size ≤ b := hb; omega⟩)).later d5, h3.later d5⟩
                · exact .inr ⟨p, j, h1, h3.later d5⟩
              obtain ⟨w5, hw5⟩ : ∃ x, w4.alloc (.cells #[.int .i64 op2, .int .i64 n2, .string s2, .slice ao2 la2 ca2] 25) = x := ⟨_, rfl⟩
              rw [hw5] at f5 z5 HXf hAf HRf As5 HS5
              have HAf := Lib.hid hAf
              obtain ⟨-, x0, x1, x2, x3, -⟩ := hAf
              obtain ⟨-, y0, y1, y2, y3, -⟩ := f5
              have c3 := xtwo_any 15 n n2 s s2 ao ao2 la ca la2 ca2 op op2 w5
              clear c2 hst d5 a2 HXs HAs HRs As1 HX3 HA3 HRR3 HAW3
              go_wp2_with fail
              refine c3.mono ?_
              rintro e w6 ⟨b6, hb6, hl6, rfl, B6, hrow⟩
              have hR6 := HRf.out.later B6
              have HR6 := Lib.hid hR6
              obtain ⟨-, z0, z1, z2, z3, g0, g1, g2, g3⟩ := hR6
              have hs6 := B6.size
              have KB6 := Lib.hid B6
              have HROW := Lib.hid hrow
              clear c3 x0 x1 x2 x3 y0 y1 y2 y3 B6 hrow HAf
              go_wp2_with fail
              have hgA := HGA.out
              have hgl := HGL.out
              refine bodyPost_ret (v := EV 15 0 ⟨#[]⟩ (.slice (some ⟨b6, 0, none⟩) 2 2)) (by simp [EV, results, Tryz.results137, go_sem, z0, z1, z2, z3]) rfl ?_
              refine ⟨(As5.out.next KB6.out).put4 (Nat.le_refl _) _ _ _ _, 15, 0, ⟨#[]⟩, some ⟨b6, 0, none⟩, 2, 2, rfl, ?_⟩
              rcases HS5.out with ⟨c, j, h1, h2, h3⟩ | ⟨p, j, h1, h3⟩
              · refine .inl ⟨twoE 15 false a c, j, ?_, ?_, (h3.later KB6.out).put4 hgl _ _ _ _⟩
                · have := HL.out; rw [h1] at this; injection this with this; exact this.symm
                · refine ex_two ⟨by decide, by decide⟩ (by show w.heap.size ≤ b6; omega) (by rw [set4_size]; exact hl6) ?_
                  exact RowIn.from (fun b hb _ => by have := hb.1; show w.heap.size ≤ b; omega) _ _ _ (RowIn.stays (Stays.set4 w6 _ _ _ _ (fun hb => by have := hb.1; omega)) _ _ _ ⟨by omega, by omega⟩ hl6 (HROW.out (Rows w gA) _ _ HXf.out h2))
              · exact .inr ⟨p, j, by have := HL.out; rw [h1] at this; exact (by simpa [bnd] using this.symm), (h3.later KB6.out).put4 hgl _ _ _ _⟩
          | true =>
            cases F with
            | zero => rw [pL] at hL; cases hL
            | succ q0 =>
            rw [pL, opH2, hI0, if_neg (by decide), hI1, if_neg (by decide), hI2, if_pos rfl] at hL
            replace hL : bnd (pE q0 3 (T.drop i).tail) (fun x => some (.ok (twoE 14 false a x.1, x.2))) = some r := hL
            rw [List.tail_drop] at hL
            cases hp : pE q0 3 (T.drop (i + 1)) with
            | none => rw [hp] at hL; cases hL
            | some r2 =>
            rw [hp] at hL
            have hpF : pE (q0 + 1) 3 (T.drop (i + 1)) = some r2 := pE_add hp 1
            have HL := Lib.hid hL
            have HPF := Lib.hid hpF
            clear hL hp hpF
            have c1 := xsign_any w0 w3 g T h cap i [61] (by decide) PI.out
            unfold SgE at c1
            rw [hI0] at c1
            go_wp2_with fail
            refine c1.mono ?_
            rintro e v1 ⟨rfl, a1, q1⟩
            replace q1 : XG w0 v1 g T h cap i (-1) := by simpa using q1
            replace PI := Lib.hid q1
            have HX1 := Lib.hid (HX0.out.keep (.away a1 (by intro hb; have := hb.1; have := HGL.out; omega)))
            have HA1 := Lib.hid (HA0.out.away a1 (by have := HGL.out; have := HGA.out; omega))
            have HRR1 := Lib.hid (HRR0.out.away a1 (by have := HGL.out; omega))
            have HAW1 := Lib.hid (HAW0.out.trans a1)
            clear c1 q1 a1 HX0 HA0 HRR0 HAW0
            have c1 := xsign_any w0 v1 g T h cap i [33, 61] (by decide) PI.out
            unfold SgE at c1
            rw [hI1] at c1
            go_wp2_with fail
            refine c1.mono ?_
            rintro e v2 ⟨rfl, a1, q1⟩
            replace q1 : XG w0 v2 g T h cap i (-1) := by simpa using q1
            replace PI := Lib.hid q1
            have HX2 := Lib.hid (HX1.out.keep (.away a1 (by intro hb; have := hb.1; have := HGL.out; omega)))
            have HA2 := Lib.hid (HA1.out.away a1 (by have := HGL.out; have := HGA.out; omega))
            have HRR2 := Lib.hid (HRR1.out.away a1 (by have := HGL.out; omega))
            have HAW2 := Lib.hid (HAW1.out.trans a1)
            clear c1 q1 a1 HX1 HA1 HRR1 HAW1
            have c1 := xsign_any w0 v2 g T h cap i [60] (by decide) PI.out
            unfold SgE at c1
            rw [hI2] at c1
            have hrl := HA2.out.lt
            go_wp2_with fail
            refine c1.mono ?_
            rintro e v3 ⟨rfl, a1, q1⟩
            replace q1 : XG w0 v3 g T h cap (i + 1) (-1) := by simpa using q1
            have As1 := Lib.hid (HAW2.out.trans a1)
            have hs1 := a1.size
            have HXs := Lib.hid (HX2.out.keep (.away a1 (by intro hb; have := hb.1; have := HGL.out; omega)))
            have HAs := Lib.hid (HA2.out.away a1 (by have := HGL.out; have := HGA.out; omega))
            have HRs := Lib.hid (HRR2.out.away a1 (by have := HGL.out; omega))
            have c2 := HG.out v3 (i + 1) r2 q1 HPF.out
            clear c1 q1 a1
            go_wp2_with fail
            refine c2.mono ?_
            rintro e w4 ⟨a2, op2, n2, s2, ao2, la2, ca2, rfl, hst⟩
            have hs2 := a2.size
            have d5 := below_alloc w4 (.cells #[.int .i64 op2, .int .i64 n2, .string s2, .slice ao2 la2 ca2] 25)
            have f5 := four_new w4 (.int .i64 op2) (.int .i64 n2) (.string s2) (.slice ao2 la2 ca2) 25
            have z5 := alloc_size w4 (.cells #[.int .i64 op2, .int .i64 n2, .string s2, .slice ao2 la2 ca2] 25)
            have HXf := Lib.hid ((HXs.out.keep (.away a2 (by intro hb; have := hb.1; have := HGL.out; omega))).later d5)
            have hAf := (HAs.out.away a2 (by have := HGL.out; have := HGA.out; omega)).later d5
            have HRf := Lib.hid ((HRs.out.away a2 (by have := HGL.out; omega)).later d5)
            have As5 := Lib.hid ((As1.out.trans a2).next d5)
            have HS5 : Hid ((∃ c j, r2 = .ok (c, T.drop j) ∧ ExIn (w4.alloc (.cells #[.int .i64 op2, .int .i64 n2, .string s2, .slice ao2 la2 ca2] 25)) (Rows w gA) c (EV op2 n2 s2 (.slice ao2 la2 ca2)) ∧ XG w0 (w4.alloc (.cells #[.int .i64 op2, .int .i64 n2, .string s2, .slice ao2 la2 ca2] 25)) g T h cap j (-1)) ∨ (∃ p j : Nat, r2 = .error p ∧ XG w0 (w4.alloc (.cells #[.int .i64 op2, .int .i64 n2, .string s2, .slice ao2 la2 ca2] 25)) g T h cap j (p : Int))) := by
              refine Lib.hid ?_
              rcases hst with ⟨c, j, h1, h2, h3⟩ | ⟨p, j, h1, h3⟩
              · exact .inl ⟨c, j, h1, (h2.wide (R := Rows w gA) (fun b hb _ => ⟨by have : (v3).heap.size ≤ b := hb; have := HGA.out; omega, by have : (v3).heap.size ≤ b := hb; omega⟩)).later d5, h3.later d5⟩
              · exact .inr ⟨p, j, h1, h3.later d5⟩
            obtain ⟨w5, hw5⟩ : ∃ x, w4.alloc (.cells #[.int .i64 op2, .int .i64 n2, .string s2, .slice ao2 la2 ca2] 25) = x := ⟨_, rfl⟩
            rw [hw5] at f5 z5 HXf hAf HRf As5 HS5
            have HAf := Lib.hid hAf
            obtain ⟨-, x0, x1, x2, x3, -⟩ := hAf
            obtain ⟨-, y0, y1, y2, y3, -⟩ := f5
            have c3 := xtwo_any 14 n n2 s s2 ao ao2 la ca la2 ca2 op op2 w5
            clear c2 hst d5 a2 HXs HAs HRs As1 HX2 HA2 HRR2 HAW2
            go_wp2_with fail
            refine c3.mono ?_
            rintro e w6 ⟨b6, hb6, hl6, rfl, B6, hrow⟩
            have hR6 := HRf.out.later B6
            have HR6 := Lib.hid hR6
            obtain ⟨-, z0, z1, z2, z3, g0, g1, g2, g3⟩ := hR6
            have hs6 := B6.size
            have KB6 := Lib.hid B6
            have HROW := Lib.hid hrow
            clear c3 x0 x1 x2 x3 y0 y1 y2 y3 B6 hrow HAf
            go_wp2_with fail
            have hgA := HGA.out
            have hgl := HGL.out
            refine bodyPost_ret (v := EV 14 0 ⟨#[]⟩ (.slice (some ⟨b6, 0, none⟩) 2 2)) (by simp [EV, results, Tryz.results137, go_sem, z0, z1, z2, z3]) rfl ?_
            refine ⟨(As5.out.next KB6.out).put4 (Nat.le_refl _) _ _ _ _, 14, 0, ⟨#[]⟩, some ⟨b6, 0, none⟩, 2, 2, rfl, ?_⟩
            rcases HS5.out with ⟨c, j, h1, h2, h3⟩ | ⟨p, j, h1, h3⟩
            · refine .inl ⟨twoE 14 false a c, j, ?_, ?_, (h3.later KB6.out).put4 hgl _ _ _ _⟩
              · have := HL.out; rw [h1] at this; injection this with this; exact this.symm
              · refine ex_two ⟨by decide, by decide⟩ (by show w.heap.size ≤ b6; omega) (by rw [set4_size]; exact hl6) ?_
                exact RowIn.from (fun b hb _ => by have := hb.1; show w.heap.size ≤ b; omega) _ _ _ (RowIn.stays (Stays.set4 w6 _ _ _ _ (fun hb => by have := hb.1; omega)) _ _ _ ⟨by omega, by omega⟩ hl6 (HROW.out (Rows w gA) _ _ HXf.out h2))
            · exact .inr ⟨p, j, by have := HL.out; rw [h1] at this; exact (by simpa [bnd] using this.symm), (h3.later KB6.out).put4 hgl _ _ _ _⟩
        | true =>
          cases F with
          | zero => rw [pL] at hL; cases hL
          | succ q0 =>
          rw [pL, opH2, hI0, if_neg (by decide), hI1, if_pos rfl] at hL
          replace hL : bnd (pE q0 3 (T.drop i).tail) (fun x => some (.ok (twoE 13 false a x.1, x.2))) = some r := hL
          rw [List.tail_drop] at hL
          cases hp : pE q0 3 (T.drop (i + 1)) with
          | none => rw [hp] at hL; cases hL
          | some r2 =>
          rw [hp] at hL
          have hpF : pE (q0 + 1) 3 (T.drop (i + 1)) = some r2 := pE_add hp 1
          have HL := Lib.hid hL
          have HPF := Lib.hid hpF
          clear hL hp hpF
          have c1 := xsign_any w0 w3 g T h cap i [61] (by decide) PI.out
          unfold SgE at c1
          rw [hI0] at c1
          go_wp2_with fail
          refine c1.mono ?_
          rintro e v1 ⟨rfl, a1, q1⟩
          replace q1 : XG w0 v1 g T h cap i (-1) := by simpa using q1
          replace PI := Lib.hid q1
          have HX1 := Lib.hid (HX0.out.keep (.away a1 (by intro hb; have := hb.1; have := HGL.out; omega)))
          have HA1 := Lib.hid (HA0.out.away a1 (by have := HGL.out; have := HGA.out; omega))
          have HRR1 := Lib.hid (HRR0.out.away a1 (by have := HGL.out; omega))
          have HAW1 := Lib.hid (HAW0.out.trans a1)
          clear c1 q1 a1 HX0 HA0 HRR0 HAW0
          have c1 := xsign_any w0 v1 g T h cap i [33, 61] (by decide) PI.out
          unfold SgE at c1
          rw [hI1] at c1
          have hrl := HA1.out.lt
          go_wp2_with fail
          refine c1.mono ?_
          rintro e v2 ⟨rfl, a1, q1⟩
          replace q1 : XG w0 v2 g T h cap (i + 1) (-1) := by simpa using q1
          have As1 := Lib.hid (HAW1.out.trans a1)
          have hs1 := a1.size
          have HXs := Lib.hid (HX1.out.keep (.away a1 (by intro hb; have := hb.1; have := HGL.out; omega)))
          have HAs := Lib.hid (HA1.out.away a1 (by have := HGL.out; have := HGA.out; omega))
          have HRs := Lib.hid (HRR1.out.away a1 (by have := HGL.out; omega))
          have c2 := HG.out v2 (i + 1) r2 q1 HPF.out
          clear c1 q1 a1
          go_wp2_with fail
          refine c2.mono ?_
          rintro e w4 ⟨a2, op2, n2, s2, ao2, la2, ca2, rfl, hst⟩
          have hs2 := a2.size
          have d5 := below_alloc w4 (.cells #[.int .i64 op2, .int .i64 n2, .string s2, .slice ao2 la2 ca2] 25)
          have f5 := four_new w4 (.int .i64 op2) (.int .i64 n2) (.string s2) (.slice ao2 la2 ca2) 25
          have z5 := alloc_size w4 (.cells #[.int .i64 op2, .int .i64 n2, .string s2, .slice ao2 la2 ca2] 25)
          have HXf := Lib.hid ((HXs.out.keep (.away a2 (by intro hb; have := hb.1; have := HGL.out; omega))).later d5)
          have hAf := (HAs.out.away a2 (by have := HGL.out; have := HGA.out; omega)).later d5
          have HRf := Lib.hid ((HRs.out.away a2 (by have := HGL.out; omega)).later d5)
          have As5 := Lib.hid ((As1.out.trans a2).next d5)
          have HS5 : Hid ((∃ c j, r2 = .ok (c, T.drop j) ∧ ExIn (w4.alloc (.cells #[.int .i64 op2, .int .i64 n2, .string s2, .slice ao2 la2 ca2] 25)) (Rows w gA) c (EV op2 n2 s2 (.slice ao2 la2 ca2)) ∧ XG w0 (w4.alloc (.cells #[.int .i64 op2, .int .i64 n2, .string s2, .slice ao2 la2 ca2] 25)) g T h cap j (-1)) ∨ (∃ p j : Nat, r2 = .error p ∧ XG w0 (w4.alloc (.cells #[.int .i64 op2, .int .i64 n2, .string s2, .slice ao2 la2 ca2] 25)) g T h cap j (p : Int))) := by
            refine Lib.hid ?_
            rcases hst with ⟨c, j, h1, h2, h3⟩ | ⟨p, j, h1, h3⟩
            · exact .inl ⟨c, j, h1, (h2.wide (R := Rows w gA) (fun b hb _ => ⟨by have : (v2).heap.size ≤ b := hb; have := HGA.out; omega, by have : (v2).heap.size ≤ b := hb; omega⟩)).later d5, h3.later d5⟩
            · exact .inr ⟨p, j, h1, h3.later d5⟩
          obtain ⟨w5, hw5⟩ : ∃ x, w4.alloc (.cells #[.int .i64 op2, .int .i64 n2, .string s2, .slice ao2 la2 ca2] 25) = x := ⟨_, rfl⟩
          rw [hw5] at f5 z5 HXf hAf HRf As5 HS5
          have HAf := Lib.hid hAf
          obtain ⟨-, x0, x1, x2, x3, -⟩ := hAf
          obtain ⟨-, y0, y1, y2, y3, -⟩ := f5
          have c3 := xtwo_any 13 n n2 s s2 ao ao2 la ca la2 ca2 op op2 w5
          clear c2 hst d5 a2 HXs HAs HRs As1 HX1 HA1 HRR1 HAW1
          go_wp2_with fail
          refine c3.mono ?_
          rintro e w6 ⟨b6, hb6, hl6, rfl, B6, hrow⟩
          have hR6 := HRf.out.later B6
          have HR6 := Lib.hid hR6
          obtain ⟨-, z0, z1, z2, z3, g0, g1, g2, g3⟩ := hR6
          have hs6 := B6.size
          have KB6 := Lib.hid B6
          have HROW := Lib.hid hrow
          clear c3 x0 x1 x2 x3 y0 y1 y2 y3 B6 hrow HAf
          go_wp2_with fail
          have hgA := HGA.out
          have hgl := HGL.out
          refine bodyPost_ret (v := EV 13 0 ⟨#[]⟩ (.slice (some ⟨b6, 0, none⟩) 2 2)) (by simp [EV, results, Tryz.results137, go_sem, z0, z1, z2, z3]) rfl ?_
          refine ⟨(As5.out.next KB6.out).put4 (Nat.le_refl _) _ _ _ _, 13, 0, ⟨#[]⟩, some ⟨b6, 0, none⟩, 2, 2, rfl, ?_⟩
          rcases HS5.out with ⟨c, j, h1, h2, h3⟩ | ⟨p, j, h1, h3⟩
          · refine .inl ⟨twoE 13 false a c, j, ?_, ?_, (h3.later KB6.out).put4 hgl _ _ _ _⟩
            · have := HL.out; rw [h1] at this; injection this with this; exact this.symm
            · refine ex_two ⟨by decide, by decide⟩ (by show w.heap.size ≤ b6; omega) (by rw [set4_size]; exact hl6) ?_
              exact RowIn.from (fun b hb _ => by have := hb.1; show w.heap.size ≤ b; omega) _ _ _ (RowIn.stays (Stays.set4 w6 _ _ _ _ (fun hb => by have := hb.1; omega)) _ _ _ ⟨by omega, by omega⟩ hl6 (HROW.out (Rows w gA) _ _ HXf.out h2))
          · exact .inr ⟨p, j, by have := HL.out; rw [h1] at this; exact (by simpa [bnd] using this.symm), (h3.later KB6.out).put4 hgl _ _ _ _⟩
      | true =>
        cases F with
        | zero => rw [pL] at hL; cases hL
        | succ q0 =>
        rw [pL, opH2, hI0, if_pos rfl] at hL
        replace hL : bnd (pE q0 3 (T.drop i).tail) (fun x => some (.ok (twoE 12 false a x.1, x.2))) = some r := hL
        rw [List.tail_drop] at hL
        cases hp : pE q0 3 (T.drop (i + 1)) with
        | none => rw [hp] at hL; cases hL
        | some r2 =>
        rw [hp] at hL
        have hpF : pE (q0 + 1) 3 (T.drop (i + 1)) = some r2 := pE_add hp 1
        have HL := Lib.hid hL
        have HPF := Lib.hid hpF
        clear hL hp hpF
        have c1 := xsign_any w0 w3 g T h cap i [61] (by decide) PI.out
        unfold SgE at c1
        rw [hI0] at c1
        have hrl := HA0.out.lt
        go_wp2_with fail
        refine c1.mono ?_
        rintro e v1 ⟨rfl, a1, q1⟩
        replace q1 : XG w0 v1 g T h cap (i + 1) (-1) := by simpa using q1
        have As1 := Lib.hid (HAW0.out.trans a1)
        have hs1 := a1.size
        have HXs := Lib.hid (HX0.out.keep (.away a1 (by intro hb; have := hb.1; have := HGL.out; omega)))
        have HAs := Lib.hid (HA0.out.away a1 (by have := HGL.out; have := HGA.out; omega))
        have HRs := Lib.hid (HRR0.out.away a1 (by have := HGL.out; omega))
        have c2 := HG.out v1 (i + 1) r2 q1 HPF.out
        clear c1 q1 a1
        go_wp2_with fail
        refine c2.mono ?_
        rintro e w4 ⟨a2, op2, n2, s2, ao2, la2, ca2, rfl, hst⟩
        have hs2 := a2.size
        have d5 := below_alloc w4 (.cells #[.int .i64 op2, .int .i64 n2, .string s2, .slice ao2 la2 ca2] 25)
        have f5 := four_new w4 (.int .i64 op2) (.int .i64 n2) (.string s2) (.slice ao2 la2 ca2) 25
        have z5 := alloc_size w4 (.cells #[.int .i64 op2, .int .i64 n2, .string s2, .slice ao2 la2 ca2] 25)
        have HXf := Lib.hid ((HXs.out.keep (.away a2 (by intro hb; have := hb.1; have := HGL.out; omega))).later d5)
        have hAf := (HAs.out.away a2 (by have := HGL.out; have := HGA.out; omega)).later d5
        have HRf := Lib.hid ((HRs.out.away a2 (by have := HGL.out; omega)).later d5)
        have As5 := Lib.hid ((As1.out.trans a2).next d5)
        have HS5 : Hid ((∃ c j, r2 = .ok (c, T.drop j) ∧ ExIn (w4.alloc (.cells #[.int .i64 op2, .int .i64 n2, .string s2, .slice ao2 la2 ca2] 25)) (Rows w gA) c (EV op2 n2 s2 (.slice ao2 la2 ca2)) ∧ XG w0 (w4.alloc (.cells #[.int .i64 op2, .int .i64 n2, .string s2, .slice ao2 la2 ca2] 25)) g T h cap j (-1)) ∨ (∃ p j : Nat, r2 = .error p ∧ XG w0 (w4.alloc (.cells #[.int .i64 op2, .int .i64 n2, .string s2, .slice ao2 la2 ca2] 25)) g T h cap j (p : Int))) := by
          refine Lib.hid ?_
          rcases hst with ⟨c, j, h1, h2, h3⟩ | ⟨p, j, h1, h3⟩
          · exact .inl ⟨c, j, h1, (h2.wide (R := Rows w gA) (fun b hb _ => ⟨by have : (v1).heap.size ≤ b := hb; have := HGA.out; omega, by have : (v1).heap.size ≤ b := hb; omega⟩)).later d5, h3.later d5⟩
          · exact .inr ⟨p, j, h1, h3.later d5⟩
        obtain ⟨w5, hw5⟩ : ∃ x, w4.alloc (.cells #[.int .i64 op2, .int .i64 n2, .string s2, .slice ao2 la2 ca2] 25) = x := ⟨_, rfl⟩
        rw [hw5] at f5 z5 HXf hAf HRf As5 HS5
        have HAf := Lib.hid hAf
        obtain ⟨-, x0, x1, x2, x3, -⟩ := hAf
        obtain ⟨-, y0, y1, y2, y3, -⟩ := f5
        have c3 := xtwo_any 12 n n2 s s2 ao ao2 la ca la2 ca2 op op2 w5
        clear c2 hst d5 a2 HXs HAs HRs As1 HX0 HA0 HRR0 HAW0
        go_wp2_with fail
        refine c3.mono ?_
        rintro e w6 ⟨b6, hb6, hl6, rfl, B6, hrow⟩
        have hR6 := HRf.out.later B6
        have HR6 := Lib.hid hR6
        obtain ⟨-, z0, z1, z2, z3, g0, g1, g2, g3⟩ := hR6
        have hs6 := B6.size
        have KB6 := Lib.hid B6
        have HROW := Lib.hid hrow
        clear c3 x0 x1 x2 x3 y0 y1 y2 y3 B6 hrow HAf
        go_wp2_with fail
        have hgA := HGA.out
        have hgl := HGL.out
        refine bodyPost_ret (v := EV 12 0 ⟨#[]⟩ (.slice (some ⟨b6, 0, none⟩) 2 2)) (by simp [EV, results, Tryz.results137, go_sem, z0, z1, z2, z3]) rfl ?_
        refine ⟨(As5.out.next KB6.out).put4 (Nat.le_refl _) _ _ _ _, 12, 0, ⟨#[]⟩, some ⟨b6, 0, none⟩, 2, 2, rfl, ?_⟩
        rcases HS5.out with ⟨c, j, h1, h2, h3⟩ | ⟨p, j, h1, h3⟩
        · refine .inl ⟨twoE 12 false a c, j, ?_, ?_, (h3.later KB6.out).put4 hgl _ _ _ _⟩
          · have := HL.out; rw [h1] at this; injection this with this; exact this.symm
          · refine ex_two ⟨by decide, by decide⟩ (by show w.heap.size ≤ b6; omega) (by rw [set4_size]; exact hl6) ?_
            exact RowIn.from (fun b hb _ => by have := hb.1; show w.heap.size ≤ b; omega) _ _ _ (RowIn.stays (Stays.set4 w6 _ _ _ _ (fun hb => by have := hb.1; omega)) _ _ _ ⟨by omega, by omega⟩ hl6 (HROW.out (Rows w gA) _ _ HXf.out h2))
        · exact .inr ⟨p, j, by have := HL.out; rw [h1] at this; exact (by simpa [bnd] using this.symm), (h3.later KB6.out).put4 hgl _ _ _ _⟩
    · have PJ := Lib.hid pj
      have hr : r = .error pp := by have := HR.out; unfold bnd at this; simpa using this.symm
      subst hr
      obtain ⟨-, x0, x1, x2, x3, -⟩ := f3
      obtain ⟨-, y0, y1, y2, y3, f0, f1, f2, f3⟩ := hR
      clear pj HG HR HS
      have c1 := xsign_bad w0 w3 g T h cap j pp ⟨#[61]⟩ PJ.out
      go_wp2_with fail
      refine c1.mono ?_
      rintro e w4 ⟨rfl, rfl⟩
      clear c1
      have c1 := xsign_bad w0 w3 g T h cap j pp ⟨#[33, 61]⟩ PJ.out
      go_wp2_with fail
      refine c1.mono ?_
      rintro e w4 ⟨rfl, rfl⟩
      clear c1
      have c1 := xsign_bad w0 w3 g T h cap j pp ⟨#[60]⟩ PJ.out
      go_wp2_with fail
      refine c1.mono ?_
      rintro e w4 ⟨rfl, rfl⟩
      clear c1
      have c1 := xsign_bad w0 w3 g T h cap j pp ⟨#[60, 61]⟩ PJ.out
      go_wp2_with fail
      refine c1.mono ?_
      rintro e w4 ⟨rfl, rfl⟩
      clear c1
      have c1 := xsign_bad w0 w3 g T h cap j pp ⟨#[62]⟩ PJ.out
      go_wp2_with fail
      refine c1.mono ?_
      rintro e w4 ⟨rfl, rfl⟩
      clear c1
      have c1 := xsign_bad w0 w3 g T h cap j pp ⟨#[62, 61]⟩ PJ.out
      go_wp2_with fail
      refine c1.mono ?_
      rintro e w4 ⟨rfl, rfl⟩
      clear c1
      go_wp2_with fail
      exact bodyPost_ret (v := EV op n s (.slice ao la ca)) (by simp [EV, results, Tryz.results137, go_sem, y0, y1, y2, y3]) rfl ⟨HAW0.out.put4 (Nat.le_refl _) _ _ _ _, op, n, s, ao, la, ca, rfl, .inr ⟨pp, j, rfl, PJ.out.put4 HGL.out _ _ _ _⟩⟩
end Go.Proofs.YtjmfpgalepahoaaGreatDoor
