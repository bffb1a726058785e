/- The document's own parser: two; what a part answers; or, and, sum, product. -/
import Derived.Test.YtjmfpgalepahoaaGreatDoorMRxP
namespace Go.Proofs.YtjmfpgalepahoaaGreatDoor
open Go.RowKit

section
variable {w0 w w' : World} {g : Nat} {T : List Tk} {h cap i : Nat} {bad : Int}
theorem XG.put4 (p : XG w0 w g T h cap i bad) {b : Nat} (hb : g < b) (x0 x1 x2 x3 : Value) : XG w0 (set4 w b x0 x1 x2 x3) g T h cap i bad :=
  (((p.put hb 0 x0).put hb 1 x1).put hb 2 x2).put hb 3 x3
theorem Four.far {a b c d : Value} {k j : Nat} (hF : Four w k a b c d) (hj : j ≠ k) (y0 y1 y2 y3 : Value) : Four (set4 w j y0 y1 y2 y3) k a b c d := by
  have ha : Away j w (set4 w j y0 y1 y2 y3) := ((((Away.refl j w).set 0 y0).set 1 y1).set 2 y2).set 3 y3
  exact hF.away ha (Ne.symm hj)
end
/-- How two ends: a row of both. -/
def TwoE (w : World) (op : Int) (u v : Value) (e : Ending) (w' : World) : Prop :=
  ∃ b, w.heap.size < b ∧ b < w'.heap.size ∧ e = .returned (EV op 0 ⟨#[]⟩ (.slice (some ⟨b, 0, none⟩) 2 2)) ∧ Below w.heap.size w w' ∧ ∀ (S : Nat → Prop) (x y : Ex), ExIn w S x u → ExIn w S y v → RowIn w' S b 0 [x, y]
set_option maxHeartbeats 1000000 in
set_option maxRecDepth 100000 in
theorem xtwo_any (op p q : Int) (s z : ByteArray) (a c : Option Addr) (la ca lc cc : Nat) (m n : Int) (w : World) :
    Calls Tryz.prog 72 #[.int .i64 op, EV m p s (.slice a la ca), EV n q z (.slice c lc cc)] w
      (TwoE w op (EV m p s (.slice a la ca)) (EV n q z (.slice c lc cc))) := by
  go_enter Tryz.func72, Tryz.ntmps72
  go_wp2_with fail
  have hw1 : ((w.alloc (.cells #[.int .i64 m, .int .i64 p, .string s, .slice a la ca] 25)).alloc (.cells #[.int .i64 n, .int .i64 q, .string z, .slice c lc cc] 25)).heap.size = w.heap.size + 1 + 1 := by rw [alloc_size, alloc_size]
  have hb1 := below_alloc w (.cells #[.int .i64 m, .int .i64 p, .string s, .slice a la ca] 25)
  have hb2 := below_to hb1 (below_alloc _ (.cells #[.int .i64 n, .int .i64 q, .string z, .slice c lc cc] 25))
  have hb3 := below_to hb2 (below_alloc _ (.cells #[.int .i64 op, .int .i64 0, .string ⟨#[]⟩, .slice (some ⟨w.heap.size + 1 + 1 + 1, 0, none⟩) 2 2] 25))
  generalize ((w.alloc (.cells #[.int .i64 m, .int .i64 p, .string s, .slice a la ca] 25)).alloc (.cells #[.int .i64 n, .int .i64 q, .string z, .slice c lc cc] 25)) = w1 at *
  have hs3 := alloc_size w1 (.cells #[.int .i64 op, .int .i64 0, .string ⟨#[]⟩, .slice (some ⟨w.heap.size + 1 + 1 + 1, 0, none⟩) 2 2] 25)
  have hF := (four_new w1 (.int .i64 op) (.int .i64 0) (.string ⟨#[]⟩) (.slice (some ⟨w.heap.size + 1 + 1 + 1, 0, none⟩) 2 2) 25).later (below_alloc _ (.cells #[.int .i64 m, .int .i64 p, .string s, .slice a la ca, .int .i64 n, .int .i64 q, .string z, .slice c lc cc] 25))
  generalize w1.alloc (.cells #[.int .i64 op, .int .i64 0, .string ⟨#[]⟩, .slice (some ⟨w.heap.size + 1 + 1 + 1, 0, none⟩) 2 2] 25) = w3 at *
  have he : w.heap.size + 1 + 1 + 1 = w3.heap.size := by omega
  rw [he] at hF ⊢
  obtain ⟨-, x0, x1, x2, x3, -⟩ := hF
  rw [hw1] at x0 x1 x2 x3
  exact bodyPost_ret (v := EV op 0 ⟨#[]⟩ (.slice (some ⟨w3.heap.size, 0, none⟩) 2 2)) (by simp [EV, results, Tryz.results72, go_sem, x0, x1, x2, x3]) rfl
    ⟨w3.heap.size, by omega, by rw [alloc_size]; omega, rfl, below_to hb3 (below_alloc _ _), fun S x y hx hy => row_two (hx.later hb3) (hy.later hb3)⟩
/-- How a part ends: the expression, and what is left; or it is wrong, and some expression. -/
def XEnd (w0 w : World) (g : Nat) (T : List Tk) (h cap : Nat) (r : Except Nat (Ex × List Tk)) (e : Ending) (w' : World) : Prop :=
  Away g w w' ∧ ∃ (op n : Int) (s : ByteArray) (ao : Option Addr) (la ca : Nat), e = .returned (EV op n s (.slice ao la ca)) ∧
    ((∃ a j, r = .ok (a, T.drop j) ∧ ExIn w' (Up w.heap.size) a (EV op n s (.slice ao la ca)) ∧ XG w0 w' g T h cap j (-1)) ∨ (∃ p j : Nat, r = .error p ∧ XG w0 w' g T h cap j (p : Int)))
/-- Rows behind a world, but for one block. -/
abbrev Rows (w : World) (gA : Nat) : Nat → Prop := fun b => w.heap.size < b ∧ b ≠ gA
/-- While a line is read. -/
def KLn (w0 w : World) (g gA : Nat) (T : List Tk) (h cap l F : Nat) (r : Except Nat (Ex × List Tk)) (q : Nat) (wr : World) : Prop :=
  q ≤ F ∧ Away g w wr ∧ g < w.heap.size ∧ w.heap.size < gA ∧ Four wr w.heap.size (.int .i64 0) (.int .i64 0) (.string ⟨#[]⟩) (.slice none 0 0) ∧
  ∃ (op n : Int) (s : ByteArray) (ao : Option Addr) (la ca : Nat), Four wr gA (.int .i64 op) (.int .i64 n) (.string s) (.slice ao la ca) ∧
    ((∃ i a, XG w0 wr g T h cap i (-1) ∧ ExIn wr (Rows w gA) a (EV op n s (.slice ao la ca)) ∧ pL q l a (T.drop i) = some r) ∨ (∃ p j : Nat, XG w0 wr g T h cap j (p : Int) ∧ r = .error p ∧ q = 0))
theorem opH0 (ts : List Tk) : opH 0 ts = if isS ts [124] = true then some (17, false) else none := by
  cases ts with
  | nil => rfl
  | cons t q =>
    unfold opH opAt isS
    by_cases hk : t.k = 4
    · simp [hk]
    · simp [hk]
theorem opH1 (ts : List Tk) : opH 1 ts = if isS ts [38] = true then some (16, false) else none := by
  cases ts with
  | nil => rfl
  | cons t q =>
    unfold opH opAt isS
    by_cases hk : t.k = 4
    · simp [hk]
    · simp [hk]
set_option maxHeartbeats 4000000 in
set_option maxRecDepth 100000 in
theorem xor_step {w0 : World} {g : Nat} {T : List Tk} {h cap F : Nat} (hG : ∀ (w : World) (i : Nat) r, XG w0 w g T h cap i (-1) → pE F 1 (T.drop i) = some r → Calls Tryz.prog 70 #[.pointer (some ⟨g, 0, none⟩)] w (XEnd w0 w g T h cap r))
    (w : World) (i : Nat) (r : Except Nat (Ex × List Tk)) (p : XG w0 w g T h cap i (-1)) (hr : pE (F + 1) 0 (T.drop i) = some r) : Calls Tryz.prog 36 #[.pointer (some ⟨g, 0, none⟩)] w (XEnd w0 w g T h cap r) := by
  have hgl := p.glt
  rw [pE, if_pos (by decide)] at hr
  have d1 := below_alloc w (.cells #[.int .i64 0, .int .i64 0, .string ⟨#[]⟩, .slice none 0 0] 25)
  have f1 := four_new w (.int .i64 0) (.int .i64 0) (.string ⟨#[]⟩) (.slice none 0 0) 25
  have z1 := alloc_size w (.cells #[.int .i64 0, .int .i64 0, .string ⟨#[]⟩, .slice none 0 0] 25)
  obtain ⟨w1, hw1⟩ : ∃ x, w.alloc (.cells #[.int .i64 0, .int .i64 0, .string ⟨#[]⟩, .slice none 0 0] 25) = x := ⟨_, rfl⟩
  rw [hw1] at d1 f1 z1
  have p1 := p.later d1
  cases h1 : pE F 1 (T.drop i) with
  | none => rw [h1] at hr; cases hr
  | some r1 =>
    rw [h1] at hr
    have cG := hG w1 i r1 p1 h1
    have HR := Lib.hid hr
    have HF1 := Lib.hid f1
    have HD1 := Lib.hid d1
    have HZ1 := Lib.hid z1
    have HGL := Lib.hid hgl
    have HG := Lib.hid hG
    clear hr f1 d1 z1 p1 p h1 hG hgl
    go_enter Tryz.func36, Tryz.ntmps36
    go_wp2_with fail
    refine cG.mono ?_
    rintro e w2 ⟨a2, op, n, s, ao, la, ca, rfl, hst⟩
    have d3 := below_alloc w2 (.cells #[.int .i64 op, .int .i64 n, .string s, .slice ao la ca] 25)
    have f3 := four_new w2 (.int .i64 op) (.int .i64 n) (.string s) (.slice ao la ca) 25
    have HK : ∃ q, Hid (KLn w0 w g w2.heap.size T h cap 0 F r q (w2.alloc (.cells #[.int .i64 op, .int .i64 n, .string s, .slice ao la ca] 25))) := by
      have hA : Away g w (w2.alloc (.cells #[.int .i64 op, .int .i64 n, .string s, .slice ao la ca] 25)) := ((Away.of HD1.out).trans a2).trans (Away.of d3)
      have hsz := a2.size
      have h0 := HZ1.out
      have hgl := HGL.out
      have hR := (HF1.out.away a2 (by omega)).later d3
      rcases hst with ⟨a, j, rfl, hx, pj⟩ | ⟨pp, j, rfl, pj⟩
      · exact ⟨F, Lib.hid ⟨Nat.le_refl _, hA, HGL.out, by omega, hR, op, n, s, ao, la, ca, f3, .inl ⟨j, a, pj.later d3, (hx.wide (R := Rows w w2.heap.size) (fun b hb hl => ⟨by have : w1.heap.size ≤ b := hb; omega, by omega⟩)).later d3, HR.out⟩⟩⟩
      · exact ⟨0, Lib.hid ⟨Nat.zero_le _, hA, HGL.out, by omega, hR, op, n, s, ao, la, ca, f3, .inr ⟨pp, j, pj.later d3, by have := HR.out; unfold bnd at this; simpa using this.symm, rfl⟩⟩⟩
    obtain ⟨qq, HK⟩ := HK
    obtain ⟨w3, hw3⟩ : ∃ x, w2.alloc (.cells #[.int .i64 op, .int .i64 n, .string s, .slice ao la ca] 25) = x := ⟨_, rfl⟩
    rw [hw3] at HK
    clear cG a2 hst d3 f3 HD1 HF1 HZ1
    go_wp2_with fail
    obtain ⟨gA, hgA⟩ : ∃ x, w2.heap.size = x := ⟨_, rfl⟩
    rw [hgA] at HK ⊢
    clear hgA
    clear hw3 hw1
    go_loopg [4] (qq) (fun q s4 wr => Hid (KLn w0 w g gA T h cap 0 F r q wr))
    case atStart => exact HK
    case round =>
      clear HK
      obtain ⟨hqF, aw, hgl, hgA, hR, op, n, s, ao, la, ca, hA, hst⟩ := hrel.out
      have HA0 := Lib.hid hA
      have HRR0 := Lib.hid hR
      have HAW0 := Lib.hid aw
      have HGA := Lib.hid hgA
      have HQ := Lib.hid hqF
      clear hrel hqF aw hgl hgA
      rcases hst with ⟨i, a, pi, hx, hL⟩ | ⟨pp, j, pj, rfl, -⟩
      · have PI := Lib.hid pi
        have HX0 := Lib.hid hx
        clear pi hx hA hR HR
        cases hI0 : isS (T.drop i) [124] with
        | false =>
          clear HG HQ
          have hr : r = .ok (a, T.drop i) := by
            cases gk with
            | zero => rw [pL] at hL; cases hL
            | succ q0 =>
              rw [pL, opH0, hI0, if_neg (by decide)] at hL
              injection hL with hL; exact hL.symm
          subst hr
          clear hL
          have c1 := xsign_any w0 wr g T h cap i [124] (by decide) PI.out
          unfold SgE at c1
          rw [hI0] at c1
          go_wp2_with fail
          refine c1.mono ?_
          rintro e v1 ⟨rfl, a1, q1⟩
          replace q1 : XG w0 v1 g T h cap i (-1) := by simpa using q1
          replace PI := Lib.hid q1
          have HX1 := Lib.hid (HX0.out.keep (.away a1 (by intro hb; have := hb.1; have := HGL.out; omega)))
          have HA1 := Lib.hid (HA0.out.away a1 (by have := HGL.out; have := HGA.out; omega))
          have HRR1 := Lib.hid (HRR0.out.away a1 (by have := HGL.out; omega))
          have HAW1 := Lib.hid (HAW0.out.trans a1)
          clear c1 q1 a1 HX0 HA0 HRR0 HAW0
          have HR1 := Lib.hid HRR1.out
          obtain ⟨-, x0, x1, x2, x3, -⟩ := HA1.out
          obtain ⟨-, y0, y1, y2, y3, f0, f1, f2, f3⟩ := HR1.out
          go_wp2_with fail
          exact bodyPost_ret (v := EV op n s (.slice ao la ca)) (by simp [EV, results, Tryz.results36, go_sem, y0, y1, y2, y3]) rfl ⟨HAW1.out.put4 (Nat.le_refl _) _ _ _ _, op, n, s, ao, la, ca, rfl, .inl ⟨a, i, rfl, (HX1.out.keep (.set4 _ _ _ _ _ (by intro hb; have := hb.1; omega))).wide (fun b hb _ => by have := hb.1; show w.heap.size ≤ b; omega), PI.out.put4 HGL.out _ _ _ _⟩⟩
        | true =>
          cases gk with
          | zero => rw [pL] at hL; cases hL
          | succ q0 =>
          rw [pL, opH0, hI0, if_pos rfl] at hL
          replace hL : bnd (pE q0 1 (T.drop i).tail) (fun x => pL q0 0 (twoE 17 false a x.1) x.2) = some r := hL
          rw [List.tail_drop] at hL
          cases hp : pE q0 1 (T.drop (i + 1)) with
          | none => rw [hp] at hL; cases hL
          | some r2 =>
          rw [hp] at hL
          have hpF : pE F 1 (T.drop (i + 1)) = some r2 := by
            have := pE_add hp (F - q0)
            rwa [show q0 + (F - q0) = F by have := HQ.out; omega] at this
          have HL := Lib.hid hL
          have HPF := Lib.hid hpF
          clear hL hp hpF
          have c1 := xsign_any w0 wr g T h cap i [124] (by decide) PI.out
          unfold SgE at c1
          rw [hI0] at c1
          have hrl := HA0.out.lt
          go_wp2_with fail
          refine c1.mono ?_
          rintro e v1 ⟨rfl, a1, q1⟩
          replace q1 : XG w0 v1 g T h cap (i + 1) (-1) := by simpa using q1
          have As1 := Lib.hid (HAW0.out.trans a1)
          have hs1 := a1.size
          have HXs := Lib.hid (HX0.out.keep (.away a1 (by intro hb; have := hb.1; have := HGL.out; omega)))
          have HAs := Lib.hid (HA0.out.away a1 (by have := HGL.out; have := HGA.out; omega))
          have HRs := Lib.hid (HRR0.out.away a1 (by have := HGL.out; omega))
          have c2 := HG.out v1 (i + 1) r2 q1 HPF.out
          clear c1 q1 a1
          go_wp2_with fail
          refine c2.mono ?_
          rintro e w4 ⟨a2, op2, n2, s2, ao2, la2, ca2, rfl, hst⟩
          have hs2 := a2.size
          have d5 := below_alloc w4 (.cells #[.int .i64 op2, .int .i64 n2, .string s2, .slice ao2 la2 ca2] 25)
          have f5 := four_new w4 (.int .i64 op2) (.int .i64 n2) (.string s2) (.slice ao2 la2 ca2) 25
          have z5 := alloc_size w4 (.cells #[.int .i64 op2, .int .i64 n2, .string s2, .slice ao2 la2 ca2] 25)
          have HX5 := Lib.hid ((HXs.out.keep (.away a2 (by intro hb; have := hb.1; have := HGL.out; omega))).later d5)
          have hA5 := (HAs.out.away a2 (by have := HGL.out; have := HGA.out; omega)).later d5
          have HR5 := Lib.hid ((HRs.out.away a2 (by have := HGL.out; omega)).later d5)
          have A5 := Lib.hid ((As1.out.trans a2).next d5)
          have HS5 : Hid ((∃ c j, r2 = .ok (c, T.drop j) ∧ ExIn (w4.alloc (.cells #[.int .i64 op2, .int .i64 n2, .string s2, .slice ao2 la2 ca2] 25)) (Rows w gA) c (EV op2 n2 s2 (.slice ao2 la2 ca2)) ∧ XG w0 (w4.alloc (.cells #[.int .i64 op2, .int .i64 n2, .string s2, .slice ao2 la2 ca2] 25)) g T h cap j (-1)) ∨ (∃ p j : Nat, r2 = .error p ∧ XG w0 (w4.alloc (.cells #[.int .i64 op2, .int .i64 n2, .string s2, .slice ao2 la2 ca2] 25)) g T h cap j (p : Int))) := by
            refine Lib.hid ?_
            rcases hst with ⟨c, j, h1, h2, h3⟩ | ⟨p, j, h1, h3⟩
            · exact .inl ⟨c, j, h1, (h2.wide (R := Rows w gA) (fun b hb _ => ⟨by have : (v1).heap.size ≤ b := hb; have := HGA.out; omega, by have : (v1).heap.size ≤ b := hb; omega⟩)).later d5, h3.later d5⟩
            · exact .inr ⟨p, j, h1, h3.later d5⟩
          obtain ⟨w5, hw5⟩ : ∃ x, w4.alloc (.cells #[.int .i64 op2, .int .i64 n2, .string s2, .slice ao2 la2 ca2] 25) = x := ⟨_, rfl⟩
          rw [hw5] at f5 z5 HX5 hA5 HR5 A5 HS5
          have HA5 := Lib.hid hA5
          obtain ⟨-, x0, x1, x2, x3, -⟩ := hA5
          obtain ⟨-, y0, y1, y2, y3, -⟩ := f5
          have c3 := xtwo_any 17 n n2 s s2 ao ao2 la ca la2 ca2 op op2 w5
          clear c2 hst d5 a2 HXs HAs HRs As1 HX0 HA0 HRR0 HAW0
          go_wp2_with fail
          refine c3.mono ?_
          rintro e w6 ⟨b6, hb6, hl6, rfl, B6, hrow⟩
          have hA6 := HA5.out.later B6
          have HA6 := Lib.hid hA6
          obtain ⟨-, z0, z1, z2, z3, g0, g1, g2, g3⟩ := hA6
          have hs6 := B6.size
          have KB6 := Lib.hid B6
          have HROW := Lib.hid hrow
          clear c3 x0 x1 x2 x3 y0 y1 y2 y3 B6 hrow
          go_wp2_with fail
          have hgA := HGA.out
          have hgl := HGL.out
          rcases HS5.out with ⟨c, j, h1, h2, h3⟩ | ⟨p, j, h1, h3⟩
          · go_roundg q0
            case measure => omega
            case rel =>
              refine Lib.hid ⟨by have := HQ.out; omega, (A5.out.next KB6.out).put4 (by omega) _ _ _ _, hgl, hgA, (HR5.out.later KB6.out).far (by omega) _ _ _ _, 17, 0, ⟨#[]⟩, some ⟨b6, 0, none⟩, 2, 2, HA6.out.set _ _ _ _, .inl ⟨j, twoE 17 false a c, (h3.later KB6.out).put4 (by omega) _ _ _ _, ?_, ?_⟩⟩
              · refine ex_two ⟨by decide, by decide⟩ (S := Rows w gA) ⟨by omega, by omega⟩ (by rw [set4_size]; exact hl6) ?_
                exact RowIn.stays (Stays.set4 w6 _ _ _ _ (fun hb => hb.2 rfl)) _ _ _ ⟨by omega, by omega⟩ hl6 (HROW.out _ _ _ HX5.out h2)
              · have := HL.out; rw [h1] at this; exact this
          · go_roundg 0
            case measure => omega
            case rel =>
              exact Lib.hid ⟨Nat.zero_le _, (A5.out.next KB6.out).put4 (by omega) _ _ _ _, hgl, hgA, (HR5.out.later KB6.out).far (by omega) _ _ _ _, 17, 0, ⟨#[]⟩, some ⟨b6, 0, none⟩, 2, 2, HA6.out.set _ _ _ _, .inr ⟨p, j, (h3.later KB6.out).put4 (by omega) _ _ _ _, by have := HL.out; rw [h1] at this; exact (by simpa [bnd] using this.symm), rfl⟩⟩
      · have PJ := Lib.hid pj
        obtain ⟨-, x0, x1, x2, x3, -⟩ := hA
        obtain ⟨-, y0, y1, y2, y3, f0, f1, f2, f3⟩ := hR
        clear pj HG HR HQ
        have c1 := xsign_bad w0 wr g T h cap j pp ⟨#[124]⟩ PJ.out
        go_wp2_with fail
        refine c1.mono ?_
        rintro e w1 ⟨rfl, rfl⟩
        clear c1
        go_wp2_with fail
        exact bodyPost_ret (v := EV op n s (.slice ao la ca)) (by simp [EV, results, Tryz.results36, go_sem, y0, y1, y2, y3]) rfl ⟨HAW0.out.put4 (Nat.le_refl _) _ _ _ _, op, n, s, ao, la, ca, rfl, .inr ⟨pp, j, rfl, PJ.out.put4 HGL.out _ _ _ _⟩⟩
set_option maxHeartbeats 4000000 in
set_option maxRecDepth 100000 in
theorem xand_step {w0 : World} {g : Nat} {T : List Tk} {h cap F : Nat} (hG : ∀ (w : World) (i : Nat) r, XG w0 w g T h cap i (-1) → pE F 2 (T.drop i) = some r → Calls Tryz.prog 137 #[.pointer (some ⟨g, 0, none⟩)] w (XEnd w0 w g T h cap r))
    (w : World) (i : Nat) (r : Except Nat (Ex × List Tk)) (p : XG w0 w g T h cap i (-1)) (hr : pE (F + 1) 1 (T.drop i) = some r) : Calls Tryz.prog 70 #[.pointer (some ⟨g, 0, none⟩)] w (XEnd w0 w g T h cap r) := by
  have hgl := p.glt
  rw [pE, if_pos (by decide)] at hr
  have d1 := below_alloc w (.cells #[.int .i64 0, .int .i64 0, .string ⟨#[]⟩, .slice none 0 0] 25)
  have f1 := four_new w (.int .i64 0) (.int .i64 0) (.string ⟨#[]⟩) (.slice none 0 0) 25
  have z1 := alloc_size w (.cells #[.int .i64 0, .int .i64 0, .string ⟨#[]⟩, .slice none 0 0] 25)
  obtain ⟨w1, hw1⟩ : ∃ x, w.alloc (.cells #[.int .i64 0, .int .i64 0, .string ⟨#[]⟩, .slice none 0 0] 25) = x := ⟨_, rfl⟩
  rw [hw1] at d1 f1 z1
  have p1 := p.later d1
  cases h1 : pE F 2 (T.drop i) with
  | none => rw [h1] at hr; cases hr
  | some r1 =>
    rw [h1] at hr
    have cG := hG w1 i r1 p1 h1
    have HR := Lib.hid hr
    have HF1 := Lib.hid f1
    have HD1 := Lib.hid d1
    have HZ1 := Lib.hid z1
    have HGL := Lib.hid hgl
    have HG := Lib.hid hG
    clear hr f1 d1 z1 p1 p h1 hG hgl
    go_enter Tryz.func70, Tryz.ntmps70
    go_wp2_with fail
    refine cG.mono ?_
    rintro e w2 ⟨a2, op, n, s, ao, la, ca, rfl, hst⟩
    have d3 := below_alloc w2 (.cells #[.int .i64 op, .int .i64 n, .string s, .slice ao la ca] 25)
    have f3 := four_new w2 (.int .i64 op) (.int .i64 n) (.string s) (.slice ao la ca) 25
    have HK : ∃ q, Hid (KLn w0 w g w2.heap.size T h cap 1 F r q (w2.alloc (.cells #[.int .i64 op, .int .i64 n, .string s, .slice ao la ca] 25))) := by
      have hA : Away g w (w2.alloc (.cells #[.int .i64 op, .int .i64 n, .string s, .slice ao la ca] 25)) := ((Away.of HD1.out).trans a2).trans (Away.of d3)
      have hsz := a2.size
      have h0 := HZ1.out
      have hgl := HGL.out
      have hR := (HF1.out.away a2 (by omega)).later d3
      rcases hst with ⟨a, j, rfl, hx, pj⟩ | ⟨pp, j, rfl, pj⟩
      · exact ⟨F, Lib.hid ⟨Nat.le_refl _, hA, HGL.out, by omega, hR, op, n, s, ao, la, ca, f3, .inl ⟨j, a, pj.later d3, (hx.wide (R := Rows w w2.heap.size) (fun b hb hl => ⟨by have : w1.heap.size ≤ b := hb; omega, by omega⟩)).later d3, HR.out⟩⟩⟩
      · exact ⟨0, Lib.hid ⟨Nat.zero_le _, hA, HGL.out, by omega, hR, op, n, s, ao, la, ca, f3, .inr ⟨pp, j, pj.later d3, by have := HR.out; unfold bnd at this; simpa using this.symm, rfl⟩⟩⟩
    obtain ⟨qq, HK⟩ := HK
    obtain ⟨w3, hw3⟩ : ∃ x, w2.alloc (.cells #[.int .i64 op, .int .i64 n, .string s, .slice ao la ca] 25) = x := ⟨_, rfl⟩
    rw [hw3] at HK
    clear cG a2 hst d3 f3 HD1 HF1 HZ1
    go_wp2_with fail
    obtain ⟨gA, hgA⟩ : ∃ x, w2.heap.size = x := ⟨_, rfl⟩
    rw [hgA] at HK ⊢
    clear hgA
    clear hw3 hw1
    go_loopg [4] (qq) (fun q s4 wr => Hid (KLn w0 w g gA T h cap 1 F r q wr))
    case atStart => exact HK
    case round =>
      clear HK
      obtain ⟨hqF, aw, hgl, hgA, hR, op, n, s, ao, la, ca, hA, hst⟩ := hrel.out
      have HA0 := Lib.hid hA
      have HRR0 := Lib.hid hR
      have HAW0 := Lib.hid aw
      have HGA := Lib.hid hgA
      have HQ := Lib.hid hqF
      clear hrel hqF aw hgl hgA
      rcases hst with ⟨i, a, pi, hx, hL⟩ | ⟨pp, j, pj, rfl, -⟩
      · have PI := Lib.hid pi
        have HX0 := Lib.hid hx
        clear pi hx hA hR HR
        cases hI0 : isS (T.drop i) [38] with
        | false =>
          clear HG HQ
          have hr : r = .ok (a, T.drop i) := by
            cases gk with
            | zero => rw [pL] at hL; cases hL
            | succ q0 =>
              rw [pL, opH1, hI0, if_neg (by decide)] at hL
              injection hL with hL; exact hL.symm
          subst hr
          clear hL
          have c1 := xsign_any w0 wr g T h cap i [38] (by decide) PI.out
          unfold SgE at c1
          rw [hI0] at c1
          go_wp2_with fail
          refine c1.mono ?_
          rintro e v1 ⟨rfl, a1, q1⟩
          replace q1 : XG w0 v1 g T h cap i (-1) := by simpa using q1
          replace PI := Lib.hid q1
          have HX1 := Lib.hid (HX0.out.keep (.away a1 (by intro hb; have := hb.1; have := HGL.out; omega)))
          have HA1 := Lib.hid (HA0.out.away a1 (by have := HGL.out; have := HGA.out; omega))
          have HRR1 := Lib.hid (HRR0.out.away a1 (by have := HGL.out; omega))
          have HAW1 := Lib.hid (HAW0.out.trans a1)
          clear c1 q1 a1 HX0 HA0 HRR0 HAW0
          have HR1 := Lib.hid HRR1.out
          obtain ⟨-, x0, x1, x2, x3, -⟩ := HA1.out
          obtain ⟨-, y0, y1, y2, y3, f0, f1, f2, f3⟩ := HR1.out
          go_wp2_with fail
          exact bodyPost_ret (v := EV op n s (.slice ao la ca)) (by simp [EV, results, Tryz.results70, go_sem, y0, y1, y2, y3]) rfl ⟨HAW1.out.put4 (Nat.le_refl _) _ _ _ _, op, n, s, ao, la, ca, rfl, .inl ⟨a, i, rfl, (HX1.out.keep (.set4 _ _ _ _ _ (by intro hb; have := hb.1; omega))).wide (fun b hb _ => by have := hb.1; show w.heap.size ≤ b; omega), PI.out.put4 HGL.out _ _ _ _⟩⟩
        | true =>
          cases gk with
          | zero => rw [pL] at hL; cases hL
          | succ q0 =>
          rw [pL, opH1, hI0, if_pos rfl] at hL
          replace hL : bnd (pE q0 2 (T.drop i).tail) (fun x => pL q0 1 (twoE 16 false a x.1) x.2) = some r := hL
          rw [List.tail_drop] at hL
          cases hp : pE q0 2 (T.drop (i + 1)) with
          | none => rw [hp] at hL; cases hL
          | some r2 =>
          rw [hp] at hL
          have hpF : pE F 2 (T.drop (i + 1)) = some r2 := by
            have := pE_add hp (F - q0)
            rwa [show q0 + (F - q0) = F by have := HQ.out; omega] at this
          have HL := Lib.hid hL
          have HPF := Lib.hid hpF
          clear hL hp hpF
          have c1 := xsign_any w0 wr g T h cap i [38] (by decide) PI.out
          unfold SgE at c1
          rw [hI0] at c1
          have hrl := HA0.out.lt
          go_wp2_with fail
          refine c1.mono ?_
          rintro e v1 ⟨rfl, a1, q1⟩
          replace q1 : XG w0 v1 g T h cap (i + 1) (-1) := by simpa using q1
          have As1 := Lib.hid (HAW0.out.trans a1)
          have hs1 := a1.size
          have HXs := Lib.hid (HX0.out.keep (.away a1 (by intro hb; have := hb.1; have := HGL.out; omega)))
          have HAs := Lib.hid (HA0.out.away a1 (by have := HGL.out; have := HGA.out; omega))
          have HRs := Lib.hid (HRR0.out.away a1 (by have := HGL.out; omega))
          have c2 := HG.out v1 (i + 1) r2 q1 HPF.out
          clear c1 q1 a1
          go_wp2_with fail
          refine c2.mono ?_
          rintro e w4 ⟨a2, op2, n2, s2, ao2, la2, ca2, rfl, hst⟩
          have hs2 := a2.size
          have d5 := below_alloc w4 (.cells #[.int .i64 op2, .int .i64 n2, .string s2, .slice ao2 la2 ca2] 25)
          have f5 := four_new w4 (.int .i64 op2) (.int .i64 n2) (.string s2) (.slice ao2 la2 ca2) 25
          have z5 := alloc_size w4 (.cells #[.int .i64 op2, .int .i64 n2, .string s2, .slice ao2 la2 ca2] 25)
          have HX5 := Lib.hid ((HXs.out.keep (.away a2 (by intro hb; have := hb.1; have := HGL.out; omega))).later d5)
          have hA5 := (HAs.out.away a2 (by have := HGL.out; have := HGA.out; omega)).later d5
          have HR5 := Lib.hid ((HRs.out.away a2 (by have := HGL.out; omega)).later d5)
          have A5 := Lib.hid ((As1.out.trans a2).next d5)
          have HS5 : Hid ((∃ c j, r2 = .ok (c, T.drop j) ∧ ExIn (w4.alloc (.cells #[.int .i64 op2, .int .i64 n2, .string s2, .slice ao2 la2 ca2] 25)) (Rows w gA) c (EV op2 n2 s2 (.slice ao2 la2 ca2)) ∧ XG w0 (w4.alloc (.cells #[.int .i64 op2, .int .i64 n2, .string s2, .slice ao2 la2 ca2] 25)) g T h cap j (-1)) ∨ (∃ p j : Nat, r2 = .error p ∧ XG w0 (w4.alloc (.cells #[.int .i64 op2, .int .i64 n2, .string s2, .slice ao2 la2 ca2] 25)) g T h cap j (p : Int))) := by
            refine Lib.hid ?_
            rcases hst with ⟨c, j, h1, h2, h3⟩ | ⟨p, j, h1, h3⟩
            · exact .inl ⟨c, j, h1, (h2.wide (R := Rows w gA) (fun b hb _ => ⟨by have : (v1).heap.size ≤ b := hb; have := HGA.out; omega, by have : (v1).heap.size ≤ b := hb; omega⟩)).later d5, h3.later d5⟩
            · exact .inr ⟨p, j, h1, h3.later d5⟩
          obtain ⟨w5, hw5⟩ : ∃ x, w4.alloc (.cells #[.int .i64 op2, .int .i64 n2, .string s2, .slice ao2 la2 ca2] 25) = x := ⟨_, rfl⟩
          rw [hw5] at f5 z5 HX5 hA5 HR5 A5 HS5
          have HA5 := Lib.hid hA5
          obtain ⟨-, x0, x1, x2, x3, -⟩ := hA5
          obtain ⟨-, y0, y1, y2, y3, -⟩ := f5
          have c3 := xtwo_any 16 n n2 s s2 ao ao2 la ca la2 ca2 op op2 w5
          clear c2 hst d5 a2 HXs HAs HRs As1 HX0 HA0 HRR0 HAW0
          go_wp2_with fail
          refine c3.mono ?_
          rintro e w6 ⟨b6, hb6, hl6, rfl, B6, hrow⟩
          have hA6 := HA5.out.later B6
          have HA6 := Lib.hid hA6
          obtain ⟨-, z0, z1, z2, z3, g0, g1, g2, g3⟩ := hA6
          have hs6 := B6.size
          have KB6 := Lib.hid B6
          have HROW := Lib.hid hrow
          clear c3 x0 x1 x2 x3 y0 y1 y2 y3 B6 hrow
          go_wp2_with fail
          have hgA := HGA.out
          have hgl := HGL.out
          rcases HS5.out with ⟨c, j, h1, h2, h3⟩ | ⟨p, j, h1, h3⟩
          · go_roundg q0
            case measure => omega
            case rel =>
              refine Lib.hid ⟨by have := HQ.out; omega, (A5.out.next KB6.out).put4 (by omega) _ _ _ _, hgl, hgA, (HR5.out.later KB6.out).far (by omega) _ _ _ _, 16, 0, ⟨#[]⟩, some ⟨b6, 0, none⟩, 2, 2, HA6.out.set _ _ _ _, .inl ⟨j, twoE 16 false a c, (h3.later KB6.out).put4 (by omega) _ _ _ _, ?_, ?_⟩⟩
              · refine ex_two ⟨by decide, by decide⟩ (S := Rows w gA) ⟨by omega, by omega⟩ (by rw [set4_size]; exact hl6) ?_
                exact RowIn.stays (Stays.set4 w6 _ _ _ _ (fun hb => hb.2 rfl)) _ _ _ ⟨by omega, by omega⟩ hl6 (HROW.out _ _ _ HX5.out h2)
              · have := HL.out; rw [h1] at this; exact this
          · go_roundg 0
            case measure => omega
            case rel =>
              exact Lib.hid ⟨Nat.zero_le _, (A5.out.next KB6.out).put4 (by omega) _ _ _ _, hgl, hgA, (HR5.out.later KB6.out).far (by omega) _ _ _ _, 16, 0, ⟨#[]⟩, some ⟨b6, 0, none⟩, 2, 2, HA6.out.set _ _ _ _, .inr ⟨p, j, (h3.later KB6.out).put4 (by omega) _ _ _ _, by have := HL.out; rw [h1] at this; exact (by simpa [bnd] using this.symm), rfl⟩⟩
      · have PJ := Lib.hid pj
        obtain ⟨-, x0, x1, x2, x3, -⟩ := hA
        obtain ⟨-, y0, y1, y2, y3, f0, f1, f2, f3⟩ := hR
        clear pj HG HR HQ
        have c1 := xsign_bad w0 wr g T h cap j pp ⟨#[38]⟩ PJ.out
        go_wp2_with fail
        refine c1.mono ?_
        rintro e w1 ⟨rfl, rfl⟩
        clear c1
        go_wp2_with fail
        exact bodyPost_ret (v := EV op n s (.slice ao la ca)) (by simp [EV, results, Tryz.results70, go_sem, y0, y1, y2, y3]) rfl ⟨HAW0.out.put4 (Nat.le_refl _) _ _ _ _, op, n, s, ao, la, ca, rfl, .inr ⟨pp, j, rfl, PJ.out.put4 HGL.out _ _ _ _⟩⟩
end Go.Proofs.YtjmfpgalepahoaaGreatDoor
