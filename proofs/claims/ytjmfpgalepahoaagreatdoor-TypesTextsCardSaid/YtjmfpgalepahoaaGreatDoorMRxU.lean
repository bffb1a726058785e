/- The document's own parser: unary. -/
import Derived.Test.YtjmfpgalepahoaaGreatDoorMRxL
namespace Go.Proofs.YtjmfpgalepahoaaGreatDoor
open Go.RowKit
theorem xend_set {w0 w v w4 : World} {g : Nat} {T : List Tk} {h cap : Nat} {r : Except Nat (Ex × List Tk)} {op n : Int} {s : ByteArray} {ao : Option Addr} {la ca : Nat} (haw : Away g w v) (hgl : g < w.heap.size) (hv : w.heap.size < v.heap.size) (a2 : Away g v w4)
    (hst : (∃ a j, r = .ok (a, T.drop j) ∧ ExIn w4 (Up v.heap.size) a (EV op n s (.slice ao la ca)) ∧ XG w0 w4 g T h cap j (-1)) ∨ (∃ p j : Nat, r = .error p ∧ XG w0 w4 g T h cap j (p : Int))) (x0 x1 x2 x3 : Value) :
    XEnd w0 w g T h cap r (.returned (EV op n s (.slice ao la ca))) (set4 w4 w.heap.size x0 x1 x2 x3) := by
  refine ⟨(haw.trans a2).put4 (Nat.le_refl _) _ _ _ _, op, n, s, ao, la, ca, rfl, ?_⟩
  rcases hst with ⟨a, j, h1, h2, h3⟩ | ⟨p, j, h1, h3⟩
  · exact .inl ⟨a, j, h1, ex_set4 h2 hv (Nat.le_of_lt hv) _ _ _ _, h3.put4 hgl _ _ _ _⟩
  · exact .inr ⟨p, j, h1, h3.put4 hgl _ _ _ _⟩
set_option maxHeartbeats 4000000 in
set_option maxRecDepth 100000 in
theorem xunary_step {w0 : World} {g : Nat} {T : List Tk} {h cap F : Nat} (hU : ∀ (w : World) (i : Nat) r, XG w0 w g T h cap i (-1) → pU F (T.drop i) = some r → Calls Tryz.prog 256 #[.pointer (some ⟨g, 0, none⟩)] w (XEnd w0 w g T h cap r))
    (hA : ∀ (w : World) (i : Nat) r, XG w0 w g T h cap i (-1) → pA F (T.drop i) = some r → Calls Tryz.prog 261 #[.pointer (some ⟨g, 0, none⟩)] w (XEnd w0 w g T h cap r))
    (w : World) (i : Nat) (r : Except Nat (Ex × List Tk)) (p : XG w0 w g T h cap i (-1)) (hr : pU (F + 1) (T.drop i) = some r) : Calls Tryz.prog 256 #[.pointer (some ⟨g, 0, none⟩)] w (XEnd w0 w g T h cap r) := by
  have hgl := p.glt
  rw [pU] at hr
  have d1 := below_alloc w (.cells #[.int .i64 0, .int .i64 0, .string ⟨#[]⟩, .slice none 0 0] 25)
  have f1 := four_new w (.int .i64 0) (.int .i64 0) (.string ⟨#[]⟩) (.slice none 0 0) 25
  have z1 := alloc_size w (.cells #[.int .i64 0, .int .i64 0, .string ⟨#[]⟩, .slice none 0 0] 25)
  obtain ⟨w1, hw1⟩ : ∃ x, w.alloc (.cells #[.int .i64 0, .int .i64 0, .string ⟨#[]⟩, .slice none 0 0] 25) = x := ⟨_, rfl⟩
  rw [hw1] at d1 f1 z1
  have PI := Lib.hid (p.later d1)
  have HRR0 := Lib.hid f1
  have HAW0 : Hid (Away g w w1) := Lib.hid (Away.of d1)
  have HGL := Lib.hid hgl
  have HU := Lib.hid hU
  have HA := Lib.hid hA
  have hs0 : w.heap.size + 1 ≤ w1.heap.size := by omega
  clear f1 d1 z1 p hU hA hgl
  go_enter Tryz.func256, Tryz.ntmps256
  cases hI0 : isS (T.drop i) [45] with
  | false =>
    cases hI1 : isS (T.drop i) [33] with
    | false =>
      rw [hI0, if_neg (by decide), hI1, if_neg (by decide)] at hr
      have HL := Lib.hid hr
      clear hr
      have c1 := xsign_any w0 w1 g T h cap i [45] (by decide) PI.out
      unfold SgE at c1
      rw [hI0] at c1
      go_wp2_with fail
      refine c1.mono ?_
      rintro e v1 ⟨rfl, a1, q1⟩
      replace q1 : XG w0 v1 g T h cap i (-1) := by simpa using q1
      replace PI := Lib.hid q1
      have hs1 := Nat.le_trans hs0 a1.size
      have HRR1 := Lib.hid (HRR0.out.away a1 (by have := HGL.out; omega))
      have HAW1 := Lib.hid (HAW0.out.trans a1)
      clear c1 q1 a1 HRR0 HAW0 hs0
      have c1 := xsign_any w0 v1 g T h cap i [33] (by decide) PI.out
      unfold SgE at c1
      rw [hI1] at c1
      go_wp2_with fail
      refine c1.mono ?_
      rintro e v2 ⟨rfl, a1, q1⟩
      replace q1 : XG w0 v2 g T h cap i (-1) := by simpa using q1
      replace PI := Lib.hid q1
      have hs2 := Nat.le_trans hs1 a1.size
      have HRR2 := Lib.hid (HRR1.out.away a1 (by have := HGL.out; omega))
      have HAW2 := Lib.hid (HAW1.out.trans a1)
      clear c1 q1 a1 HRR1 HAW1 hs1
      have c2 := HA.out v2 i r PI.out HL.out
      go_wp2_with fail
      refine c2.mono ?_
      rintro e w4 ⟨a2, op, n, s, ao, la, ca, rfl, hst⟩
      have hR4 := HRR2.out.away a2 (by have := HGL.out; omega)
      obtain ⟨-, z0, z1, z2, z3, g0, g1, g2, g3⟩ := hR4
      have HST := Lib.hid hst
      have A2 := Lib.hid a2
      clear c2 hst a2
      go_wp2_with fail
      exact bodyPost_ret (v := EV op n s (.slice ao la ca)) (by simp [EV, results, Tryz.results256, go_sem, z0, z1, z2, z3]) rfl (xend_set HAW2.out HGL.out (by omega) A2.out HST.out _ _ _ _)
    | true =>
      rw [hI0, if_neg (by decide), hI1, if_pos rfl] at hr
      rw [List.tail_drop] at hr
      cases hp : pU F (T.drop (i + 1)) with
      | none => rw [hp] at hr; cases hr
      | some r2 =>
      rw [hp] at hr
      have HL := Lib.hid hr
      have HPF := Lib.hid hp
      clear hr hp
      have c1 := xsign_any w0 w1 g T h cap i [45] (by decide) PI.out
      unfold SgE at c1
      rw [hI0] at c1
      go_wp2_with fail
      refine c1.mono ?_
      rintro e v1 ⟨rfl, a1, q1⟩
      replace q1 : XG w0 v1 g T h cap i (-1) := by simpa using q1
      replace PI := Lib.hid q1
      have hs1 := Nat.le_trans hs0 a1.size
      have HRR1 := Lib.hid (HRR0.out.away a1 (by have := HGL.out; omega))
      have HAW1 := Lib.hid (HAW0.out.trans a1)
      clear c1 q1 a1 HRR0 HAW0 hs0
      have c1 := xsign_any w0 v1 g T h cap i [33] (by decide) PI.out
      unfold SgE at c1
      rw [hI1] at c1
      go_wp2_with fail
      refine c1.mono ?_
      rintro e v2 ⟨rfl, a1, q1⟩
      replace q1 : XG w0 v2 g T h cap (i + 1) (-1) := by simpa using q1
      have hs2 := Nat.le_trans hs1 a1.size
      have HRs := Lib.hid (HRR1.out.away a1 (by have := HGL.out; omega))
      have As1 := Lib.hid (HAW1.out.trans a1)
      have c2 := HU.out v2 (i + 1) r2 q1 HPF.out
      clear c1 q1 a1 HRR1 HAW1 hs1
      go_wp2_with fail
      refine c2.mono ?_
      rintro e w4 ⟨a2, op2, n2, s2, ao2, la2, ca2, rfl, hst⟩
      have hs2 := a2.size
      have d5 := below_alloc w4 (.cells #[.int .i64 op2, .int .i64 n2, .string s2, .slice ao2 la2 ca2] 25)
      have f5 := four_new w4 (.int .i64 op2) (.int .i64 n2) (.string s2) (.slice ao2 la2 ca2) 25
      have z5 := alloc_size w4 (.cells #[.int .i64 op2, .int .i64 n2, .string s2, .slice ao2 la2 ca2] 25)
      have HRf := Lib.hid ((HRs.out.away a2 (by have := HGL.out; omega)).later d5)
      have Af := Lib.hid ((As1.out.trans a2).next d5)
      have HS5 : Hid ((∃ c j, r2 = .ok (c, T.drop j) ∧ ExIn (w4.alloc (.cells #[.int .i64 op2, .int .i64 n2, .string s2, .slice ao2 la2 ca2] 25)) (fun b => w.heap.size < b) c (EV op2 n2 s2 (.slice ao2 la2 ca2)) ∧ XG w0 (w4.alloc (.cells #[.int .i64 op2, .int .i64 n2, .string s2, .slice ao2 la2 ca2] 25)) g T h cap j (-1)) ∨ (∃ p j : Nat, r2 = .error p ∧ XG w0 (w4.alloc (.cells #[.int .i64 op2, .int .i64 n2, .string s2, .slice ao2 la2 ca2] 25)) g T h cap j (p : Int))) := by
        refine Lib.hid ?_
        rcases hst with ⟨c, j, h1, h2, h3⟩ | ⟨p, j, h1, h3⟩
        · exact .inl ⟨c, j, h1, (h2.wide (R := fun b => w.heap.size < b) (fun b hb _ => by have : (v2).heap.size ≤ b := hb; show w.heap.size < b; omega)).later d5, h3.later d5⟩
        · exact .inr ⟨p, j, h1, h3.later d5⟩
      obtain ⟨w5, hw5⟩ : ∃ x, w4.alloc (.cells #[.int .i64 op2, .int .i64 n2, .string s2, .slice ao2 la2 ca2] 25) = x := ⟨_, rfl⟩
      rw [hw5] at f5 z5 HRf Af HS5
      obtain ⟨-, y0, y1, y2, y3, -⟩ := f5
      have B6 := below_alloc w5 (.cells #[.int .i64 op2, .int .i64 n2, .string s2, .slice ao2 la2 ca2] 25)
      have hl6 : w5.heap.size < (w5.alloc (.cells #[.int .i64 op2, .int .i64 n2, .string s2, .slice ao2 la2 ca2] 25)).heap.size := by rw [alloc_size]; omega
      have hR6 := HRf.out.later B6
      have HROW : Hid (∀ (S : Nat → Prop) c, ExIn w5 S c (EV op2 n2 s2 (.slice ao2 la2 ca2)) → RowIn (w5.alloc (.cells #[.int .i64 op2, .int .i64 n2, .string s2, .slice ao2 la2 ca2] 25)) S w5.heap.size 0 [c]) := Lib.hid (fun S c hc => row_one hc)
      obtain ⟨w6, hw6⟩ : ∃ x, w5.alloc (.cells #[.int .i64 op2, .int .i64 n2, .string s2, .slice ao2 la2 ca2] 25) = x := ⟨_, rfl⟩
      rw [hw6] at B6 hR6 HROW hl6
      obtain ⟨-, z0, z1, z2, z3, g0, g1, g2, g3⟩ := hR6
      have hs6 := B6.size
      have KB6 := Lib.hid B6
      clear c2 hst d5 a2 HRs B6
      go_wp2_with fail
      have hgl := HGL.out
      refine bodyPost_ret (v := EV 6 0 ⟨#[]⟩ (.slice (some ⟨w5.heap.size, 0, none⟩) 1 1)) (by simp [EV, results, Tryz.results256, go_sem, z0, z1, z2, z3]) rfl ?_
      refine ⟨(Af.out.next KB6.out).put4 (Nat.le_refl _) _ _ _ _, 6, 0, ⟨#[]⟩, some ⟨w5.heap.size, 0, none⟩, 1, 1, rfl, ?_⟩
      rcases HS5.out with ⟨c, j, h1, h2, h3⟩ | ⟨p, j, h1, h3⟩
      · refine .inl ⟨oneE 6 c, j, ?_, ?_, (h3.later KB6.out).put4 hgl _ _ _ _⟩
        · have := HL.out; rw [h1] at this; injection this with this; exact this.symm
        · refine ex_one ⟨by decide, by decide⟩ (by show w.heap.size ≤ w5.heap.size; omega) (by rw [set4_size]; exact hl6) ?_
          exact RowIn.from (fun b hb _ => by have : w.heap.size < b := hb; show w.heap.size ≤ b; omega) _ _ _ (RowIn.stays (Stays.set4 w6 _ _ _ _ (fun hb => by have : w.heap.size < w.heap.size := hb; omega)) _ _ _ (by show w.heap.size < w5.heap.size; omega) hl6 (HROW.out _ _ h2))
      · exact .inr ⟨p, j, by have := HL.out; rw [h1] at this; exact (by simpa [bnd] using this.symm), (h3.later KB6.out).put4 hgl _ _ _ _⟩
  | true =>
    rw [hI0, if_pos rfl] at hr
    rw [List.tail_drop] at hr
    cases hp : pU F (T.drop (i + 1)) with
    | none => rw [hp] at hr; cases hr
    | some r2 =>
    rw [hp] at hr
    have HL := Lib.hid hr
    have HPF := Lib.hid hp
    clear hr hp
    have c1 := xsign_any w0 w1 g T h cap i [45] (by decide) PI.out
    unfold SgE at c1
    rw [hI0] at c1
    go_wp2_with fail
    refine c1.mono ?_
    rintro e v1 ⟨rfl, a1, q1⟩
    replace q1 : XG w0 v1 g T h cap (i + 1) (-1) := by simpa using q1
    have hs1 := Nat.le_trans hs0 a1.size
    have HRs := Lib.hid (HRR0.out.away a1 (by have := HGL.out; omega))
    have As1 := Lib.hid (HAW0.out.trans a1)
    have c2 := HU.out v1 (i + 1) r2 q1 HPF.out
    clear c1 q1 a1 HRR0 HAW0 hs0
    go_wp2_with fail
    refine c2.mono ?_
    rintro e w4 ⟨a2, op2, n2, s2, ao2, la2, ca2, rfl, hst⟩
    have hs2 := a2.size
    have d5 := below_alloc w4 (.cells #[.int .i64 op2, .int .i64 n2, .string s2, .slice ao2 la2 ca2] 25)
    have f5 := four_new w4 (.int .i64 op2) (.int .i64 n2) (.string s2) (.slice ao2 la2 ca2) 25
    have z5 := alloc_size w4 (.cells #[.int .i64 op2, .int .i64 n2, .string s2, .slice ao2 la2 ca2] 25)
    have HRf := Lib.hid ((HRs.out.away a2 (by have := HGL.out; omega)).later d5)
    have Af := Lib.hid ((As1.out.trans a2).next d5)
    have HS5 : Hid ((∃ c j, r2 = .ok (c, T.drop j) ∧ ExIn (w4.alloc (.cells #[.int .i64 op2, .int .i64 n2, .string s2, .slice ao2 la2 ca2] 25)) (fun b => w.heap.size < b) c (EV op2 n2 s2 (.slice ao2 la2 ca2)) ∧ XG w0 (w4.alloc (.cells #[.int .i64 op2, .int .i64 n2, .string s2, .slice ao2 la2 ca2] 25)) g T h cap j (-1)) ∨ (∃ p j : Nat, r2 = .error p ∧ XG w0 (w4.alloc (.cells #[.int .i64 op2, .int .i64 n2, .string s2, .slice ao2 la2 ca2] 25)) g T h cap j (p : Int))) := by
      refine Lib.hid ?_
      rcases hst with ⟨c, j, h1, h2, h3⟩ | ⟨p, j, h1, h3⟩
      · exact .inl ⟨c, j, h1, (h2.wide (R := fun b => w.heap.size < b) (fun b hb _ => by have : (v1).heap.size ≤ b := hb; show w.heap.size < b; omega)).later d5, h3.later d5⟩
      · exact .inr ⟨p, j, h1, h3.later d5⟩
    obtain ⟨w5, hw5⟩ : ∃ x, w4.alloc (.cells #[.int .i64 op2, .int .i64 n2, .string s2, .slice ao2 la2 ca2] 25) = x := ⟨_, rfl⟩
    rw [hw5] at f5 z5 HRf Af HS5
    obtain ⟨-, y0, y1, y2, y3, -⟩ := f5
    have B6 := below_alloc w5 (.cells #[.int .i64 op2, .int .i64 n2, .string s2, .slice ao2 la2 ca2] 25)
    have hl6 : w5.heap.size < (w5.alloc (.cells #[.int .i64 op2, .int .i64 n2, .string s2, .slice ao2 la2 ca2] 25)).heap.size := by rw [alloc_size]; omega
    have hR6 := HRf.out.later B6
    have HROW : Hid (∀ (S : Nat → Prop) c, ExIn w5 S c (EV op2 n2 s2 (.slice ao2 la2 ca2)) → RowIn (w5.alloc (.cells #[.int .i64 op2, .int .i64 n2, .string s2, .slice ao2 la2 ca2] 25)) S w5.heap.size 0 [c]) := Lib.hid (fun S c hc => row_one hc)
    obtain ⟨w6, hw6⟩ : ∃ x, w5.alloc (.cells #[.int .i64 op2, .int .i64 n2, .string s2, .slice ao2 la2 ca2] 25) = x := ⟨_, rfl⟩
    rw [hw6] at B6 hR6 HROW hl6
    obtain ⟨-, z0, z1, z2, z3, g0, g1, g2, g3⟩ := hR6
    have hs6 := B6.size
    have KB6 := Lib.hid B6
    clear c2 hst d5 a2 HRs B6
    go_wp2_with fail
    have hgl := HGL.out
    refine bodyPost_ret (v := EV 5 0 ⟨#[]⟩ (.slice (some ⟨w5.heap.size, 0, none⟩) 1 1)) (by simp [EV, results, Tryz.results256, go_sem, z0, z1, z2, z3]) rfl ?_
    refine ⟨(Af.out.next KB6.out).put4 (Nat.le_refl _) _ _ _ _, 5, 0, ⟨#[]⟩, some ⟨w5.heap.size, 0, none⟩, 1, 1, rfl, ?_⟩
    rcases HS5.out with ⟨c, j, h1, h2, h3⟩ | ⟨p, j, h1, h3⟩
    · refine .inl ⟨oneE 5 c, j, ?_, ?_, (h3.later KB6.out).put4 hgl _ _ _ _⟩
      · have := HL.out; rw [h1] at this; injection this with this; exact this.symm
      · refine ex_one ⟨by decide, by decide⟩ (by show w.heap.size ≤ w5.heap.size; omega) (by rw [set4_size]; exact hl6) ?_
        exact RowIn.from (fun b hb _ => by have : w.heap.size < b := hb; show w.heap.size ≤ b; omega) _ _ _ (RowIn.stays (Stays.set4 w6 _ _ _ _ (fun hb => by have : w.heap.size < w.heap.size := hb; omega)) _ _ _ (by show w.heap.size < w5.heap.size; omega) hl6 (HROW.out _ _ h2))
    · exact .inr ⟨p, j, by have := HL.out; rw [h1] at this; exact (by simpa [bnd] using this.symm), (h3.later KB6.out).put4 hgl _ _ _ _⟩
end Go.Proofs.YtjmfpgalepahoaaGreatDoor
