/- The document's own Parse: what any text says, or where it is wrong. -/
import Derived.Test.YtjmfpgalepahoaaGreatDoorMRxAll
import Derived.Test.YtjmfpgalepahoaaGreatDoorHF
import Derived.Test.YtjmfpgalepahoaaGreatDoorGQ
namespace Go.Proofs.YtjmfpgalepahoaaGreatDoor
open Go.RowKit
set_option maxHeartbeats 2000000 in
set_option maxRecDepth 100000 in
theorem rparse_bad (s : ByteArray) (p f : Nat) (hf : f = 5 ∨ f = 7) (w : World) (hL : ∀ w', Below w.heap.size w w' → Calls Tryz.prog 35 #[.string s] w' fun e w'' => Below w'.heap.size w' w'' ∧ e = .returned (.tuple #[.slice none 0 0, .int .i64 (p : Int), .int .i64 (f : Int)])) :
    Calls Tryz.prog 10 #[.string s] w (PaEnd w (.error (p, f))) := by
  have hX := four_new w (.int .i64 0) (.int .i64 0) (.string ⟨#[]⟩) (.slice none 0 0) 25
  have hbX := below_alloc w (.cells #[.int .i64 0, .int .i64 0, .string ⟨#[]⟩, .slice none 0 0] 25)
  obtain ⟨wX, hwX⟩ : ∃ wX, w.alloc (.cells #[.int .i64 0, .int .i64 0, .string ⟨#[]⟩, .slice none 0 0] 25) = wX := ⟨_, rfl⟩
  rw [hwX] at hX hbX
  have c := hL wX hbX
  go_enter Tryz.func10, Tryz.ntmps10
  go_wp2_with fail
  refine c.mono ?_
  rintro e w1 ⟨b1, rfl⟩
  obtain ⟨xl, x0, x1, x2, x3, f0, f1, f2, f3⟩ := hX.later b1
  have hb1 := below_to hbX b1
  have hfz : ((f : Int) != 0) = true := by rw [bne_iff_ne]; omega
  clear hX hbX c hL hwX
  go_wp2_with fail
  exact bodyPost_ret (v := .tuple #[EV 0 0 ⟨#[]⟩ (.slice none 0 0), .int .i64 (p : Int), .int .i64 (f : Int)]) (by simp [results, Tryz.results10, go_sem, x0, x1, x2, x3]) rfl ⟨below_put4 hb1 (Nat.le_refl _) _ _ _ _, rfl⟩
set_option maxHeartbeats 8000000 in
set_option maxRecDepth 100000 in
theorem rparse_good (s : ByteArray) (ts : List Tk) (r : Except Nat (Ex × List Tk)) (w : World) (hs : s.size ≤ 400) (hl : lexL s.data.toList = .ok ts) (hr : PE 0 (ts ++ [endT s.size]) r) (hE : EnvP w) :
    Calls Tryz.prog 10 #[.string s] w (PaEnd w (endR r)) := by
  have hX := four_new w (.int .i64 0) (.int .i64 0) (.string ⟨#[]⟩) (.slice none 0 0) 25
  have hbX := below_alloc w (.cells #[.int .i64 0, .int .i64 0, .string ⟨#[]⟩, .slice none 0 0] 25)
  have hEX := hE.later hbX
  obtain ⟨wX, hwX⟩ : ∃ wX, w.alloc (.cells #[.int .i64 0, .int .i64 0, .string ⟨#[]⟩, .slice none 0 0] 25) = wX := ⟨_, rfl⟩
  rw [hwX] at hX hbX hEX
  have hG := good_tokens hl hs
  have hfew := lex_few hl
  have c : Calls Tryz.prog 35 #[.string s] wX fun e w' => Below wX.heap.size wX w' ∧ ∃ ao cap, e = .returned (.tuple #[.slice ao (ts.length + 1 : Nat) cap, .int .i64 0, .int .i64 0]) ∧ ts.length + 1 ≤ cap ∧ TkAt w' ao (ts ++ [endT s.size]) :=
    (reflex_any s wX (by omega)).mono fun e w' hh => by
      unfold LexEnd at hh
      rw [if_neg (by omega), hl] at hh
      exact hh
  have hTl : (ts ++ [endT s.size]).length = ts.length + 1 := by simp
  obtain ⟨T, hT⟩ : ∃ T, T = ts ++ [endT s.size] := ⟨_, rfl⟩
  rw [← hT] at hTl hr hG c
  obtain ⟨f, hf⟩ := hr
  have HT := Lib.hid hT
  have HE := Lib.hid hE
  have HF := Lib.hid hf
  have HG := Lib.hid hG
  clear hf hT hG hE hl hEX
  go_enter Tryz.func10, Tryz.ntmps10
  go_wp2_with fail
  refine c.mono ?_
  rintro e w1 ⟨b1, ao, cap, rfl, hcap, hat⟩
  obtain ⟨h, rfl, hh, hrow⟩ := hat (by rw [hTl]; omega)
  have hb1 := below_to hbX b1
  have hX1 := hX.later b1
  rw [← hTl] at hcap
  have d2 := below_alloc w1 (.cells #[.slice (some ⟨h, 0, none⟩) T.length cap, .int .i64 0, .int .i64 (-1), .int .i64 0] 58)
  have z2 := alloc_size w1 (.cells #[.slice (some ⟨h, 0, none⟩) T.length cap, .int .i64 0, .int .i64 (-1), .int .i64 0] 58)
  have o2 := alloc_at w1 (.cells #[.slice (some ⟨h, 0, none⟩) T.length cap, .int .i64 0, .int .i64 (-1), .int .i64 0] 58)
  obtain ⟨w2, hw2⟩ : ∃ x, w1.alloc (.cells #[.slice (some ⟨h, 0, none⟩) T.length cap, .int .i64 0, .int .i64 (-1), .int .i64 0] 58) = x := ⟨_, rfl⟩
  have HP2 : Hid (XG w1 (w1.alloc (.cells #[.slice (some ⟨h, 0, none⟩) T.length cap, .int .i64 0, .int .i64 (-1), .int .i64 0] 58)) w1.heap.size T h cap 0 (-1)) :=
    Lib.hid ⟨HE.out.later hb1, d2, Nat.le_refl _, HG.out, by omega, hcap, by omega, by decide, o2, hh, TRow.away (g := w1.heap.size) ⟨hh, hrow⟩ (Away.of d2) (by omega)⟩
  have c2 := (xall w1 w1.heap.size T h cap f).or _ 0 r HP2.out HF.out
  have HX2 := Lib.hid (hX1.later d2)
  have HB2 := Lib.hid (below_to hb1 d2)
  have hs1 := b1.size
  have hxl := hX.lt
  have HTL := Lib.hid hTl
  clear c b1 hat hrow hX hX1 hbX d2 o2 hw2 w2
  rw [hTl] at c2 HX2 HB2
  go_wp2_with fail
  refine c2.mono ?_
  rintro e w3 ⟨a3, op, n, z, ao, la, ca, rfl, hst⟩
  have hs3 := a3.size
  have d4 := below_alloc w3 (.cells #[.int .i64 op, .int .i64 n, .string z, .slice ao la ca] 25)
  have f4 := four_new w3 (.int .i64 op) (.int .i64 n) (.string z) (.slice ao la ca) 25
  obtain ⟨w4, hw4⟩ : ∃ x, w3.alloc (.cells #[.int .i64 op, .int .i64 n, .string z, .slice ao la ca] 25) = x := ⟨_, rfl⟩
  rw [hw4] at d4 f4
  have hX4 := (HX2.out.away a3 (by omega)).later d4
  have HX4 := Lib.hid hX4
  have HB4 := Lib.hid (below_to (HB2.out.trans (a3.below (by omega) (by rw [alloc_size]; omega))) d4)
  have F4 := Lib.hid f4
  rw [alloc_size] at hs3
  rcases hst with ⟨a, j, rfl, hx, pj⟩ | ⟨pp, j, rfl, pj⟩
  · have p4 := pj.later d4
    have HXX := Lib.hid ((hx.later d4).wide (R := Up (w.heap.size + 1)) (fun b hb _ => by rw [alloc_size] at hb; show w.heap.size + 1 ≤ b; have : w1.heap.size + 1 ≤ b := hb; omega))
    obtain ⟨t, ht, hd, -⟩ := p4.tok
    have cT := xtok_any w1 w4 w1.heap.size T h cap j (-1) t p4 ht
    obtain ⟨y0, y1, y2, -⟩ := p4.cells
    have P4 := Lib.hid p4
    have HT2 := Lib.hid ht
    have HW : Hid (wholeR (.ok (a, T.drop j)) = if t.k = 0 then .ok a else .error t.a) := Lib.hid (by unfold wholeR; rw [hd])
    by_cases hk : t.k = 0
    · have HR : Hid (endR (.ok (a, T.drop j)) = if chkB a then .ok a else .error (0, 7)) := Lib.hid (by unfold endR; rw [HW.out, if_pos hk])
      have hkI : ((t.k : Nat) : Int) = 0 := by rw [hk]; rfl
      rw [hkI] at cT
      have hfd0 := fun w => fld_0 0 ⟨t.s.toArray⟩ (t.n : Int) (t.a : Int) w
      have cC := fun w' (hb : Below w4.heap.size w4 w') => rcheck_any a _ _ w' (HE.out.later (below_to HB4.out hb)) (HXX.out.later hb)
      generalize (⟨t.s.toArray⟩ : ByteArray) = S1 at *
      generalize endR (.ok (a, T.drop j)) = RR at *
      clear ht hd p4 hx pj c2 a3 d4 hk hkI
      obtain ⟨-, u0, u1, u2, u3, -⟩ := f4
      clear hX4
      go_wp2_with fail
      refine cT.mono ?_
      rintro e w5 ⟨rfl, b5⟩
      obtain ⟨-, x1, x2, -⟩ := (P4.out.later b5).cells
      have cC2 := cC w5 b5
      obtain ⟨-, u0, u1, u2, u3, -⟩ := F4.out.later b5
      have HX5 := Lib.hid (HX4.out.later b5)
      have HF5 := Lib.hid (F4.out.later b5)
      have HB5 := Lib.hid (below_to HB4.out b5)
      have HXX5 := Lib.hid (HXX.out.later b5)
      clear cT cC b5 y0 y1 y2
      cases hc : chkB a with
      | false =>
        have hRR : RR = .error (0, 7) := by have := HR.out; rw [hc] at this; simpa using this
        rw [hc] at cC2
        clear HR
        subst hRR
        go_wp2_with fail
        refine cC2.mono ?_
        rintro e w6 ⟨rfl, b6⟩
        obtain ⟨-, z0, z1, z2, z3, f0, f1, f2, f3⟩ := HX5.out.later b6
        have HB := Lib.hid (below_put4 (below_to HB5.out b6) (Nat.le_refl _) (.int .i64 0) (.int .i64 0) (.string ⟨#[]⟩) (.slice none 0 0))
        clear cC2 b6
        go_wp2_with fail
        exact bodyPost_ret (v := .tuple #[EV 0 0 ⟨#[]⟩ (.slice none 0 0), .int .i64 0, .int .i64 7]) (by simp [EV, results, Tryz.results10, go_sem, z0, z1, z2, z3]) rfl ⟨HB.out, rfl⟩
      | true =>
        have hRR : RR = .ok a := by have := HR.out; rw [hc] at this; simpa using this
        rw [hc] at cC2
        clear HR
        subst hRR
        obtain ⟨ao9, c9, hev, -⟩ := HXX5.out.get
        have hla : la = a.kids.length := by
          simp only [EV, Value.agg.injEq, Array.mk.injEq, List.cons.injEq, Value.slice.injEq, and_true] at hev
          exact hev.2.2.2.2.1
        clear hev
        subst hla
        have F5 := Lib.hid (show Four w5 w3.heap.size (.int .i64 op) (.int .i64 n) (.string z) (.slice ao a.kids.length ca) from HF5.out)
        go_wp2_with fail
        refine cC2.mono ?_
        rintro e w6 ⟨rfl, b6⟩
        obtain ⟨-, z0, z1, z2, z3, f0, f1, f2, f3⟩ := HX5.out.later b6
        obtain ⟨-, v0, v1, v2, v3, -⟩ := F5.out.later b6
        have HB := Lib.hid (below_put4 (below_to HB5.out b6) (Nat.le_refl _) (.int .i64 op) (.int .i64 n) (.string z) (.slice ao a.kids.length ca))
        have HXX6 := Lib.hid ((ex_set4 (R := w.heap.size) (g := w.heap.size) (HXX5.out.later b6) (by omega) (by omega) (.int .i64 op) (.int .i64 n) (.string z) (.slice ao a.kids.length ca)))
        clear cC2 b6 u0 u1 u2 u3
        go_wp2_with fail
        exact bodyPost_ret (v := .tuple #[EV op n z (.slice ao a.kids.length ca), .int .i64 0, .int .i64 0]) (by simp [EV, results, Tryz.results10, go_sem, z0, z1, z2, z3]) rfl ⟨HB.out, op, n, z, ao, ca, rfl, HXX6.out⟩
    · have hRR : endR (.ok (a, T.drop j)) = .error (t.a, 6) := by unfold endR; rw [HW.out, if_neg hk]
      have hkb : ((t.k : Int) != 0) = true := by simp; omega
      have hkn : ¬ (t.k : Int) = 0 := by omega
      have hfd0 := fun w => fld_0 (t.k : Int) ⟨t.s.toArray⟩ (t.n : Int) (t.a : Int) w
      have cW := fun w' (q : XG w1 w' w1.heap.size T h cap j (-1)) => xwrong_any w1 w' w1.heap.size T h cap j t q ht
      generalize (⟨t.s.toArray⟩ : ByteArray) = S1 at *
      generalize endR (.ok (a, T.drop j)) = RR at *
      subst hRR
      clear ht hd p4 hx pj c2 a3 d4 hk hX4 HW f4
      go_wp2_with fail
      refine cT.mono ?_
      rintro e w5 ⟨rfl, b5⟩
      have p5 := P4.out.later b5
      obtain ⟨-, x1, x2, -⟩ := p5.cells
      have c6 := cW w5 p5
      have HX5 := Lib.hid (HX4.out.later b5)
      have HB5 := Lib.hid (below_to HB4.out b5)
      clear cT cW b5 y0 y1 y2 p5
      go_wp2_with fail
      refine c6.mono ?_
      rintro e w6 ⟨rfl, a6, q6⟩
      obtain ⟨-, x1, x2, -⟩ := q6.cells
      have hpn : ¬ ((t.a : Nat) : Int) < 0 := by omega
      have hpn2 : (0 : Int) ≤ ((t.a : Nat) : Int) := by omega
      obtain ⟨-, z0, z1, z2, z3, f0, f1, f2, f3⟩ := HX5.out.away a6 (by omega)
      have HB := Lib.hid (below_put4 (HB5.out.trans (a6.below (by omega) HB5.out.size)) (Nat.le_refl _) (.int .i64 0) (.int .i64 0) (.string ⟨#[]⟩) (.slice none 0 0))
      clear c6 q6 a6
      go_wp2_with fail
      go_region
      go_wp2
      exact bodyPost_ret (v := .tuple #[EV 0 0 ⟨#[]⟩ (.slice none 0 0), .int .i64 (t.a : Int), .int .i64 6]) (by simp [EV, results, Tryz.results10, go_sem, z0, z1, z2, z3]) rfl ⟨HB.out.drew, rfl⟩
  · have p4 := pj.later d4
    obtain ⟨y0, y1, y2, -⟩ := p4.cells
    have hpn : ¬ ((pp : Nat) : Int) < 0 := by omega
    have hpn2 : (0 : Int) ≤ ((pp : Nat) : Int) := by omega
    obtain ⟨-, z0, z1, z2, z3, f0, f1, f2, f3⟩ := hX4
    have HB := Lib.hid (below_put4 HB4.out (Nat.le_refl _) (.int .i64 0) (.int .i64 0) (.string ⟨#[]⟩) (.slice none 0 0))
    clear p4 pj c2 a3 d4
    go_wp2_with fail
    go_region
    go_wp2
    exact bodyPost_ret (v := .tuple #[EV 0 0 ⟨#[]⟩ (.slice none 0 0), .int .i64 (pp : Int), .int .i64 6]) (by simp [EV, results, Tryz.results10, go_sem, z0, z1, z2, z3]) rfl ⟨HB.out.drew, rfl⟩
/-- palaverref07.Parse. -/
theorem rparseF_any (s : ByteArray) (R : Except (Nat × Nat) Ex) (w : World) (hs : s.size ≤ 1099511627776) (hE : EnvP w) (h : Says s.data.toList R) :
    Calls Tryz.prog 10 #[.string s] w (PaEnd w R) := by
  unfold Says at h
  rw [size_list] at h
  rcases h with ⟨h1, rfl⟩ | ⟨h1, ⟨p, h2, rfl⟩ | ⟨ts, r, h2, h3, rfl⟩⟩
  · exact rparse_bad s 400 7 (.inr rfl) w fun w' hb => (reflex_any s w' hs).mono fun e w'' hh => by
      unfold LexEnd at hh
      rw [if_pos h1] at hh
      exact hh
  · exact rparse_bad s p 5 (.inl rfl) w fun w' hb => (reflex_any s w' hs).mono fun e w'' hh => by
      unfold LexEnd at hh
      rw [if_neg (by omega), h2] at hh
      exact hh
  · exact rparse_good s ts r w h1 h2 h3 hE
end Go.Proofs.YtjmfpgalepahoaaGreatDoor
