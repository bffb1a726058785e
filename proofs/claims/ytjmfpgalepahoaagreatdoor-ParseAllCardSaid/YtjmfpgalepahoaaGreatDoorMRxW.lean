/- The document's own parser: word. -/
import Derived.Test.YtjmfpgalepahoaaGreatDoorMRxA
namespace Go.Proofs.YtjmfpgalepahoaaGreatDoor
open Go.RowKit
theorem lit0 : ByteArray.toList ⟨#[116, 114, 117, 101]⟩ = [116, 114, 117, 101] := by decide +kernel
theorem lit1 : ByteArray.toList ⟨#[102, 97, 108, 115, 101]⟩ = [102, 97, 108, 115, 101] := by decide +kernel
theorem lit2 : ByteArray.toList ⟨#[105, 102]⟩ = [105, 102] := by decide +kernel
theorem lit3 : ByteArray.toList ⟨#[108, 101, 110]⟩ = [108, 101, 110] := by decide +kernel
theorem lit4 : ByteArray.toList ⟨#[99, 97, 116]⟩ = [99, 97, 116] := by decide +kernel
theorem lit5 : ByteArray.toList ⟨#[99, 117, 116]⟩ = [99, 117, 116] := by decide +kernel
theorem lit6 : ByteArray.toList ⟨#[117, 112]⟩ = [117, 112] := by decide +kernel
theorem lit7 : ByteArray.toList ⟨#[104, 97, 115]⟩ = [104, 97, 115] := by decide +kernel
theorem word_ne {s L : List UInt8} (h : ¬ s = L) : ((⟨s.toArray⟩ : ByteArray).toList == (⟨L.toArray⟩ : ByteArray).toList) = false := txt_ne (fun e => h (by injection e with e; exact List.toArray_inj e))
set_option maxHeartbeats 8000000 in
set_option maxRecDepth 100000 in
theorem xword_step {w0 : World} {g : Nat} {T : List Tk} {h cap F : Nat} (hX : ∀ (w : World) (i op n : Nat) r, 1 ≤ n → n ≤ 3 → op ≤ 100 → XG w0 w g T h cap i (-1) → pX F op n (T.drop i) = some r → Calls Tryz.prog 264 #[.pointer (some ⟨g, 0, none⟩), .int .i64 (op : Int), .int .i64 (n : Int)] w (XEnd w0 w g T h cap r))
    (w : World) (i : Nat) (s : List UInt8) (r : Except Nat (Ex × List Tk)) (hsl : s.length < 9223372036854775807) (p : XG w0 w g T h cap i (-1)) (hl1 : i + 1 < T.length) (hr : pW (F + 1) s (T.drop (i + 1)) = some r)
    (HH : s = wHas → pHas (T.drop (i + 1)) = some r → Calls Tryz.prog 262 #[.pointer (some ⟨g, 0, none⟩), .string ⟨s.toArray⟩] w (XEnd w0 w g T h cap r)) : Calls Tryz.prog 262 #[.pointer (some ⟨g, 0, none⟩), .string ⟨s.toArray⟩] w (XEnd w0 w g T h cap r) := by
  have hgl := p.glt
  rw [pW] at hr
  have d1 := below_alloc w (.cells #[.int .i64 0, .int .i64 0, .string ⟨#[]⟩, .slice none 0 0] 25)
  have f1 := four_new w (.int .i64 0) (.int .i64 0) (.string ⟨#[]⟩) (.slice none 0 0) 25
  have z1 := alloc_size w (.cells #[.int .i64 0, .int .i64 0, .string ⟨#[]⟩, .slice none 0 0] 25)
  obtain ⟨w1, hw1⟩ : ∃ x, w.alloc (.cells #[.int .i64 0, .int .i64 0, .string ⟨#[]⟩, .slice none 0 0] 25) = x := ⟨_, rfl⟩
  rw [hw1] at d1 f1 z1
  have p1 := p.later d1
  obtain ⟨-, y1, -, fy1, -⟩ := p1.cells
  have HP2 := Lib.hid (p1.goes (j := i + 1) (z := (i : Int) + 1) hl1 (by push_cast; rfl))
  have HF2 := Lib.hid (f1.away ((Away.refl g w1).set 1 (.int .i64 ((i : Int) + 1))) (by omega))
  have HA2 := Lib.hid ((Away.of (g := g) d1).set 1 (.int .i64 ((i : Int) + 1)))
  have HV : Hid (w.heap.size < (w1.setCell ⟨g, 1, none⟩ (.int .i64 ((i : Int) + 1))).heap.size) := Lib.hid (by rw [set_size]; omega)
  have hbig := p.big
  have hlt := p.lt
  have hwr : IntKind.i64.wrap ((i : Int) + 1) = (i : Int) + 1 := IntWalk.i64_in _ (by omega)
  have HGL := Lib.hid hgl
  have HSL := Lib.hid hsl
  obtain ⟨-, z0, z1', z2, z3, f0', f1', f2', f3'⟩ := HF2.out
  have z1 := z1'
  clear f1 d1 p1 hgl hsl z1'
  by_cases hne0 : s = wTrue
  · have hw := hne0
    rw [if_pos hne0] at hr
    clear hne0
    injection hr with hr
    have HR := Lib.hid hr
    clear hr hX HH
    have hq0 : ((⟨s.toArray⟩ : ByteArray).toList == ByteArray.toList ⟨#[116, 114, 117, 101]⟩) = true := by rw [hw]; simp
    have hp0 := hq0
    rw [lit0] at hp0
    generalize hS : (⟨s.toArray⟩ : ByteArray) = S at *
    have HS := Lib.hid hS
    clear hS p hl1 hw
    go_enter Tryz.func262, Tryz.ntmps262
    go_wp2_with fail
    have hgl := HGL.out
    refine bodyPost_ret (v := EV 3 1 ⟨#[]⟩ (.slice none 0 0)) (by simp [EV, results, Tryz.results262, go_sem, z0, z1, z2, z3]) rfl ⟨HA2.out.put4 (Nat.le_refl _) _ _ _ _, 3, 1, ⟨#[]⟩, none, 0, 0, rfl, .inl ⟨_, i + 1, HR.out.symm, ?_, HP2.out.put4 hgl _ _ _ _⟩⟩
    exact ExIn.leaf ⟨⟨by decide, by decide⟩, ⟨by decide, by decide⟩, by decide⟩
  · rw [if_neg hne0] at hr
    by_cases hne1 : s = wFalse
    · have hw := hne1
      rw [if_pos hne1] at hr
      clear hne1
      injection hr with hr
      have HR := Lib.hid hr
      clear hr hX HH
      have hq0 := word_ne hne0
      have hp0 := hq0
      rw [lit0] at hp0
      have hq1 : ((⟨s.toArray⟩ : ByteArray).toList == ByteArray.toList ⟨#[102, 97, 108, 115, 101]⟩) = true := by rw [hw]; simp
      have hp1 := hq1
      rw [lit1] at hp1
      generalize hS : (⟨s.toArray⟩ : ByteArray) = S at *
      have HS := Lib.hid hS
      clear hS p hl1 hne0 hw
      go_enter Tryz.func262, Tryz.ntmps262
      go_wp2_with fail
      have hgl := HGL.out
      refine bodyPost_ret (v := EV 3 0 ⟨#[]⟩ (.slice none 0 0)) (by simp [EV, results, Tryz.results262, go_sem, z0, z1, z2, z3]) rfl ⟨HA2.out.put4 (Nat.le_refl _) _ _ _ _, 3, 0, ⟨#[]⟩, none, 0, 0, rfl, .inl ⟨_, i + 1, HR.out.symm, ?_, HP2.out.put4 hgl _ _ _ _⟩⟩
      exact ExIn.leaf ⟨⟨by decide, by decide⟩, ⟨by decide, by decide⟩, by decide⟩
    · rw [if_neg hne1] at hr
      by_cases hne2 : s = wIf
      · have hw := hne2
        rw [if_pos hne2] at hr
        clear hne2
        have c1 := hX _ (i + 1) 18 3 r (by decide) (by decide) (by decide) HP2.out hr
        clear hr hX HH
        have hq0 := word_ne hne0
        have hp0 := hq0
        rw [lit0] at hp0
        have hq1 := word_ne hne1
        have hp1 := hq1
        rw [lit1] at hp1
        have hq2 : ((⟨s.toArray⟩ : ByteArray).toList == ByteArray.toList ⟨#[105, 102]⟩) = true := by rw [hw]; simp
        have hp2 := hq2
        rw [lit2] at hp2
        generalize hS : (⟨s.toArray⟩ : ByteArray) = S at *
        have HS := Lib.hid hS
        clear hS p hl1 hne0 hne1 hw
        go_enter Tryz.func262, Tryz.ntmps262
        go_wp2_with fail
        refine c1.mono ?_
        rintro e w4 ⟨a2, op, n, s2, ao, la, ca, rfl, hst⟩
        have hR4 := HF2.out.away a2 (by have := HGL.out; omega)
        have HR4 := Lib.hid hR4
        obtain ⟨-, t0, t1, t2, t3, g0, g1, g2, g3⟩ := hR4
        have HST := Lib.hid hst
        have AA := Lib.hid a2
        clear c1 hst a2 z0 z1 z2 z3
        go_wp2_with fail
        exact bodyPost_ret (v := EV op n s2 (.slice ao la ca)) (by simp [EV, results, Tryz.results262, go_sem, t0, t1, t2, t3]) rfl (xend_set HA2.out HGL.out HV.out AA.out HST.out _ _ _ _)
      · rw [if_neg hne2] at hr
        by_cases hne3 : s = wLen
        · have hw := hne3
          rw [if_pos hne3] at hr
          clear hne3
          have c1 := hX _ (i + 1) 19 1 r (by decide) (by decide) (by decide) HP2.out hr
          clear hr hX HH
          have hq0 := word_ne hne0
          have hp0 := hq0
          rw [lit0] at hp0
          have hq1 := word_ne hne1
          have hp1 := hq1
          rw [lit1] at hp1
          have hq2 := word_ne hne2
          have hp2 := hq2
          rw [lit2] at hp2
          have hq3 : ((⟨s.toArray⟩ : ByteArray).toList == ByteArray.toList ⟨#[108, 101, 110]⟩) = true := by rw [hw]; simp
          have hp3 := hq3
          rw [lit3] at hp3
          generalize hS : (⟨s.toArray⟩ : ByteArray) = S at *
          have HS := Lib.hid hS
          clear hS p hl1 hne0 hne1 hne2 hw
          go_enter Tryz.func262, Tryz.ntmps262
          go_wp2_with fail
          refine c1.mono ?_
          rintro e w4 ⟨a2, op, n, s2, ao, la, ca, rfl, hst⟩
          have hR4 := HF2.out.away a2 (by have := HGL.out; omega)
          have HR4 := Lib.hid hR4
          obtain ⟨-, t0, t1, t2, t3, g0, g1, g2, g3⟩ := hR4
          have HST := Lib.hid hst
          have AA := Lib.hid a2
          clear c1 hst a2 z0 z1 z2 z3
          go_wp2_with fail
          exact bodyPost_ret (v := EV op n s2 (.slice ao la ca)) (by simp [EV, results, Tryz.results262, go_sem, t0, t1, t2, t3]) rfl (xend_set HA2.out HGL.out HV.out AA.out HST.out _ _ _ _)
        · rw [if_neg hne3] at hr
          by_cases hne4 : s = wCat
          · have hw := hne4
            rw [if_pos hne4] at hr
            clear hne4
            have c1 := hX _ (i + 1) 20 2 r (by decide) (by decide) (by decide) HP2.out hr
            clear hr hX HH
            have hq0 := word_ne hne0
            have hp0 := hq0
            rw [lit0] at hp0
            have hq1 := word_ne hne1
            have hp1 := hq1
            rw [lit1] at hp1
            have hq2 := word_ne hne2
            have hp2 := hq2
            rw [lit2] at hp2
            have hq3 := word_ne hne3
            have hp3 := hq3
            rw [lit3] at hp3
            have hq4 : ((⟨s.toArray⟩ : ByteArray).toList == ByteArray.toList ⟨#[99, 97, 116]⟩) = true := by rw [hw]; simp
            have hp4 := hq4
            rw [lit4] at hp4
            generalize hS : (⟨s.toArray⟩ : ByteArray) = S at *
            have HS := Lib.hid hS
            clear hS p hl1 hne0 hne1 hne2 hne3 hw
            go_enter Tryz.func262, Tryz.ntmps262
            go_wp2_with fail
            refine c1.mono ?_
            rintro e w4 ⟨a2, op, n, s2, ao, la, ca, rfl, hst⟩
            have hR4 := HF2.out.away a2 (by have := HGL.out; omega)
            have HR4 := Lib.hid hR4
            obtain ⟨-, t0, t1, t2, t3, g0, g1, g2, g3⟩ := hR4
            have HST := Lib.hid hst
            have AA := Lib.hid a2
            clear c1 hst a2 z0 z1 z2 z3
            go_wp2_with fail
            exact bodyPost_ret (v := EV op n s2 (.slice ao la ca)) (by simp [EV, results, Tryz.results262, go_sem, t0, t1, t2, t3]) rfl (xend_set HA2.out HGL.out HV.out AA.out HST.out _ _ _ _)
          · rw [if_neg hne4] at hr
            by_cases hne5 : s = wCut
            · have hw := hne5
              rw [if_pos hne5] at hr
              clear hne5
              have c1 := hX _ (i + 1) 21 2 r (by decide) (by decide) (by decide) HP2.out hr
              clear hr hX HH
              have hq0 := word_ne hne0
              have hp0 := hq0
              rw [lit0] at hp0
              have hq1 := word_ne hne1
              have hp1 := hq1
              rw [lit1] at hp1
              have hq2 := word_ne hne2
              have hp2 := hq2
              rw [lit2] at hp2
              have hq3 := word_ne hne3
              have hp3 := hq3
              rw [lit3] at hp3
              have hq4 := word_ne hne4
              have hp4 := hq4
              rw [lit4] at hp4
              have hq5 : ((⟨s.toArray⟩ : ByteArray).toList == ByteArray.toList ⟨#[99, 117, 116]⟩) = true := by rw [hw]; simp
              have hp5 := hq5
              rw [lit5] at hp5
              generalize hS : (⟨s.toArray⟩ : ByteArray) = S at *
              have HS := Lib.hid hS
              clear hS p hl1 hne0 hne1 hne2 hne3 hne4 hw
              go_enter Tryz.func262, Tryz.ntmps262
              go_wp2_with fail
              refine c1.mono ?_
              rintro e w4 ⟨a2, op, n, s2, ao, la, ca, rfl, hst⟩
              have hR4 := HF2.out.away a2 (by have := HGL.out; omega)
              have HR4 := Lib.hid hR4
              obtain ⟨-, t0, t1, t2, t3, g0, g1, g2, g3⟩ := hR4
              have HST := Lib.hid hst
              have AA := Lib.hid a2
              clear c1 hst a2 z0 z1 z2 z3
              go_wp2_with fail
              exact bodyPost_ret (v := EV op n s2 (.slice ao la ca)) (by simp [EV, results, Tryz.results262, go_sem, t0, t1, t2, t3]) rfl (xend_set HA2.out HGL.out HV.out AA.out HST.out _ _ _ _)
            · rw [if_neg hne5] at hr
              by_cases hne6 : s = wUp
              · have hw := hne6
                rw [if_pos hne6] at hr
                clear hne6
                have c1 := hX _ (i + 1) 23 1 r (by decide) (by decide) (by decide) HP2.out hr
                clear hr hX HH
                have hq0 := word_ne hne0
                have hp0 := hq0
                rw [lit0] at hp0
                have hq1 := word_ne hne1
                have hp1 := hq1
                rw [lit1] at hp1
                have hq2 := word_ne hne2
                have hp2 := hq2
                rw [lit2] at hp2
                have hq3 := word_ne hne3
                have hp3 := hq3
                rw [lit3] at hp3
                have hq4 := word_ne hne4
                have hp4 := hq4
                rw [lit4] at hp4
                have hq5 := word_ne hne5
                have hp5 := hq5
                rw [lit5] at hp5
                have hq6 : ((⟨s.toArray⟩ : ByteArray).toList == ByteArray.toList ⟨#[117, 112]⟩) = true := by rw [hw]; simp
                have hp6 := hq6
                rw [lit6] at hp6
                generalize hS : (⟨s.toArray⟩ : ByteArray) = S at *
                have HS := Lib.hid hS
                clear hS p hl1 hne0 hne1 hne2 hne3 hne4 hne5 hw
                go_enter Tryz.func262, Tryz.ntmps262
                go_wp2_with fail
                refine c1.mono ?_
                rintro e w4 ⟨a2, op, n, s2, ao, la, ca, rfl, hst⟩
                have hR4 := HF2.out.away a2 (by have := HGL.out; omega)
                have HR4 := Lib.hid hR4
                obtain ⟨-, t0, t1, t2, t3, g0, g1, g2, g3⟩ := hR4
                have HST := Lib.hid hst
                have AA := Lib.hid a2
                clear c1 hst a2 z0 z1 z2 z3
                go_wp2_with fail
                exact bodyPost_ret (v := EV op n s2 (.slice ao la ca)) (by simp [EV, results, Tryz.results262, go_sem, t0, t1, t2, t3]) rfl (xend_set HA2.out HGL.out HV.out AA.out HST.out _ _ _ _)
              · rw [if_neg hne6] at hr
                by_cases hne7 : s = wHas
                · have hw := hne7
                  rw [if_pos hne7] at hr
                  clear hne7
                  exact HH hw hr
                · rw [if_neg hne7] at hr
                  injection hr with hr
                  have HR := Lib.hid hr
                  clear hr hX HH
                  have hq0 := word_ne hne0
                  have hp0 := hq0
                  rw [lit0] at hp0
                  have hq1 := word_ne hne1
                  have hp1 := hq1
                  rw [lit1] at hp1
                  have hq2 := word_ne hne2
                  have hp2 := hq2
                  rw [lit2] at hp2
                  have hq3 := word_ne hne3
                  have hp3 := hq3
                  rw [lit3] at hp3
                  have hq4 := word_ne hne4
                  have hp4 := hq4
                  rw [lit4] at hp4
                  have hq5 := word_ne hne5
                  have hp5 := hq5
                  rw [lit5] at hp5
                  have hq6 := word_ne hne6
                  have hp6 := hq6
                  rw [lit6] at hp6
                  have hq7 := word_ne hne7
                  have hp7 := hq7
                  rw [lit7] at hp7
                  generalize hS : (⟨s.toArray⟩ : ByteArray) = S at *
                  have HS := Lib.hid hS
                  clear hS p hl1 hne0 hne1 hne2 hne3 hne4 hne5 hne6 hne7
                  go_enter Tryz.func262, Tryz.ntmps262
                  go_wp2_with fail
                  have hgl := HGL.out
                  refine bodyPost_ret (v := EV 4 0 S (.slice none 0 0)) (by simp [EV, results, Tryz.results262, go_sem, z0, z1, z2, z3]) rfl ⟨HA2.out.put4 (Nat.le_refl _) _ _ _ _, 4, 0, S, none, 0, 0, rfl, .inl ⟨_, i + 1, HR.out.symm, ?_, HP2.out.put4 hgl _ _ _ _⟩⟩
                  rw [← HS.out]; exact ExIn.leaf ⟨⟨by decide, by decide⟩, ⟨by decide, by decide⟩, HSL.out⟩
end Go.Proofs.YtjmfpgalepahoaaGreatDoor
