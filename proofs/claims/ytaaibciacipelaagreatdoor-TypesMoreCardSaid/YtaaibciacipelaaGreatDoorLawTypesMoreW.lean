/- The statement TypesMore: names that an expression does not have turn nothing. Conditions: none but what the card ties (the library's variables, and the table of forms, hold what their texts lay). -/
import Derived.Test.YtaaibciacipelaaGreatDoorGR
import Derived.Test.YtaaibciacipelaaGreatDoorHD
import Derived.Test.YtaaibciacipelaaGreatDoorGX
import Derived.Test.YtaaibciacipelaaGreatDoorHF
import Derived.Test.YtaaibciacipelaaGreatDoorMTyMr
import Derived.Test.YtaaibciacipelaaGreatDoorMTyAwk
namespace Go.Proofs.YtaaibciacipelaaGreatDoor
open Go.RowKit

theorem few8_any (A B : Option Addr) (l c m d : Nat) (w : World) : Calls Tryz.prog 10 #[.slice A l c, .slice B m d] w fun e w' => e = .returned (.bool (decide (l ≤ 50 ∧ m ≤ 50))) ∧ w = w' := by
  by_cases h1 : l ≤ 50
  · have h1z : (l : Int) ≤ 50 := by omega
    by_cases h2 : m ≤ 50
    · have h2z : (m : Int) ≤ 50 := by omega
      rw [decide_eq_true ⟨h1, h2⟩]
      go_enter Tryz.func10, Tryz.ntmps10
      go_wp2_with fail
      go_ret
      exact ⟨rfl, rfl⟩
    · have h2z : ¬ (m : Int) ≤ 50 := by omega
      rw [decide_eq_false (fun h => h2 h.2)]
      go_enter Tryz.func10, Tryz.ntmps10
      go_wp2_with fail
      go_ret
      exact ⟨rfl, rfl⟩
  · have h1z : ¬ (l : Int) ≤ 50 := by omega
    rw [decide_eq_false (fun h => h1 h.1)]
    go_enter Tryz.func10, Tryz.ntmps10
    go_wp2_with fail
    go_ret
    exact ⟨rfl, rfl⟩
set_option maxHeartbeats 16000000 in
set_option maxRecDepth 1000000 in
theorem typesmore_walk (v0 : Value) (e : Ex) (A : Option Addr) (L : List ByteArray) (cA : Nat) (C : Option Addr) (Z : List Int) (cC : Nat) (more : ByteArray) (t : Int) (w : World) (he : ExIn w (fun _ => True) e v0)
    (_lA : L.length ≤ cA) (mA : L.length ≤ 140737488351232) (hN : Ts w A L) (qA : A = none → cA = 0) (_lC : Z.length ≤ cC) (mC : cC ≤ 17592186044416) (hZ : Is w C Z) (_bZ : ∀ z ∈ Z, -9223372036854775808 ≤ z ∧ z ≤ 9223372036854775807) (qC : C = none → cC = 0)
    (_sm : more.size ≤ 9223372036854775807) (_t0 : -9223372036854775808 ≤ t) (_t1 : t ≤ 9223372036854775807) (hE0 : EnvP w) :
    Calls Tryz.prog 3 #[v0, .slice A L.length cA, .slice C Z.length cC, .string more, .int .i64 t] w fun en w' => en = .returned (.bool true) ∧ Below w.heap.size w w' := by
  have HQA := Lib.hid qA
  have HQC := Lib.hid qC
  obtain ⟨ao, cap, rfl, -⟩ := he.get
  have d1 := below_alloc w (.cells #[.int .i64 e.op, .int .i64 e.num, .string ⟨e.str.toArray⟩, .slice ao e.kids.length cap] 24)
  have x1 := four_new w (.int .i64 e.op) (.int .i64 e.num) (.string ⟨e.str.toArray⟩) (.slice ao e.kids.length cap) 24
  have h0 := he.later d1
  have hn := hN.below d1
  have hz := hZ.below d1
  have hE2 := hE0.later d1
  obtain ⟨w0, hw0⟩ : ∃ x, w.alloc (.cells #[.int .i64 e.op, .int .i64 e.num, .string ⟨e.str.toArray⟩, .slice ao e.kids.length cap] 24) = x := ⟨_, rfl⟩
  rw [hw0] at x1 d1 h0 hn hz hE2
  have HX0 := Lib.hid x1
  have HV0 := Lib.hid h0
  have HN := Lib.hid hn
  have HZ := Lib.hid hz
  have HEE := Lib.hid hE2
  have HB0 := Lib.hid d1
  obtain ⟨-, y0, y1, y2, y3, -⟩ := x1
  clear d1 h0 hn hz hE2 hE0 he hN hZ qA qC mA mC _lA _lC _bZ _sm _t0 _t1
  go_enter Tryz.func3, Tryz.ntmps3
  go_wp2_with fail
  (with_reducible refine (tinyE_any e _ _ w0 HV0.out).mono ?_)
  rintro en w1 ⟨b, rfl, d, hb⟩
  have B1 := Lib.hid d
  have HND := Lib.hid hb
  clear d y0 y1 y2 y3 hw0 hb
  cases b with
  | false =>
    have caw := tyawake_any w1 (HEE.out.later (B1.out))
    go_wp2_with fail
    (with_reducible refine caw.mono ?_)
    rintro en wz ⟨rfl, bz⟩
    have HBF := Lib.hid (below_to (below_to HB0.out (B1.out)) bz)
    clear bz caw
    go_wp2_with fail
    go_ret
    exact ⟨rfl, HBF.out⟩
  | true =>
    have cc := rcheck_any e _ _ w1 (HEE.out.later B1.out) (HV0.out.later B1.out)
    obtain ⟨-, y0, y1, y2, y3, -⟩ := HX0.out.later B1.out
    cases hce : chkB e with
    | false =>
      rw [hce] at cc
      clear hce
      go_wp2_with fail
      (with_reducible refine cc.mono ?_)
      rintro en w2 ⟨rfl, d⟩
      have B2 := Lib.hid (below_to B1.out d)
      clear d cc y0 y1 y2 y3
      have caw := tyawake_any w2 (HEE.out.later (B2.out))
      go_wp2_with fail
      (with_reducible refine caw.mono ?_)
      rintro en wz ⟨rfl, bz⟩
      have HBF := Lib.hid (below_to (below_to HB0.out (B2.out)) bz)
      clear bz caw
      go_wp2_with fail
      go_ret
      exact ⟨rfl, HBF.out⟩
    | true =>
      rw [hce] at cc
      clear hce
      go_wp2_with fail
      (with_reducible refine cc.mono ?_)
      rintro en w2 ⟨rfl, d⟩
      have B2 := Lib.hid (below_to B1.out d)
      clear d cc y0 y1 y2 y3
      have cF := few8_any A C L.length cA Z.length cC w2
      by_cases hf : L.length ≤ 50 ∧ Z.length ≤ 50
      case neg =>
        rw [decide_eq_false hf] at cF
        clear hf
        go_wp2_with fail
        (with_reducible refine cF.mono ?_)
        rintro en w3 ⟨rfl, rfl⟩
        clear cF
        have caw := tyawake_any w2 (HEE.out.later (B2.out))
        go_wp2_with fail
        (with_reducible refine caw.mono ?_)
        rintro en wz ⟨rfl, bz⟩
        have HBF := Lib.hid (below_to (below_to HB0.out (B2.out)) bz)
        clear bz caw
        go_wp2_with fail
        go_ret
        exact ⟨rfl, HBF.out⟩
      case pos =>
        rw [decide_eq_true hf] at cF
        have HF := Lib.hid hf
        clear hf
        go_wp2_with fail
        (with_reducible refine cF.mono ?_)
        rintro en w3 ⟨rfl, rfl⟩
        clear cF
        by_cases hzl : L.length = Z.length
        case neg =>
          have hzb : ((L.length : Int) != (Z.length : Int)) = true := by simp; omega
          have hzn : ¬ (L.length : Int) = (Z.length : Int) := by omega
          clear hzl
          have caw := tyawake_any w2 (HEE.out.later (B2.out))
          go_wp2_with fail
          (with_reducible refine caw.mono ?_)
          rintro en wz ⟨rfl, bz⟩
          have HBF := Lib.hid (below_to (below_to HB0.out (B2.out)) bz)
          clear bz caw
          go_wp2_with fail
          go_ret
          exact ⟨rfl, HBF.out⟩
        case pos =>
          have hzb : ((L.length : Int) != (Z.length : Int)) = false := by simp; omega
          have HZL := Lib.hid hzl
          clear hzl
          have c3 := names_all (nodes e) e (Nat.le_refl _) (by have := (HND.out (by trivial)).1; omega) _ _ w2 (HV0.out.later B2.out)
          obtain ⟨-, y0, y1, y2, y3, -⟩ := HX0.out.later B2.out
          go_wp2_with fail
          (with_reducible refine c3.mono ?_)
          rintro en w3 ⟨d, v3, M, rfl, hM, hml, hmem⟩
          have HMB := Lib.hid (show M.length ≤ 1000 by have := nm_len e; have := (HND.out (by trivial)).1; omega)
          have B3 := Lib.hid (below_to B2.out d)
          obtain ⟨am, cm, rfl, hM3⟩ := hM.cap
          have HM := Lib.hid hM3
          have HMEM := Lib.hid hmem
          clear d c3 y0 y1 y2 y3 hM3 hmem hM hml hzb
          go_wp2_with fail
          go_loopg [12] (M.length) (fun q s12 wr => ∃ k : Nat, k + q = M.length ∧ s12 = .int .i64 (k : Int) ∧ wr = w3 ∧ Hid (∀ x ∈ M.take k, x ≠ more))
          case atStart => exact ⟨0, by omega, rfl, rfl, Lib.hid (by simp)⟩
          case round =>
            obtain ⟨k, hkq, rfl, hw, HH⟩ := hrel
            subst hw
            have HKQ := Lib.hid hkq
            have hMb := HMB.out
            by_cases hk : k < M.length
            · have hkz : (k : Int) < (M.length : Int) := by omega
              have hk0 : (0 : Int) ≤ (k : Int) := by omega
              obtain ⟨bm, om, rfl, hcm⟩ := HM.out (by omega)
              have hcell := hcm k hk
              rw [List.getD_eq_getElem?_getD, List.getElem?_eq_getElem hk, Option.getD_some] at hcell
              have HTK := Lib.hid (show M.take (k + 1) = M.take k ++ [M[k]] by rw [List.take_add_one, List.getElem?_eq_getElem hk]; rfl)
              generalize M[k] = x at *
              clear hcm hkq
              by_cases hxn : x = more
              · subst hxn
                have hqq : (x.toList == x.toList) = true := by simp
                have caw := tyawake_any _ (HEE.out.later B3.out)
                go_wp2_with fail
                (with_reducible refine caw.mono ?_)
                rintro en wz ⟨rfl, bz⟩
                have HBF := Lib.hid (below_to (below_to HB0.out B3.out) bz)
                clear bz caw
                go_wp2_with fail
                exact bodyPost_ret (v := .bool true) (by simp [results, Tryz.results3, go_sem]) rfl ⟨rfl, HBF.out⟩
              · have hqq : (x.toList == more.toList) = false := txt_ne hxn
                have HN2 := Lib.hid (show ∀ y ∈ M.take (k + 1), y ≠ more from fun y hy => by
                  rw [HTK.out] at hy
                  rcases List.mem_append.1 hy with h | h
                  · exact HH.out y h
                  · rw [List.mem_singleton.1 h]; exact hxn)
                go_wp2_with fail
                go_roundg (M.length - (k + 1))
                case measure => have := HKQ.out; omega
                case rel => exact ⟨k + 1, by have := HKQ.out; omega, by go_num, rfl, HN2⟩
            · have hkz : ¬ (k : Int) < (M.length : Int) := by omega
              have HNOT := Lib.hid (show more ∉ nmE e from fun h => by
                have := HH.out more (by rw [List.take_of_length_le (by omega)]; exact (HMEM.out _).2 h)
                exact this rfl)
              have hL5 : L.length ≤ 50 := HF.out.1
              have hZ5 : Z.length ≤ 50 := HF.out.2
              have c9 := types_any L Z A C cA cC (by omega) (by omega) e _ _ wr (HEE.out.later B3.out) (HV0.out.later B3.out) (HN.out.below B3.out) (HZ.out.below B3.out)
              obtain ⟨-, y0, y1, y2, y3, -⟩ := HX0.out.later B3.out
              obtain ⟨T0, hT0⟩ : ∃ x, tyN (ofE L Z e) = x := ⟨_, rfl⟩
              obtain ⟨T1, hT1⟩ : ∃ x, tyF (ofE L Z e) = x := ⟨_, rfl⟩
              have HT0 := Lib.hid hT0
              have HT1 := Lib.hid hT1
              simp only [tyV, hT0, hT1] at c9
              clear hkq hT0 hT1
              go_wp2_with fail
              (with_reducible refine c9.mono ?_)
              rintro en w4 ⟨rfl, d⟩
              have B4 := Lib.hid (below_to B3.out d)
              clear d c9 y0 y1 y2 y3
              go_wp2_with fail
              obtain ⟨i0, hi, hz0, hz1, hz2⟩ := info_parts (show (Tryz.prog.info? 9).map (fun i => (i.zero, i.size, i.bytes)) = some (some (.string ⟨#[]⟩), 1, 16) by kernel_rfl)
              obtain ⟨j0, hj, hj0, hj1, hj2⟩ := info_parts (show (Tryz.prog.info? 3).map (fun i => (i.zero, i.size, i.bytes)) = some (some (.int .i64 0), 1, 8) by kernel_rfl)
              obtain ⟨V0, hV0⟩ : ∃ V, EV e.op e.num ⟨e.str.toArray⟩ (.slice ao e.kids.length cap) = V := ⟨_, rfl⟩
              have HVV := Lib.hid hV0
              clear hV0
              refine wp_region_inv 15 112 [64, 65, 66, 67, 68, 69, 70, 71, 72, 73, 63, 74, 75, 15, 16] (TMa V0 more t A L cA C Z cC T0 T1) (by kernel_rfl) rfl (by kernel_rfl) (TMa.keep V0 more t A L cA C Z cC T0 T1) ?step ?last ?done
              case last => intro o ho; cases ho
              case step =>
                refine ⟨?_, ?_, ?_, ?_, ?_, ?_, ?_, ?_, ?_, ?_, ?_, ?_, ?_, ?_, ?_, trivial⟩
                · intro a wq hF hB hdep K hK
                  have e5 : a.tmps[5]?.getD undef = .pointer (some ⟨w.heap.size, 0, none⟩) := hF.at 5 (by decide)
                  obtain ⟨-, y0, y1, y2, y3, -⟩ := HX0.out.later (below_to B4.out hB)
                  go_simp
                  exact hK.out (EV e.op e.num ⟨e.str.toArray⟩ (.slice ao e.kids.length cap)) _ (Below.refl _ _) HVV.out
                · intro a wq hF hB hdep K hK
                  have e3 : a.tmps[3]?.getD undef = .string more := hF.at 3 (by decide)
                  go_simp
                  exact hK.out _ _ (Below.refl _ _) rfl
                · intro a wq hF hB hdep K hK
                  have e65 : a.tmps[65]?.getD undef = .string more := (slot_opt a 65).trans (hdep 1 (by kernel_rfl))
                  go_simp
                  exact hK.out _ _ (below_alloc _ _) ⟨wq.heap.size, rfl, alloc_at wq _⟩
                · intro a wq hF hB hdep K hK
                  have e1 : a.tmps[1]?.getD undef = .slice A L.length cA := hF.at 1 (by decide)
                  go_simp
                  exact hK.out _ _ (Below.refl _ _) rfl
                · intro a wq hF hB hdep K hK
                  obtain ⟨g, h66, hg⟩ := hdep 2 (by kernel_rfl)
                  have h67 : slot a 67 = .slice A L.length cA := hdep 3 (by kernel_rfl)
                  exact wp_app_one (f := fun s => .string s) (d := ByteArray.empty) (.tmp 66) (.tmp 67) 25 9 rfl i0 _ Tryz.underlying25 hi hz0 hz1 (by rw [hz2]; decide) more L (by omega) g hg A cA (HN.out.below (below_to B4.out hB)) HQA.out h66 h67 (fun ao c w5 hb hels => hK.out _ _ hb ⟨ao, c, rfl, hels⟩)
                · intro a wq hF hB hdep K hK
                  have e4 : a.tmps[4]?.getD undef = .int .i64 t := hF.at 4 (by decide)
                  go_simp
                  exact hK.out _ _ (Below.refl _ _) rfl
                · intro a wq hF hB hdep K hK
                  have e69 : a.tmps[69]?.getD undef = .int .i64 t := (slot_opt a 69).trans (hdep 5 (by kernel_rfl))
                  go_simp
                  exact hK.out _ _ (below_alloc _ _) ⟨wq.heap.size, rfl, alloc_at wq _⟩
                · intro a wq hF hB hdep K hK
                  have e2 : a.tmps[2]?.getD undef = .slice C Z.length cC := hF.at 2 (by decide)
                  go_simp
                  exact hK.out _ _ (Below.refl _ _) rfl
                · intro a wq hF hB hdep K hK
                  obtain ⟨g, h70, hg⟩ := hdep 6 (by kernel_rfl)
                  have h71 : slot a 71 = .slice C Z.length cC := hdep 7 (by kernel_rfl)
                  exact wp_app_one (f := fun z => .int .i64 z) (d := (0 : Int)) (.tmp 70) (.tmp 71) 26 3 rfl j0 _ Tryz.underlying26 hj hj0 hj1 (by rw [hj2]; decide) t Z (by omega) g hg C cC (HZ.out.below (below_to B4.out hB)) HQC.out h70 h71 (fun ao c w5 hb hels => hK.out _ _ hb ⟨ao, c, rfl, hels⟩)
                · intro a wq hF hB hdep K hK
                  obtain ⟨an, cn, h68, hn⟩ := hdep 4 (by kernel_rfl)
                  obtain ⟨az, cz, h72, hz⟩ := hdep 8 (by kernel_rfl)
                  have e64 : a.tmps[64]?.getD undef = V0 := (slot_opt a 64).trans (hdep 0 (by kernel_rfl))
                  have e68 : a.tmps[68]?.getD undef = .slice an (L.length + 1) cn := (slot_opt a 68).trans h68
                  have e72 : a.tmps[72]?.getD undef = .slice az (Z.length + 1) cz := (slot_opt a 72).trans h72
                  have c := types_any (more :: L) (t :: Z) an az cn cz (by rw [List.length_cons]; omega) (by rw [List.length_cons]; omega) e _ _ wq (HEE.out.later (below_to B4.out hB)) (HV0.out.later (below_to B4.out hB)) hn hz
                  rw [of_cons t HNOT.out] at c
                  simp only [tyV, HT0.out, HT1.out, HVV.out] at c
                  go_simp
                  refine c.mono ?_
                  rintro en w5 ⟨rfl, b5⟩
                  exact hK.out _ _ b5 rfl
                · intro a wq hF hB hdep K hK
                  have e73 : a.tmps[73]?.getD undef = .tuple #[.int .i64 T0, .int .i64 T1] := (slot_opt a 73).trans (hdep 9 (by kernel_rfl))
                  go_simp
                  exact hK.out _ _ (Below.refl _ _) rfl
                · intro a wq hF hB hdep K hK
                  have e63 : a.tmps[63]?.getD undef = .tuple #[.int .i64 T0, .int .i64 T1] := (slot_opt a 63).trans (hdep 10 (by kernel_rfl))
                  go_simp
                  exact hK.out _ _ (Below.refl _ _) rfl
                · intro a wq hF hB hdep K hK
                  have e63 : a.tmps[63]?.getD undef = .tuple #[.int .i64 T0, .int .i64 T1] := (slot_opt a 63).trans (hdep 10 (by kernel_rfl))
                  go_simp
                  exact hK.out _ _ (Below.refl _ _) rfl
                · intro a wq hF hB hdep K hK
                  have e74 : a.tmps[74]?.getD undef = .int .i64 T0 := (slot_opt a 74).trans (hdep 11 (by kernel_rfl))
                  go_simp
                  exact hK.out _ _ (Below.refl _ _) rfl
                · intro a wq hF hB hdep K hK
                  have e75 : a.tmps[75]?.getD undef = .int .i64 T1 := (slot_opt a 75).trans (hdep 12 (by kernel_rfl))
                  go_simp
                  exact hK.out _ _ (Below.refl _ _) rfl
              case done =>
                intro _ a wz hF hB hI
                have h15 := hI 13 (by decide)
                have h16 := hI 14 (by decide)
                have hl := hF.lit
                obtain ⟨σ, hσ⟩ : ∃ σ, slot a = σ := ⟨_, rfl⟩
                rw [hσ] at hl h15 h16
                have h15 : σ 15 = .int .i64 T0 := h15
                have h16 : σ 16 = .int .i64 T1 := h16
                clear hσ hI hF
                subst hl
                simp only [lay, List.foldl_cons, List.foldl_nil, List.setIfInBounds_toArray, List.set_cons_zero, List.set_cons_succ, h15, h16]
                have B5 := Lib.hid (below_to B4.out hB)
                clear hB h15 h16
                go_wp2_with fail
                refine wp_region_use 112 [77, 78, 79, 80, 81, 82, 83, 84, 85, 86, 87, 88, 76, 89, 90, 17, 18] useM (TMb V0 more t A L cA C Z cC T0 T1 wz.heap.size) (by kernel_rfl) rfl (by kernel_rfl) (fun k j h => ?hul) ?step ?done
                case hul =>
                  unfold useM at h
                  simp only [Bool.or_eq_true, Bool.and_eq_true, beq_iff_eq] at h
                  show k < 17
                  omega
                case step =>
                  refine ⟨?_, ?_, ?_, ?_, ?_, ?_, ?_, ?_, ?_, ?_, ?_, ?_, ?_, ?_, ?_, ?_, ?_, trivial⟩
                  · intro a wq hF hB hdep K hK
                    have e5 : a.tmps[5]?.getD undef = .pointer (some ⟨w.heap.size, 0, none⟩) := hF.at 5 (by decide)
                    obtain ⟨-, y0, y1, y2, y3, -⟩ := HX0.out.later (below_to B5.out hB)
                    go_simp
                    exact hK.out (EV e.op e.num ⟨e.str.toArray⟩ (.slice ao e.kids.length cap)) _ (below_to hB (Below.refl _ _)) (fun j u _ _ h => TMb.keep V0 more t A L cA C Z cC T0 T1 wz.heap.size j u _ _ (Below.refl _ _) h) HVV.out
                  · intro a wq hF hB hdep K hK
                    have e1 : a.tmps[1]?.getD undef = .slice A L.length cA := hF.at 1 (by decide)
                    go_simp
                    exact hK.out _ _ (below_to hB (Below.refl _ _)) (fun j u _ _ h => TMb.keep V0 more t A L cA C Z cC T0 T1 wz.heap.size j u _ _ (Below.refl _ _) h) rfl
                  · intro a wq hF hB hdep K hK
                    have e78 : a.tmps[78]?.getD undef = .slice A L.length cA := (slot_opt a 78).trans (hdep 1 (by kernel_rfl))
                    have c := texts2_any A L cA wq (by omega) (HN.out.below (below_to B5.out hB)) HQA.out
                    go_simp
                    refine c.mono ?_
                    rintro en w5 ⟨an, cn, rfl, hown, hnil, b5⟩
                    exact hK.out _ _ (below_to hB b5) (fun j u _ _ h => TMb.keep V0 more t A L cA C Z cC T0 T1 wz.heap.size j u _ _ b5 h) ⟨an, cn, rfl, own_base hown hB.size, hnil⟩
                  · intro a wq hF hB hdep K hK
                    have e3 : a.tmps[3]?.getD undef = .string more := hF.at 3 (by decide)
                    go_simp
                    exact hK.out _ _ (below_to hB (Below.refl _ _)) (fun j u _ _ h => TMb.keep V0 more t A L cA C Z cC T0 T1 wz.heap.size j u _ _ (Below.refl _ _) h) rfl
                  · intro a wq hF hB hdep K hK
                    have e80 : a.tmps[80]?.getD undef = .string more := (slot_opt a 80).trans (hdep 3 (by kernel_rfl))
                    go_simp
                    exact hK.out _ _ (below_to hB (below_alloc _ _)) (fun j u _ _ h => TMb.keep V0 more t A L cA C Z cC T0 T1 wz.heap.size j u _ _ (below_alloc _ _) h) ⟨wq.heap.size, rfl, alloc_at wq _⟩
                  · intro a wq hF hB hdep K hK
                    obtain ⟨an, cn, h79, hown, hnil⟩ := hdep 2 (by kernel_rfl)
                    obtain ⟨g, h81, hg⟩ := hdep 4 (by kernel_rfl)
                    exact wp_app_own (f := fun s => .string s) (.tmp 79) (.tmp 81) 25 9 rfl i0 _ Tryz.underlying25 hi hz0 hz1 (by rw [hz2]; decide) (fun _ => rfl) more L (by omega) g hg wz.heap.size _ hown hnil rfl h81 (fun ao c w5 hu hrow => hK.out _ _ (hu.below hB) (fun j u hj hus h => TMb.strs V0 more t A L cA C Z cC T0 T1 wz.heap.size j u _ _ hu hus h hj) ⟨ao, c, rfl, hrow⟩)
                  · intro a wq hF hB hdep K hK
                    have e2 : a.tmps[2]?.getD undef = .slice C Z.length cC := hF.at 2 (by decide)
                    go_simp
                    exact hK.out _ _ (below_to hB (Below.refl _ _)) (fun j u _ _ h => TMb.keep V0 more t A L cA C Z cC T0 T1 wz.heap.size j u _ _ (Below.refl _ _) h) rfl
                  · intro a wq hF hB hdep K hK
                    have e83 : a.tmps[83]?.getD undef = .slice C Z.length cC := (slot_opt a 83).trans (hdep 6 (by kernel_rfl))
                    have c := ints2_any C Z cC wq (by omega) (HZ.out.below (below_to B5.out hB)) HQC.out
                    go_simp
                    refine c.mono ?_
                    rintro en w5 ⟨an, cn, rfl, hown, hnil, b5⟩
                    exact hK.out _ _ (below_to hB b5) (fun j u _ _ h => TMb.keep V0 more t A L cA C Z cC T0 T1 wz.heap.size j u _ _ b5 h) ⟨an, cn, rfl, own_base hown hB.size, hnil⟩
                  · intro a wq hF hB hdep K hK
                    have e4 : a.tmps[4]?.getD undef = .int .i64 t := hF.at 4 (by decide)
                    go_simp
                    exact hK.out _ _ (below_to hB (Below.refl _ _)) (fun j u _ _ h => TMb.keep V0 more t A L cA C Z cC T0 T1 wz.heap.size j u _ _ (Below.refl _ _) h) rfl
                  · intro a wq hF hB hdep K hK
                    have e85 : a.tmps[85]?.getD undef = .int .i64 t := (slot_opt a 85).trans (hdep 8 (by kernel_rfl))
                    go_simp
                    exact hK.out _ _ (below_to hB (below_alloc _ _)) (fun j u _ _ h => TMb.keep V0 more t A L cA C Z cC T0 T1 wz.heap.size j u _ _ (below_alloc _ _) h) ⟨wq.heap.size, rfl, alloc_at wq _⟩
                  · intro a wq hF hB hdep K hK
                    obtain ⟨an, cn, h84, hown, hnil⟩ := hdep 7 (by kernel_rfl)
                    obtain ⟨g, h86, hg⟩ := hdep 9 (by kernel_rfl)
                    exact wp_app_own (f := fun z => .int .i64 z) (.tmp 84) (.tmp 86) 26 3 rfl j0 _ Tryz.underlying26 hj hj0 hj1 (by rw [hj2]; decide) (fun _ => rfl) t Z (by omega) g hg wz.heap.size _ hown hnil rfl h86 (fun ao c w5 hu hrow => hK.out _ _ (hu.below hB) (fun j u hj hus h => TMb.nums V0 more t A L cA C Z cC T0 T1 wz.heap.size j u _ _ hu hus h hj) ⟨ao, c, rfl, hrow⟩)
                  · intro a wq hF hB hdep K hK
                    obtain ⟨an, cn, h82, hn⟩ := hdep 5 (by kernel_rfl)
                    obtain ⟨az, cz, h87, hz⟩ := hdep 10 (by kernel_rfl)
                    have e77 : a.tmps[77]?.getD undef = V0 := (slot_opt a 77).trans (hdep 0 (by kernel_rfl))
                    have e82 : a.tmps[82]?.getD undef = .slice an (L.length + 1) cn := (slot_opt a 82).trans h82
                    have e87 : a.tmps[87]?.getD undef = .slice az (Z.length + 1) cz := (slot_opt a 87).trans h87
                    have c := types_any (L ++ [more]) (Z ++ [t]) an az cn cz (by rw [List.length_append]; simp; omega) (by rw [List.length_append]; simp; omega) e _ _ wq (HEE.out.later (below_to B5.out hB)) (HV0.out.later (below_to B5.out hB)) hn.els hz.els
                    rw [of_snoc t HZL.out HNOT.out] at c
                    simp only [tyV, HT0.out, HT1.out, HVV.out, List.length_append, List.length_singleton] at c
                    go_simp
                    refine c.mono ?_
                    rintro en w5 ⟨rfl, b5⟩
                    exact hK.out _ _ (below_to hB b5) (fun j u _ _ h => TMb.keep V0 more t A L cA C Z cC T0 T1 wz.heap.size j u _ _ b5 h) rfl
                  · intro a wq hF hB hdep K hK
                    have e88 : a.tmps[88]?.getD undef = .tuple #[.int .i64 T0, .int .i64 T1] := (slot_opt a 88).trans (hdep 11 (by kernel_rfl))
                    go_simp
                    exact hK.out _ _ (below_to hB (Below.refl _ _)) (fun j u _ _ h => TMb.keep V0 more t A L cA C Z cC T0 T1 wz.heap.size j u _ _ (Below.refl _ _) h) rfl
                  · intro a wq hF hB hdep K hK
                    have e76 : a.tmps[76]?.getD undef = .tuple #[.int .i64 T0, .int .i64 T1] := (slot_opt a 76).trans (hdep 12 (by kernel_rfl))
                    go_simp
                    exact hK.out _ _ (below_to hB (Below.refl _ _)) (fun j u _ _ h => TMb.keep V0 more t A L cA C Z cC T0 T1 wz.heap.size j u _ _ (Below.refl _ _) h) rfl
                  · intro a wq hF hB hdep K hK
                    have e76 : a.tmps[76]?.getD undef = .tuple #[.int .i64 T0, .int .i64 T1] := (slot_opt a 76).trans (hdep 12 (by kernel_rfl))
                    go_simp
                    exact hK.out _ _ (below_to hB (Below.refl _ _)) (fun j u _ _ h => TMb.keep V0 more t A L cA C Z cC T0 T1 wz.heap.size j u _ _ (Below.refl _ _) h) rfl
                  · intro a wq hF hB hdep K hK
                    have e89 : a.tmps[89]?.getD undef = .int .i64 T0 := (slot_opt a 89).trans (hdep 13 (by kernel_rfl))
                    go_simp
                    exact hK.out _ _ (below_to hB (Below.refl _ _)) (fun j u _ _ h => TMb.keep V0 more t A L cA C Z cC T0 T1 wz.heap.size j u _ _ (Below.refl _ _) h) rfl
                  · intro a wq hF hB hdep K hK
                    have e90 : a.tmps[90]?.getD undef = .int .i64 T1 := (slot_opt a 90).trans (hdep 14 (by kernel_rfl))
                    go_simp
                    exact hK.out _ _ (below_to hB (Below.refl _ _)) (fun j u _ _ h => TMb.keep V0 more t A L cA C Z cC T0 T1 wz.heap.size j u _ _ (Below.refl _ _) h) rfl
                case done =>
                  intro a wy hF hB hI
                  have h17 := hI 15 (by decide) (fun k => by unfold useM; simp)
                  have h18 := hI 16 (by decide) (fun k => by unfold useM; simp)
                  have hl := hF.lit
                  obtain ⟨σ, hσ⟩ : ∃ σ, slot a = σ := ⟨_, rfl⟩
                  rw [hσ] at hl h17 h18
                  have h17 : σ 17 = .int .i64 T0 := h17
                  have h18 : σ 18 = .int .i64 T1 := h18
                  clear hσ hI hF
                  subst hl
                  simp only [lay, List.foldl_cons, List.foldl_nil, List.setIfInBounds_toArray, List.set_cons_zero, List.set_cons_succ, h17, h18]
                  have B6 := Lib.hid (below_to B5.out hB)
                  clear hB h17 h18
                  have caw := tyawake_any _ (HEE.out.later B6.out)
                  go_wp2_with fail
                  (with_reducible refine caw.mono ?_)
                  rintro en wx ⟨rfl, bz⟩
                  have HBF := Lib.hid (below_to (below_to HB0.out B6.out) bz)
                  clear bz caw
                  go_wp2_with fail
                  exact bodyPost_ret (v := .bool true) (by simp [results, Tryz.results3, go_sem]) rfl ⟨rfl, HBF.out⟩
end Go.Proofs.YtaaibciacipelaaGreatDoor
