/- The statement RunesFoldKeeps: for every string, what is folded has as many runes, each the great form of its rune, of its class, and is valid just if the string is. Conditions: none beside the two tables of unicode/utf8, as their text lays them (the card ties them). -/
import Derived.Test.YtocejllclpdnnaaDoorFrame
import Derived.Test.YtocejllclpdnnaaDoorList
import Derived.Test.YtocejllclpdnnaaDoorFoldMath
import Derived.Deep.QuietTactic
import Derived.BigQuiet
namespace Go.Proofs.YtocejllclpdnnaaDoor
open Go.ChangeShapes Go.WideShapes Go.ChangeAt Go.RowKit Go.Lib

theorem keeps_cells (s T : ByteArray) (W : World) (al am : Option Addr) (N : Nat) (hlst : T.data.toList = foldL s.data.toList) (hN : (runesL s.data.toList).length = N)
    (hgl : 0 < N → ∃ g, al = some ⟨g, 0, none⟩ ∧ g < W.heap.size ∧ ∀ j u, (runeVals (runesL s.data.toList))[j]? = some u → W.cell? ⟨g, j, none⟩ = some u)
    (hgm : 0 < N → ∃ g, am = some ⟨g, 0, none⟩ ∧ g < W.heap.size ∧ ∀ j u, (runeVals (runesL T.data.toList))[j]? = some u → W.cell? ⟨g, j, none⟩ = some u) (k : Nat) (hk : k < N) :
    ∃ (gl gm : Nat) (x U : Nat), upperZ (x : Int) = (U : Int) ∧ al = some ⟨gl, 0, none⟩ ∧ am = some ⟨gm, 0, none⟩ ∧ gl < W.heap.size ∧ gm < W.heap.size ∧ W.cell? ⟨gl, k, none⟩ = some (.int .i32 (x : Int)) ∧ W.cell? ⟨gm, k, none⟩ = some (.int .i32 (U : Int)) := by
  obtain ⟨gl, h1, h2, h3⟩ := hgl (by omega)
  obtain ⟨gm, h4, h5, h6⟩ := hgm (by omega)
  obtain ⟨x, hx⟩ : ∃ x, (runesL s.data.toList)[k]? = some x := ⟨_, List.getElem?_eq_getElem (by omega)⟩
  refine ⟨gl, gm, x, (upperZ x).toNat, (Int.toNat_of_nonneg (upper_nonneg x)).symm, h1, h4, h2, h5, ?_, ?_⟩
  · exact h3 k _ (by unfold runeVals; rw [List.getElem?_map, hx]; rfl)
  · refine h6 k _ ?_
    unfold runeVals
    rw [hlst, runes_fold, List.getElem?_map, List.getElem?_map, hx]; rfl

theorem fold_len4 (l : List UInt8) : (foldL l).length ≤ 4 * l.length := by
  induction l using pcs_induct with
  | h0 => simp [foldL_nil]
  | h1 l hne ih =>
    have hw := decodeL_width l
    have hw2 := decodeL_le l hne
    have h4 := decodeL_four l
    have hl : 0 < l.length := List.length_pos_iff.2 hne
    have hp : (foldPc ((decodeL l).1, l.take (decodeL l).2)).length ≤ 4 := by
      unfold foldPc
      split
      · simp only [List.length_take]; omega
      · have := Lib.runeCells_le (upperZ (decodeL l).1); rw [Lib.runeCells_length] at this; exact this.2
    rw [foldL_step l hne, List.length_append]
    rw [List.length_drop] at ih
    omega

set_option maxHeartbeats 4000000 in
set_option maxRecDepth 1000000 in
theorem keeps_walk (s : ByteArray) (w : World) (hs : s.size ≤ 9223372036854775807) (hT : Tabs w) :
    Calls Tryd.prog 11 #[.string s] w fun e w' => e = .returned (.bool true) ∧ Below w.heap.size w w' := by
  by_cases hbig : 2000 < s.size
  · have hb : decide ((s.size : Int) > 2000) = true := decide_eq_true (by omega)
    go_enter Tryd.func11, Tryd.ntmps11
    go_wp2_with fail
    refine (awake_any _ hT).mono ?_
    rintro e w1 ⟨rfl, hb⟩
    go_wp2
    go_ret
    exact ⟨rfl, hb⟩
  · have hsmall : s.size ≤ 2000 := by omega
    have c1 := fun W (hW : Tabs W) => fold_any s W (by omega) hW
    obtain ⟨T, hTT⟩ : ∃ T : ByteArray, T = ⟨(foldL s.data.toList).toArray⟩ := ⟨_, rfl⟩
    have hlst : T.data.toList = foldL s.data.toList := by rw [hTT]
    have hTs : T.size ≤ 8000 := by
      rw [Lib.size_eq, hlst]; have := fold_len4 s.data.toList; rw [← Lib.size_eq] at this; omega
    rw [← hTT] at c1
    clear hTT
    have C1 := Lib.hid c1
    have HL := Lib.hid hlst
    clear c1 hlst
    go_enter Tryd.func11, Tryd.ntmps11
    go_wp2_with fail
    refine (list_any s _ (by omega)).mono ?_
    rintro e w1 ⟨v, rfl, ho1, b1⟩
    have hT1 := hT.later b1
    have ho := own_slice ho1
    obtain ⟨al, cl, rfl, -, -, -⟩ := ho
    go_wp2_with fail
    refine (C1.out _ hT1).mono ?_
    rintro e w2 ⟨rfl, b2⟩
    have b12 := b1.trans (b2.mono b1.size)
    have ho2 := own_later ho1 b2
    clear ho1 b1 b2 hT1
    go_wp2_with fail
    refine (list_any T _ (by omega)).mono ?_
    rintro e w3 ⟨v, rfl, ho3, b3⟩
    have b13 := b12.trans (b3.mono b12.size)
    obtain ⟨al', cl', e1, hcl, -, hgl⟩ := own_slice (own_later ho2 b3)
    obtain ⟨rfl, -, rfl⟩ := Value.slice.inj e1
    obtain ⟨am, cm, rfl, hcm, -, hgm⟩ := own_slice ho3
    clear ho2 ho3 b12 b3 e1
    obtain ⟨N, hN⟩ : ∃ N, (runesL s.data.toList).length = N := ⟨_, rfl⟩
    have hN2 : (runesL T.data.toList).length = N := by rw [HL.out, runes_fold, List.length_map, hN]
    have hN5 : N ≤ 5000 := by rw [← hN, runesL_len, ← runeCount_eq]; have := Lib.runeCount_le s; omega
    rw [hN] at hgl hcl
    rw [hN2] at hgm hcm
    have hcell := keeps_cells s T w3 al am N HL.out hN hgl hgm
    have HCELL := Lib.hid hcell
    rw [hN, hN2]
    clear hcell hgl hgm hN hN2
    go_wp2
    go_loopw [5] (fun iv wr => ∃ k : Nat, iv = .int .i64 (k : Int) ∧ k ≤ N ∧ Below w3.heap.size w3 wr) (fun iv _ => N - (Go.RowKit.intOf iv).toNat)
    case atStart => exact ⟨0, rfl, Nat.zero_le _, Below.refl _ _⟩
    case round =>
      obtain ⟨k, rfl, hkN, hbw⟩ := hrel
      by_cases hk : k < N
      · obtain ⟨gl, gm, x, U, hU, rfl, rfl, hl1, hl2, hx1, hx2⟩ := HCELL.out k hk
        have hc1 : wr.cell? ⟨gl, k, none⟩ = some (.int .i32 (x : Int)) := (hbw.cell (p := ⟨gl, k, none⟩) hl1).trans hx1
        have hc2 : wr.cell? ⟨gm, k, none⟩ = some (.int .i32 (U : Int)) := (hbw.cell (p := ⟨gm, k, none⟩) hl2).trans hx2
        have hkz : (k : Int) < (N : Int) := by omega
        have cU : ∀ W, Calls Tryd.prog 29 #[.int .i32 (x : Int)] W fun e w' => e = .returned (.int .i32 (U : Int)) ∧ w' = W := fun W =>
          (upper_any (x : Int) W).mono fun _ _ ⟨he, hw⟩ => ⟨by rw [he, hU], hw.symm⟩
        obtain ⟨C, hC⟩ : ∃ C, classZ (x : Int) = C := ⟨_, rfl⟩
        have hC2 : classZ (U : Int) = C := by rw [← hU, class_upper, hC]
        have cC : ∀ y W, (y = (x : Int) ∨ y = (U : Int)) → Calls Tryd.prog 27 #[.int .i32 y] W fun e w' => e = .returned (.int .i64 C) ∧ w' = W := fun y W hy =>
          (class_any y W).mono fun _ _ ⟨he, hw⟩ => ⟨by rw [he]; rcases hy with rfl | rfl <;> simp only [hC, hC2], hw.symm⟩
        have CU := Lib.hid cU
        have CC := Lib.hid cC
        clear hx1 hx2 hU hC hC2 cU cC
        go_wp2
        go_quiet (first | (go_at_call 29; exact Calls.quiet_of_same (CU.out _)) | (go_at_call 27; exact Calls.quiet_of_same (CC.out _ _ (by first | exact Or.inl rfl | exact Or.inr rfl))))
        go_wp2
        refine ⟨⟨k + 1, by go_num, by omega, hbw.trans ⟨rfl, rfl, rfl, Nat.le_refl _, fun _ _ => rfl⟩⟩, by simp only [Go.RowKit.intOf]; omega⟩
      · have hkge : ¬ ((k : Int) < (N : Int)) := by omega
        have hbw0 := b13.trans (hbw.mono b13.size)
        have hTr : Tabs wr := hT.later hbw0
        have hV := valid_any s
        have hU : ∀ W, Tabs W → Calls Tryd.prog 19 #[.string T] W fun e w' => e = .returned (.bool (validL s.data.toList)) ∧ Below W.heap.size W w' := fun W hW => by
          have := valid_any T W (by omega) hW
          rw [HL.out, valid_fold] at this
          exact this
        generalize validL s.data.toList = V at hV hU
        have HV := Lib.hid hV; have HU := Lib.hid hU
        clear hV hU HCELL
        go_wp2_with fail
        refine (C1.out _ hTr).mono ?_
        rintro e w4 ⟨rfl, b4⟩
        have hT4 := hTr.later b4
        have b14 := hbw0.trans (b4.mono hbw0.size)
        clear b4
        go_wp2_with fail
        refine (HU.out _ hT4).mono ?_
        rintro e w5 ⟨rfl, b5⟩
        have hT5 := hT4.later b5
        have b15 := b14.trans (b5.mono b14.size)
        clear b5
        go_wp2_with fail
        refine (HV.out _ (by omega) hT5).mono ?_
        rintro e w6 ⟨rfl, b6⟩
        have hT6 := hT5.later b6
        have b16 := b15.trans (b6.mono b15.size)
        clear b6
        go_wp2_with fail
        refine (awake_any _ hT6).mono ?_
        rintro e w7 ⟨rfl, b7⟩
        go_wp2
        go_ret
        exact ⟨rfl, b16.trans (b7.mono b16.size)⟩
set_option maxRecDepth 100000 in
theorem keeps_lifted (os : Os) (started : os.Started) (H : Type) (enc : TypeId × Value → H) :
    ReturnsInHanded {} Tryd.checked os 11 .any (fun w args => (Rows.runesFoldKeepsSpec.pre enc Tryd.prog Tryd.f11 [] false w args ∧ laidMetH Tryd.prog tabsLaid w) ∧ sizedMet enc Tryd.prog Tryd.f11 (OpenSpec.ofChange Rows.runesFoldKeepsSpec) false w args)
      (Rows.runesFoldKeepsSpec.post enc Tryd.prog Tryd.f11 false true false false) := by
  refine returnsInHanded_of_change_and (C := Tryd.checked) (X := fun w _ => laidMetH Tryd.prog tabsLaid w) (fun _ _ _ hh h => h.of_heap hh) own started (by kernel_rfl) Tryd.func11
    (ChangeSpec.witness_shaped (enc := enc) (C := Tryd.checked) (os := os) (X := fun w _ => laidMetH Tryd.prog tabsLaid w) false (World.laidAll Tryd.prog os tabsLaid) #[.string ⟨#[]⟩] 8 (World.laidAll_os _ _ _)
      (World.shaped_of_ZipB (by kernel_rfl) (by kernel_rfl)) (by kernel_rfl) (by kernel_rfl) (by kernel_rfl) (start_met os _)) ?_
  intro W base args ds gs before hval0 hW _ _ hL _
  have hval : ∀ (j : Nat) t v, Tryd.f11.params[j]? = some t → args[j]? = some v → Value.okWide Tryd.prog W .any base t v := hval0
  have hW' := hW
  obtain ⟨p, q, hA0, hV, rfl, _, _⟩ := hW
  have hA : DataW.TrodAll enc Tryd.prog W 0 (fun _ => true) true Tryd.f11.params.toList args.toList ds p := hA0
  rw [Tryd.params11] at hA hval
  obtain ⟨v0, d0, rfl, rfl, h0⟩ := trodAll_one hA
  obtain ⟨rfl, rfl⟩ := trodVars_none hV
  obtain ⟨x0, rfl, rfl, rfl, wx0⟩ := Go.ChangeMaps.open_string Tryd.underlying9 (hval 0 9 v0 rfl rfl) h0
  have b0 : x0.size ≤ 9223372036854775807 := by have := wx0; unfold maxLen at this; omega
  simp only [List.append_nil] at hW'
  refine (keeps_walk x0 W b0 (tabs_of_laid hL)).mono fun e W' ⟨he, hb⟩ => ?_
  subst he
  exact ⟨_, rfl, _, _, _, [], [], [], hW', trodAll_mk1 (shut_bool Tryd.underlying4 _), trodAll_mk1 (Go.ChangeMaps.shut_string Tryd.underlying9 wx0), rfl, hb.frame _, fun h => by cases h⟩

theorem keeps_holds : Rows.RunesFoldKeepsSaid :=
  OpenClaim.holds_of_wide 11 Tryd.f11 rfl rfl rfl rfl rfl rfl rfl ⟨rfl, rfl, rfl, rfl, rfl⟩ rfl rfl rfl rfl rfl (by kernel_rfl) Tryd.func11 (by kernel_rfl)
    (of_decide_eq_true (by kernel_rfl)) (by unfold Func.isWrapper; first | (rw [if_pos (by decide +kernel)]; kernel_rfl) | (rw [if_neg (by decide +kernel)]; exact ⟨rfl, rfl⟩))
    (fun os started H enc _ => keeps_lifted os started H enc)

theorem keeps_card : Rows.RunesFoldKeepsCardSaid :=
  Claim7.holds_tied_plain_at .later [] [.data, .pinned] true _ false
    keeps_holds (fun _ h => by cases h) (by kernel_rfl) (fun _ h => by cases h) runesFoldKeeps_row_tie rfl ⟨rfl, rfl⟩ (by kernel_rfl) rfl
    (fun f fn hf hfn => by
      obtain rfl : f = 11 := Option.some.inj ((show Tryd.prog.funcNamed "palaver/palaverlaw01.RunesFoldKeeps" = some 11 by kernel_rfl).symm.trans hf) |>.symm
      obtain rfl : fn = Tryd.f11 := (Option.some.inj (Tryd.func11.symm.trans hfn)).symm
      exact ⟨by kernel_rfl, fun j t ht => by
        rw [Tryd.params11] at ht
        have hm : t ∈ [9] := by simpa using Array.mem_of_getElem? ht
        have hall : ([9].all fun u => !Tryd.prog.wantsStandIn u) = true := by kernel_rfl
        exact (show Tryd.prog.wantsStandIn t = false by simpa using List.all_eq_true.1 hall t hm)⟩)
    (by kernel_rfl)
end Go.Proofs.YtocejllclpdnnaaDoor
