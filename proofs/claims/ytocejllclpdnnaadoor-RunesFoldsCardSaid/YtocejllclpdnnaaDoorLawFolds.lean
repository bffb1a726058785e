/- The statement RunesFolds: for every string, runes.Fold answers what the document's own Fold answers; folded again it stays, and has as many pieces. Conditions: none beside the two tables of unicode/utf8, as their text lays them (the card ties them). -/
import Derived.Test.YtocejllclpdnnaaDoorFrame
import Derived.Test.YtocejllclpdnnaaDoorRefFold
namespace Go.Proofs.YtocejllclpdnnaaDoor
open Go.ChangeShapes Go.WideShapes Go.ChangeAt Go.RowKit Go.Lib

theorem folds_len (l : List UInt8) : (foldL l).length ≤ 4 * l.length := by
  induction l using pcs_induct with
  | h0 => simp [foldL_nil]
  | h1 l hne ih =>
    have hw := decodeL_width l
    have hw2 := decodeL_le l hne
    have h4 := decodeL_four l
    have hl : 0 < l.length := List.length_pos_iff.2 hne
    have hp : (foldPc ((decodeL l).1, l.take (decodeL l).2)).length ≤ 4 := by
      unfold foldPc
      split
      · simp only [List.length_take]; omega
      · have := Lib.runeCells_le (upperZ (decodeL l).1); rw [Lib.runeCells_length] at this; exact this.2
    rw [foldL_step l hne, List.length_append]
    rw [List.length_drop] at ih
    omega

set_option maxHeartbeats 2000000 in
set_option maxRecDepth 100000 in
theorem folds_walk (s : ByteArray) (w : World) (hs : s.size ≤ 9223372036854775807) (hT : Tabs w) :
    Calls Tryd.prog 6 #[.string s] w fun e w' => e = .returned (.bool true) ∧ Below w.heap.size w w' := by
  by_cases hbig : 2000 < s.size
  · have hb : decide ((s.size : Int) > 2000) = true := decide_eq_true (by omega)
    go_enter Tryd.func6, Tryd.ntmps6
    go_wp2_with fail
    refine (awake_any _ hT).mono ?_
    rintro e w1 ⟨rfl, hb⟩
    go_wp2
    go_ret
    exact ⟨rfl, hb⟩
  · have hsmall : s.size ≤ 2000 := by omega
    have h1 := fun W (hW : Tabs W) => fold_any s W (by omega) hW
    have h2 := fun W => refFold_any s W (by omega)
    obtain ⟨T, hTT⟩ : ∃ T : ByteArray, (⟨(foldL s.data.toList).toArray⟩ : ByteArray) = T := ⟨_, rfl⟩
    have hTl : T.data.toList = foldL s.data.toList := by rw [← hTT]
    have hTs : T.size ≤ 8000 := by rw [Lib.size_eq, hTl]; have := folds_len s.data.toList; rw [← Lib.size_eq] at this; omega
    rw [hTT] at h1 h2
    have h3 := fun W (hW : Tabs W) => fold_any T W (by omega) hW
    have e3 : (⟨(foldL T.data.toList).toArray⟩ : ByteArray) = T := by rw [hTl, fold_fold, ← hTl]
    rw [e3] at h3
    have h4 := fun W => count_any T W (by omega)
    have h5 := fun W => count_any s W (by omega)
    rw [runeCount_eq, hTl, count_fold] at h4
    rw [runeCount_eq] at h5
    obtain ⟨C, hC⟩ : ∃ C, countL s.data.toList = C := ⟨_, rfl⟩
    rw [hC] at h4 h5
    have H1 := Lib.hid h1; have H2 := Lib.hid h2; have H3 := Lib.hid h3; have H4 := Lib.hid h4; have H5 := Lib.hid h5
    clear h1 h2 h3 h4 h5 e3 hTl hTT hC
    go_enter Tryd.func6, Tryd.ntmps6
    go_wp2_with fail
    refine (H1.out _ hT).mono ?_
    rintro e w1 ⟨rfl, b1⟩
    go_wp2_with fail
    refine (H2.out _).mono ?_
    rintro e w2 ⟨rfl, b2⟩
    have b12 := b1.trans (b2.mono b1.size)
    clear b1 b2
    go_wp2_with fail
    refine (H3.out _ (hT.later b12)).mono ?_
    rintro e w3 ⟨rfl, b3⟩
    have b13 := b12.trans (b3.mono b12.size)
    clear b12 b3
    go_wp2_with fail
    refine (H4.out _).mono ?_
    rintro e w4 ⟨rfl, b4⟩
    have b14 := b13.trans (b4.mono b13.size)
    clear b13 b4
    go_wp2_with fail
    refine (H5.out _).mono ?_
    rintro e w5 ⟨rfl, b5⟩
    have b15 := b14.trans (b5.mono b14.size)
    clear b14 b5
    go_wp2_with fail
    refine (awake_any _ (hT.later b15)).mono ?_
    rintro e w6 ⟨rfl, b6⟩
    go_wp2
    go_ret
    exact ⟨rfl, b15.trans (b6.mono b15.size)⟩
set_option maxRecDepth 100000 in
theorem folds_lifted (os : Os) (started : os.Started) (H : Type) (enc : TypeId × Value → H) :
    ReturnsInHanded {} Tryd.checked os 6 .any (fun w args => (Rows.runesFoldsSpec.pre enc Tryd.prog Tryd.f6 [] false w args ∧ laidMetH Tryd.prog tabsLaid w) ∧ sizedMet enc Tryd.prog Tryd.f6 (OpenSpec.ofChange Rows.runesFoldsSpec) false w args)
      (Rows.runesFoldsSpec.post enc Tryd.prog Tryd.f6 false true false false) := by
  refine returnsInHanded_of_change_and (C := Tryd.checked) (X := fun w _ => laidMetH Tryd.prog tabsLaid w) (fun _ _ _ hh h => h.of_heap hh) own started (by kernel_rfl) Tryd.func6
    (ChangeSpec.witness_shaped (enc := enc) (C := Tryd.checked) (os := os) (X := fun w _ => laidMetH Tryd.prog tabsLaid w) false (World.laidAll Tryd.prog os tabsLaid) #[.string ⟨#[]⟩] 8 (World.laidAll_os _ _ _)
      (World.shaped_of_ZipB (by kernel_rfl) (by kernel_rfl)) (by kernel_rfl) (by kernel_rfl) (by kernel_rfl) (start_met os _)) ?_
  intro W base args ds gs before hval0 hW _ _ hL _
  have hval : ∀ (j : Nat) t v, Tryd.f6.params[j]? = some t → args[j]? = some v → Value.okWide Tryd.prog W .any base t v := hval0
  have hW' := hW
  obtain ⟨p, q, hA0, hV, rfl, _, _⟩ := hW
  have hA : DataW.TrodAll enc Tryd.prog W 0 (fun _ => true) true Tryd.f6.params.toList args.toList ds p := hA0
  rw [Tryd.params6] at hA hval
  obtain ⟨v0, d0, rfl, rfl, h0⟩ := trodAll_one hA
  obtain ⟨rfl, rfl⟩ := trodVars_none hV
  obtain ⟨x0, rfl, rfl, rfl, wx0⟩ := Go.ChangeMaps.open_string Tryd.underlying9 (hval 0 9 v0 rfl rfl) h0
  have b0 : x0.size ≤ 9223372036854775807 := by have := wx0; unfold maxLen at this; omega
  simp only [List.append_nil] at hW'
  refine (folds_walk x0 W b0 (tabs_of_laid hL)).mono fun e W' ⟨he, hb⟩ => ?_
  subst he
  exact ⟨_, rfl, _, _, _, [], [], [], hW', trodAll_mk1 (shut_bool Tryd.underlying4 _), trodAll_mk1 (Go.ChangeMaps.shut_string Tryd.underlying9 wx0), rfl, hb.frame _, fun h => by cases h⟩

theorem folds_holds : Rows.RunesFoldsSaid :=
  OpenClaim.holds_of_wide 6 Tryd.f6 rfl rfl rfl rfl rfl rfl rfl ⟨rfl, rfl, rfl, rfl, rfl⟩ rfl rfl rfl rfl rfl (by kernel_rfl) Tryd.func6 (by kernel_rfl)
    (of_decide_eq_true (by kernel_rfl)) (by unfold Func.isWrapper; first | (rw [if_pos (by decide +kernel)]; kernel_rfl) | (rw [if_neg (by decide +kernel)]; exact ⟨rfl, rfl⟩))
    (fun os started H enc _ => folds_lifted os started H enc)

theorem folds_card : Rows.RunesFoldsCardSaid :=
  Claim7.holds_tied_plain_at .later [] [.data, .pinned] true _ false
    folds_holds (fun _ h => by cases h) (by kernel_rfl) (fun _ h => by cases h) runesFolds_row_tie rfl ⟨rfl, rfl⟩ (by kernel_rfl) rfl
    (fun f fn hf hfn => by
      obtain rfl : f = 6 := Option.some.inj ((show Tryd.prog.funcNamed "palaver/palaverlaw01.RunesFolds" = some 6 by kernel_rfl).symm.trans hf) |>.symm
      obtain rfl : fn = Tryd.f6 := (Option.some.inj (Tryd.func6.symm.trans hfn)).symm
      exact ⟨by kernel_rfl, fun j t ht => by
        rw [Tryd.params6] at ht
        have hm : t ∈ [9] := by simpa using Array.mem_of_getElem? ht
        have hall : ([9].all fun u => !Tryd.prog.wantsStandIn u) = true := by kernel_rfl
        exact (show Tryd.prog.wantsStandIn t = false by simpa using List.all_eq_true.1 hall t hm)⟩)
    (by kernel_rfl)
end Go.Proofs.YtocejllclpdnnaaDoor
