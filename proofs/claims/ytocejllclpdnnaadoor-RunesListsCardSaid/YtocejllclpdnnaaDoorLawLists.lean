/- The statement RunesLists: for every string and number, runes.List, Count, Valid, Cut answer what the document's own functions answer. Conditions: none beside the two tables of unicode/utf8, as their text lays them (the card ties them). -/
import Derived.Test.YtocejllclpdnnaaDoorFrame
import Derived.Test.YtocejllclpdnnaaDoorRefList
namespace Go.Proofs.YtocejllclpdnnaaDoor
open Go.ChangeShapes Go.WideShapes Go.ChangeAt Go.RowKit Go.Lib

set_option maxHeartbeats 2000000 in
set_option maxRecDepth 100000 in
theorem lists_walk (s : ByteArray) (n : Int) (w : World) (hs : s.size ≤ 9223372036854775807) (hn0 : -9223372036854775808 ≤ n) (hn : n ≤ 9223372036854775807) (hT : Tabs w) :
    Calls Tryd.prog 3 #[.string s, .int .i64 n] w fun e w' => e = .returned (.bool true) ∧ Below w.heap.size w w' := by
  by_cases hbig : 5000 < s.size
  · have hb : decide ((s.size : Int) > 5000) = true := decide_eq_true (by omega)
    go_enter Tryd.func3, Tryd.ntmps3
    go_wp2_with fail
    refine (awake_any _ hT).mono ?_
    rintro e w1 ⟨rfl, hb⟩
    go_wp2
    go_ret
    exact ⟨rfl, hb⟩
  · have hsmall : s.size ≤ 5000 := by omega
    have hc1 := fun W => count_any s W (by omega)
    rw [runeCount_eq] at hc1
    have hc2 := fun W => refCount_any s W (by omega)
    obtain ⟨C, hC⟩ : ∃ C, countL s.data.toList = C := ⟨_, rfl⟩
    rw [hC] at hc1 hc2
    have hv1 := fun W (hW : Tabs W) => valid_any s W (by omega) hW
    have hv2 := fun W => refValid_any s W (by omega)
    obtain ⟨V, hV⟩ : ∃ V, validL s.data.toList = V := ⟨_, rfl⟩
    rw [hV] at hv1 hv2
    have hk1 := fun W => cut_any s n W (by omega) hn0 hn
    have hk2 := fun W => refCut_any s n W (by omega)
    obtain ⟨K, hK⟩ : ∃ K : ByteArray, (⟨(cutL s.data.toList n.toNat).toArray⟩ : ByteArray) = K := ⟨_, rfl⟩
    rw [hK] at hk1 hk2
    have HC1 := Lib.hid hc1; have HC2 := Lib.hid hc2; have HV1 := Lib.hid hv1; have HV2 := Lib.hid hv2; have HK1 := Lib.hid hk1; have HK2 := Lib.hid hk2
    clear hc1 hc2 hv1 hv2 hk1 hk2 hC hV hK
    go_enter Tryd.func3, Tryd.ntmps3
    go_wp2_with fail
    refine (list_any s _ (by omega)).mono ?_
    rintro e w1 ⟨v, rfl, ho1, b1⟩
    obtain ⟨ao, ca, rfl, -, -, -⟩ := own_slice ho1
    go_wp2_with fail
    refine (refList_any s _ (by omega)).mono ?_
    rintro e w2 ⟨v, rfl, ho2, b2⟩
    obtain ⟨bo, cb, rfl, -, -, hgb⟩ := own_slice ho2
    obtain ⟨ao', ca', e1, -, -, hga⟩ := own_slice (own_later ho1 b2)
    obtain ⟨rfl, -, rfl⟩ := Value.slice.inj e1
    have b12 := b1.trans (b2.mono b1.size)
    have hN5 : (runesL s.data.toList).length ≤ 5000 := by rw [runesL_len, ← runeCount_eq]; have := Lib.runeCount_le s; omega
    have hsame := same_any ao bo _ ca cb (runesL s.data.toList) w2 rfl (by omega) hga hgb
    obtain ⟨N, hN⟩ : ∃ N, (runesL s.data.toList).length = N := ⟨_, rfl⟩
    rw [hN] at hsame ⊢
    have HS := Lib.hid hsame
    clear e1 ho1 ho2 b1 b2 hga hgb hN5 hsame hN
    go_wp2_with fail
    refine HS.out.mono ?_
    rintro e w3 ⟨rfl, b3⟩
    have b13 := b12.trans (b3.mono b12.size)
    clear b12 b3 HS
    go_wp2_with fail
    refine (HC1.out _).mono ?_
    rintro e w4 ⟨rfl, b4⟩
    have b14 := b13.trans (b4.mono b13.size)
    clear b13 b4
    go_wp2_with fail
    refine (HC2.out _).mono ?_
    rintro e w5 ⟨rfl, b5⟩
    have b15 := b14.trans (b5.mono b14.size)
    clear b14 b5
    go_wp2_with fail
    refine (HV1.out _ (hT.later b15)).mono ?_
    rintro e w6 ⟨rfl, b6⟩
    have b16 := b15.trans (b6.mono b15.size)
    clear b15 b6
    go_wp2_with fail
    refine (HV2.out _).mono ?_
    rintro e w7 ⟨rfl, b7⟩
    have b17 := b16.trans (b7.mono b16.size)
    clear b16 b7
    go_wp2_with fail
    refine (HK1.out _).mono ?_
    rintro e w8 ⟨rfl, b8⟩
    have b18 := b17.trans (b8.mono b17.size)
    clear b17 b8
    go_wp2_with fail
    refine (HK2.out _).mono ?_
    rintro e w9 ⟨rfl, b9⟩
    have b19 := b18.trans (b9.mono b18.size)
    clear b18 b9
    go_wp2_with fail
    refine (awake_any _ (hT.later b19)).mono ?_
    rintro e w10 ⟨rfl, b10⟩
    go_wp2
    go_ret
    exact ⟨rfl, b19.trans (b10.mono b19.size)⟩
set_option maxRecDepth 100000 in
theorem lists_lifted (os : Os) (started : os.Started) (H : Type) (enc : TypeId × Value → H) :
    ReturnsInHanded {} Tryd.checked os 3 .any (fun w args => (Rows.runesListsSpec.pre enc Tryd.prog Tryd.f3 [] false w args ∧ laidMetH Tryd.prog tabsLaid w) ∧ sizedMet enc Tryd.prog Tryd.f3 (OpenSpec.ofChange Rows.runesListsSpec) false w args)
      (Rows.runesListsSpec.post enc Tryd.prog Tryd.f3 false true false false) := by
  refine returnsInHanded_of_change_and (C := Tryd.checked) (X := fun w _ => laidMetH Tryd.prog tabsLaid w) (fun _ _ _ hh h => h.of_heap hh) own started (by kernel_rfl) Tryd.func3
    (ChangeSpec.witness_shaped (enc := enc) (C := Tryd.checked) (os := os) (X := fun w _ => laidMetH Tryd.prog tabsLaid w) false (World.laidAll Tryd.prog os tabsLaid) #[.string ⟨#[]⟩, .int .i64 0] 8 (World.laidAll_os _ _ _)
      (World.shaped_of_ZipB (by kernel_rfl) (by kernel_rfl)) (by kernel_rfl) (by kernel_rfl) (by kernel_rfl) (start_met os _)) ?_
  intro W base args ds gs before hval0 hW _ _ hL _
  have hval : ∀ (j : Nat) t v, Tryd.f3.params[j]? = some t → args[j]? = some v → Value.okWide Tryd.prog W .any base t v := hval0
  have hW' := hW
  obtain ⟨p, q, hA0, hV, rfl, _, _⟩ := hW
  have hA : DataW.TrodAll enc Tryd.prog W 0 (fun _ => true) true Tryd.f3.params.toList args.toList ds p := hA0
  rw [Tryd.params3] at hA hval
  obtain ⟨v0, v1, d0, d1, p0, p1, rfl, rfl, rfl, h0, h1⟩ := trodAll_two hA
  obtain ⟨rfl, rfl⟩ := trodVars_none hV
  obtain ⟨x0, rfl, rfl, rfl, wx0⟩ := Go.ChangeMaps.open_string Tryd.underlying9 (hval 0 9 v0 rfl rfl) h0
  have b0 : x0.size ≤ 9223372036854775807 := by have := wx0; unfold maxLen at this; omega
  obtain ⟨x1, rfl, rfl, rfl, wx1⟩ := open_int Tryd.underlying3 (hval 1 3 v1 rfl rfl) h1
  have b1 : -9223372036854775808 ≤ x1 ∧ x1 ≤ 9223372036854775807 := by simpa [Lit.wf, IntKind.min, IntKind.max, IntKind.signed, IntKind.bits] using wx1
  simp only [List.append_nil] at hW'
  refine (lists_walk x0 x1 W b0 b1.1 b1.2 (tabs_of_laid hL)).mono fun e W' ⟨he, hb⟩ => ?_
  subst he
  exact ⟨_, rfl, _, _, _, [], [], [], hW', trodAll_mk1 (shut_bool Tryd.underlying4 _), trodAll_mk2 (Go.ChangeMaps.shut_string Tryd.underlying9 wx0) (shut_int Tryd.underlying3 wx1), rfl, hb.frame _, fun h => by cases h⟩

theorem lists_holds : Rows.RunesListsSaid :=
  OpenClaim.holds_of_wide 3 Tryd.f3 rfl rfl rfl rfl rfl rfl rfl ⟨rfl, rfl, rfl, rfl, rfl⟩ rfl rfl rfl rfl rfl (by kernel_rfl) Tryd.func3 (by kernel_rfl)
    (of_decide_eq_true (by kernel_rfl)) (by unfold Func.isWrapper; first | (rw [if_pos (by decide +kernel)]; kernel_rfl) | (rw [if_neg (by decide +kernel)]; exact ⟨rfl, rfl⟩))
    (fun os started H enc _ => lists_lifted os started H enc)

theorem lists_card : Rows.RunesListsCardSaid :=
  Claim7.holds_tied_plain_at .later [] [.data, .pinned] true _ false
    lists_holds (fun _ h => by cases h) (by kernel_rfl) (fun _ h => by cases h) runesLists_row_tie rfl ⟨rfl, rfl⟩ (by kernel_rfl) rfl
    (fun f fn hf hfn => by
      obtain rfl : f = 3 := Option.some.inj ((show Tryd.prog.funcNamed "palaver/palaverlaw01.RunesLists" = some 3 by kernel_rfl).symm.trans hf) |>.symm
      obtain rfl : fn = Tryd.f3 := (Option.some.inj (Tryd.func3.symm.trans hfn)).symm
      exact ⟨by kernel_rfl, fun j t ht => by
        rw [Tryd.params3] at ht
        have hm : t ∈ [9, 3] := by simpa using Array.mem_of_getElem? ht
        have hall : ([9, 3].all fun u => !Tryd.prog.wantsStandIn u) = true := by kernel_rfl
        exact (show Tryd.prog.wantsStandIn t = false by simpa using List.all_eq_true.1 hall t hm)⟩)
    (by kernel_rfl)
end Go.Proofs.YtocejllclpdnnaaDoor
