/- The statement RunesParts: for every string and number, what runes.Cut cuts off and what is left are the whole, each with as many pieces as is asked for, and cutting again turns nothing. Conditions: none beside the two tables of unicode/utf8, as their text lays them (the card ties them). -/
import Derived.Test.YtocejllclpdnnaaDoorFrame
import Derived.Test.YtocejllclpdnnaaDoorCut
namespace Go.Proofs.YtocejllclpdnnaaDoor
open Go.ChangeShapes Go.WideShapes Go.ChangeAt Go.RowKit Go.Lib

theorem str_eq {a b : ByteArray} (h : a.data.toList = b.data.toList) : a = b := by
  cases a; cases b; simp only [ByteArray.mk.injEq]; exact Array.toList_inj.1 h

structure PartsFacts (s A : ByteArray) (n : Int) : Prop where
  le : A.size ≤ s.size
  pre : s.extract 0 A.size = A
  cnt : ((runeCount A : Nat) : Int) = max 0 (min n (runeCount s))
  rest : ((runeCount (s.extract A.size s.size) : Nat) : Int) = (runeCount s : Int) - max 0 (min n (runeCount s))
  again : cutL A.data.toList n.toNat = A.data.toList
theorem parts_facts (s : ByteArray) (n : Int) : PartsFacts s ⟨(cutL s.data.toList n.toNat).toArray⟩ n := by
  have hl : (⟨(cutL s.data.toList n.toNat).toArray⟩ : ByteArray).data.toList = cutL s.data.toList n.toNat := by simp
  have hz : (⟨(cutL s.data.toList n.toNat).toArray⟩ : ByteArray).size = (cutL s.data.toList n.toNat).length := by rw [Lib.size_eq, hl]
  refine ⟨?_, ?_, ?_, ?_, ?_⟩
  · rw [hz, Lib.size_eq]; exact cutL_le _ _
  · apply str_eq; rw [headList, hl, hz, cutL_prefix]
  · rw [runeCount_eq, runeCount_eq, hl, count_cut]; omega
  · rw [runeCount_eq, runeCount_eq, tailList, hz, count_rest]; omega
  · rw [hl, cut_cut]

set_option maxHeartbeats 1000000 in
theorem parts_walk (s : ByteArray) (n : Int) (w : World) (hs : s.size ≤ 9223372036854775807) (hn0 : -9223372036854775808 ≤ n) (hn : n ≤ 9223372036854775807) (hT : Tabs w) :
    Calls Tryd.prog 8 #[.string s, .int .i64 n] w fun e w' => e = .returned (.bool true) ∧ Below w.heap.size w w' := by
  by_cases hbig : 5000 < s.size
  · have hb : decide ((s.size : Int) > 5000) = true := decide_eq_true (by omega)
    go_enter Tryd.func8, Tryd.ntmps8
    go_wp2_with fail
    refine (awake_any _ hT).mono ?_
    rintro e w1 ⟨rfl, hb⟩
    go_wp2
    go_ret
    exact ⟨rfl, hb⟩
  · have hsmall : s.size ≤ 5000 := by omega
    obtain ⟨A, hA⟩ : ∃ A : ByteArray, A = ⟨(cutL s.data.toList n.toNat).toArray⟩ := ⟨_, rfl⟩
    have hF := parts_facts s n
    have c1 := cut_any s n w (by omega) hn0 hn
    rw [← hA] at hF c1
    clear hA
    have C1 := Lib.hid c1
    have HF := Lib.hid hF
    have hle := hF.le
    have hpre : ((s.extract 0 A.size).toList == A.toList) = true := by rw [hF.pre]; exact beq_self_eq_true _
    have c2 : ∀ w, Calls Tryd.prog 21 #[.string A, .int .i64 n] w fun e w' => e = .returned (.string A) ∧ Below w.heap.size w w' := fun w =>
      (cut_any A n w (by omega) hn0 hn).mono fun _ _ ⟨he, hw⟩ => ⟨by rw [he]; exact (ret_str (t := A) hF.again.symm).symm, hw⟩
    have h1 : (((runeCount A : Nat) : Int) == max 0 (min n (runeCount s))) = true := beq_iff_eq.2 hF.cnt
    have h2 : (((runeCount (s.extract A.size s.size) : Nat) : Int) == (runeCount s : Int) - max 0 (min n (runeCount s))) = true := beq_iff_eq.2 hF.rest
    have hc := Lib.runeCount_le s
    have hk : 0 ≤ max 0 (min n (runeCount s : Int)) ∧ max 0 (min n (runeCount s : Int)) ≤ (runeCount s : Int) := by omega
    obtain ⟨hk1, hk2⟩ := hk
    have C2 := Lib.hid c2
    clear c1 hF c2
    go_enter Tryd.func8, Tryd.ntmps8
    go_wp2_with fail
    refine C1.out.mono ?_
    rintro e w1 ⟨rfl, b1⟩
    go_wp2_with fail
    refine (count_any s _ (by omega)).mono ?_
    rintro e w2 ⟨rfl, b2⟩
    go_wp2_with fail
    refine (count_any A _ (by omega)).mono ?_
    rintro e w3 ⟨rfl, b3⟩
    go_wp2_with fail
    refine (count_any _ _ (by rw [ByteArray.size_extract]; omega)).mono ?_
    rintro e w4 ⟨rfl, b4⟩
    go_wp2_with fail
    refine (count_any s _ (by omega)).mono ?_
    rintro e w5 ⟨rfl, b5⟩
    have b12 := b1.trans (b2.mono b1.size)
    have b13 := b12.trans (b3.mono b12.size)
    have b14 := b13.trans (b4.mono b13.size)
    have b15 := b14.trans (b5.mono b14.size)
    clear b1 b2 b3 b4 b5 b12 b13 b14
    go_wp2_with fail
    refine (C2.out _).mono ?_
    rintro e w6 ⟨rfl, b6⟩
    have b16 := b15.trans (b6.mono b15.size)
    have hT6 := hT.later b16
    clear b15 b6
    go_wp2_with fail
    refine (awake_any _ hT6).mono ?_
    rintro e w7 ⟨rfl, b7⟩
    have b17 := b16.trans (b7.mono b16.size)
    go_wp2
    go_ret
    exact ⟨rfl, b17⟩
set_option maxRecDepth 100000 in
theorem parts_lifted (os : Os) (started : os.Started) (H : Type) (enc : TypeId × Value → H) :
    ReturnsInHanded {} Tryd.checked os 8 .any (fun w args => (Rows.runesPartsSpec.pre enc Tryd.prog Tryd.f8 [] false w args ∧ laidMetH Tryd.prog tabsLaid w) ∧ sizedMet enc Tryd.prog Tryd.f8 (OpenSpec.ofChange Rows.runesPartsSpec) false w args)
      (Rows.runesPartsSpec.post enc Tryd.prog Tryd.f8 false true false false) := by
  refine returnsInHanded_of_change_and (C := Tryd.checked) (X := fun w _ => laidMetH Tryd.prog tabsLaid w) (fun _ _ _ hh h => h.of_heap hh) own started (by kernel_rfl) Tryd.func8
    (ChangeSpec.witness_shaped (enc := enc) (C := Tryd.checked) (os := os) (X := fun w _ => laidMetH Tryd.prog tabsLaid w) false (World.laidAll Tryd.prog os tabsLaid) #[.string ⟨#[]⟩, .int .i64 0] 8 (World.laidAll_os _ _ _)
      (World.shaped_of_ZipB (by kernel_rfl) (by kernel_rfl)) (by kernel_rfl) (by kernel_rfl) (by kernel_rfl) (start_met os _)) ?_
  intro W base args ds gs before hval0 hW _ _ hL _
  have hval : ∀ (j : Nat) t v, Tryd.f8.params[j]? = some t → args[j]? = some v → Value.okWide Tryd.prog W .any base t v := hval0
  have hW' := hW
  obtain ⟨p, q, hA0, hV, rfl, _, _⟩ := hW
  have hA : DataW.TrodAll enc Tryd.prog W 0 (fun _ => true) true Tryd.f8.params.toList args.toList ds p := hA0
  rw [Tryd.params8] at hA hval
  obtain ⟨v0, v1, d0, d1, p0, p1, rfl, rfl, rfl, h0, h1⟩ := trodAll_two hA
  obtain ⟨rfl, rfl⟩ := trodVars_none hV
  obtain ⟨x0, rfl, rfl, rfl, wx0⟩ := Go.ChangeMaps.open_string Tryd.underlying9 (hval 0 9 v0 rfl rfl) h0
  have b0 : x0.size ≤ 9223372036854775807 := by have := wx0; unfold maxLen at this; omega
  obtain ⟨x1, rfl, rfl, rfl, wx1⟩ := open_int Tryd.underlying3 (hval 1 3 v1 rfl rfl) h1
  have b1 : -9223372036854775808 ≤ x1 ∧ x1 ≤ 9223372036854775807 := by simpa [Lit.wf, IntKind.min, IntKind.max, IntKind.signed, IntKind.bits] using wx1
  simp only [List.append_nil] at hW'
  refine (parts_walk x0 x1 W b0 b1.1 b1.2 (tabs_of_laid hL)).mono fun e W' ⟨he, hb⟩ => ?_
  subst he
  exact ⟨_, rfl, _, _, _, [], [], [], hW', trodAll_mk1 (shut_bool Tryd.underlying4 _), trodAll_mk2 (Go.ChangeMaps.shut_string Tryd.underlying9 wx0) (shut_int Tryd.underlying3 wx1), rfl, hb.frame _, fun h => by cases h⟩

theorem parts_holds : Rows.RunesPartsSaid :=
  OpenClaim.holds_of_wide 8 Tryd.f8 rfl rfl rfl rfl rfl rfl rfl ⟨rfl, rfl, rfl, rfl, rfl⟩ rfl rfl rfl rfl rfl (by kernel_rfl) Tryd.func8 (by kernel_rfl)
    (of_decide_eq_true (by kernel_rfl)) (by unfold Func.isWrapper; first | (rw [if_pos (by decide +kernel)]; kernel_rfl) | (rw [if_neg (by decide +kernel)]; exact ⟨rfl, rfl⟩))
    (fun os started H enc _ => parts_lifted os started H enc)

theorem parts_card : Rows.RunesPartsCardSaid :=
  Claim7.holds_tied_plain_at .later [] [.data, .pinned] true _ false
    parts_holds (fun _ h => by cases h) (by kernel_rfl) (fun _ h => by cases h) runesParts_row_tie rfl ⟨rfl, rfl⟩ (by kernel_rfl) rfl
    (fun f fn hf hfn => by
      obtain rfl : f = 8 := Option.some.inj ((show Tryd.prog.funcNamed "palaver/palaverlaw01.RunesParts" = some 8 by kernel_rfl).symm.trans hf) |>.symm
      obtain rfl : fn = Tryd.f8 := (Option.some.inj (Tryd.func8.symm.trans hfn)).symm
      exact ⟨by kernel_rfl, fun j t ht => by
        rw [Tryd.params8] at ht
        have hm : t ∈ [9, 3] := by simpa using Array.mem_of_getElem? ht
        have hall : ([9, 3].all fun u => !Tryd.prog.wantsStandIn u) = true := by kernel_rfl
        exact (show Tryd.prog.wantsStandIn t = false by simpa using List.all_eq_true.1 hall t hm)⟩)
    (by kernel_rfl)
end Go.Proofs.YtocejllclpdnnaaDoor
