/- The statement ValueLines: what is shown of a value that may be has no rune in it that turns a line; a quote begins it if it is a text, and only then. Conditions: none but what the card ties (the library's tables hold what their texts lay). -/
import Derived.Test.YtfcigknalnmhcaaDoorVFrame
import Derived.Test.YtfcigknalnmhcaaDoorVLineMath
import Derived.Test.YtfcigknalnmhcaaDoorVRefCheck
import Derived.Test.YtfcigknalnmhcaaDoorHeldList
namespace Go.Proofs.YtfcigknalnmhcaaDoor
open Go.ChangeShapes Go.WideShapes Go.ChangeAt Go.RowKit

theorem checked_size {K n : Int} {s : ByteArray} (h : checkB K n s.data.toList = true) : s.size ≤ 400 := by
  rcases check_kind h with ⟨_, _, h⟩ | ⟨_, h⟩ | ⟨_, _, h⟩ | ⟨_, _, _, h⟩ | ⟨_, _, _, h⟩
  · rw [← size_list, h]; simp
  · rw [← size_list, h]; simp
  · rw [← size_list, h]; simp
  · exact count_len s h
  · rw [← size_list, h]; simp
theorem first_byte {T : ByteArray} {c : UInt8} {r : List UInt8} (h : T.data.toList = c :: r) : ∃ h0 : 0 < T.size, T[0]'h0 = c := by
  have e : T.data.toList[0]? = some c := by rw [h]; rfl
  rw [Array.getElem?_toList] at e
  obtain ⟨h0, e⟩ := Array.getElem?_eq_some_iff.1 e
  exact ⟨h0, e⟩
theorem Env.drew {w : World} (h : Env w) : Env w.drew := h.later (Below.refl _ _).drew
set_option maxHeartbeats 2000000 in
set_option maxRecDepth 100000 in
theorem valuelines_walk (K n : Int) (s : ByteArray) (w : World) (_ : -9223372036854775808 ≤ K) (_ : K ≤ 9223372036854775807) (n0 : -9223372036854775808 ≤ n) (n1 : n ≤ 9223372036854775807) (_ : s.size ≤ maxLen) (hE : Env w) :
    Calls Tryd.prog 10 #[V3 K n s] w fun e w' => e = .returned (.bool true) ∧ Below w.heap.size w w' := by
  obtain ⟨w0, hw0⟩ : ∃ w0, w.alloc (.cells #[.int .i64 K, .int .i64 n, .string s] 23) = w0 := ⟨_, rfl⟩
  have hb0 : Below w.heap.size w w0 := hw0 ▸ below_alloc w _
  have h3 : Three w0 w.heap.size (.int .i64 K) (.int .i64 n) (.string s) := hw0 ▸ three_new w _ _ _ _
  have hE0 := hE.later hb0
  have cC := refCheck_any K n s w0
  cases hZ : checkB K n s.data.toList with
  | false =>
    rw [hZ] at cC
    subst hw0
    clear hZ hE
    go_enter Tryd.func10, Tryd.ntmps10
    obtain ⟨hlt, c0, c1, c2, f0, f1, f2⟩ := h3
    go_wp2_with fail
    refine cC.mono ?_
    rintro e w1 ⟨rfl, hb1⟩
    clear cC
    have hb2 := below_to hb0 hb1
    have hA := awake_any w1 (hE0.later hb1)
    go_wp2_with fail
    refine hA.mono ?_
    rintro e w2 ⟨rfl, hb3⟩
    go_wp2
    go_ret
    exact ⟨rfl, below_to hb2 hb3⟩
  | true =>
    rw [hZ] at cC
    have hsz := checked_size hZ
    have cS := fun w1 (hb : Below w0.heap.size w0 w1) => show_any K n s w1 n0 n1 (by omega) (hE0.later hb)
    have hT : (⟨(showL K n s.data.toList).toArray⟩ : ByteArray).size ≤ 2422 := by
      have := showL_len K n s.data.toList n0 n1
      rw [size_list] at this
      show (showL K n s.data.toList).toArray.size ≤ 2422
      rw [List.size_toArray]; omega
    obtain ⟨c, r, hcr, hc3⟩ := show_head K n s.data.toList
    have hcalm := calm_show K n s.data.toList
    have hdat : (⟨(showL K n s.data.toList).toArray⟩ : ByteArray).data.toList = showL K n s.data.toList := by simp
    generalize showL K n s.data.toList = L at cS hT hcr hcalm hdat
    obtain ⟨T, hTT⟩ : ∃ T : ByteArray, (⟨L.toArray⟩ : ByteArray) = T := ⟨_, rfl⟩
    rw [hTT] at hT hdat
    simp only [hTT] at cS
    obtain ⟨P, hP⟩ : ∃ P, pcs T.data.toList = P := ⟨_, rfl⟩
    have cP := fun w1 => pieces_P T P hP w1 (by omega)
    have hPs := pieces_len T P hP
    unfold CalmL at hcalm
    rw [← hdat, hP] at hcalm
    have HC := Lib.hid hcalm
    have HT := Lib.hid (And.intro hdat (And.intro hcr hc3))
    have HS := Lib.hid cS
    have HP := Lib.hid cP
    clear hZ hE hP hTT hdat hcr hc3 hcalm cS cP
    subst hw0
    go_enter Tryd.func10, Tryd.ntmps10
    obtain ⟨hlt, c0, c1, c2, f0, f1, f2⟩ := h3
    go_wp2_with fail
    refine cC.mono ?_
    rintro e w1 ⟨rfl, hb1⟩
    clear cC
    have hE1 := hE0.later hb1
    have d0 := (hb1.cell (p := ⟨w.heap.size, 0, none⟩) hlt).trans c0
    have d1 := (hb1.cell (p := ⟨w.heap.size, 1, none⟩) hlt).trans c1
    have d2 := (hb1.cell (p := ⟨w.heap.size, 2, none⟩) hlt).trans c2
    go_wp2_with fail
    refine (HS.out _ hb1).mono ?_
    rintro e w2 ⟨rfl, hb2⟩
    have hb12 := hb1.trans (hb2.mono hb1.size)
    go_wp2_with fail
    refine (HP.out _).mono ?_
    rintro e w3 ⟨ao, cap, rfl, hnc, hb3, hg⟩
    have HG := Lib.hid hg
    have hb13 := hb12.trans (hb3.mono hb12.size)
    have e0 := (hb13.cell (p := ⟨w.heap.size, 0, none⟩) hlt).trans c0
    have hbw := below_to hb0 hb13
    have hE3 := hE0.later hb13
    clear hg HS HP hb1 hb2 hb3 hb12 d0 d1 d2 hE1
    go_wp2
    go_loop [5] (fun iv => ∃ k : Nat, iv = .int .i64 (k : Int) ∧ k ≤ P.length) (fun iv => P.length - (Go.RowKit.intOf iv).toNat)
    case atStart => exact ⟨0, rfl, Nat.zero_le _⟩
    case round =>
      obtain ⟨k, rfl, hk⟩ := hrel
      by_cases hltk : k < P.length
      · obtain ⟨g, rfl, hgl, hcells⟩ := HG.out (by omega)
        obtain ⟨x, hx⟩ : ∃ x, P[k]? = some x := ⟨_, List.getElem?_eq_getElem hltk⟩
        obtain ⟨-, -, hx2, hx3⟩ := hcells k x hx
        obtain ⟨hb, hct⟩ := HC.out x (List.mem_of_getElem? hx)
        rw [decide_eq_false hb] at hx3
        have hkz : (k : Int) < (P.length : Int) := by omega
        have hr1 : ¬ (x.1 : Int) < 32 := by unfold Ctrl at hct; omega
        by_cases hr2 : (127 : Int) ≤ (x.1 : Int)
        · have hr3 : ¬ (x.1 : Int) ≤ 159 := by unfold Ctrl at hct; omega
          clear hcells hx hb hct
          go_wp2
          exact ⟨⟨k + 1, by go_num, by omega⟩, by simp only [Go.RowKit.intOf]; omega⟩
        · clear hcells hx hb hct
          go_wp2
          exact ⟨⟨k + 1, by go_num, by omega⟩, by simp only [Go.RowKit.intOf]; omega⟩
      · have hkz : ¬ ((k : Int) < (P.length : Int)) := by omega
        have hA := awake_any _ hE3.drew
        obtain ⟨hdat, hcr, hc3⟩ := HT.out
        obtain ⟨hT0, hTc⟩ := first_byte (hdat.trans hcr)
        have hTz : (0 : Int) < (T.size : Int) := by omega
        have hbd : Below w.heap.size w w3.drew := hbw.drew
        by_cases hK : K = 3
        · obtain rfl := hc3.2 hK
          subst hK
          clear hc3 hcr hdat
          go_wp2
          go_region_with (go_at_call 12; refine hA.mono ?_; rintro e w5 ⟨rfl, hb5⟩)
          all_goals
            go_wp2
            go_ret
            exact ⟨rfl, below_to hbd hb5⟩
        · have hcn : ¬ c = 34 := fun e => hK (hc3.1 e)
          have hKf : (K == 3) = false := beq_eq_false_iff_ne.mpr hK
          have hcf : ((c.toNat : Int) == 34) = false := beq_eq_false_iff_ne.mpr (fun e => hcn (UInt8.toNat_inj.1 (by show c.toNat = 34; omega)))
          clear hc3 hcr hdat
          go_wp2
          go_region_with (go_at_call 12; refine hA.mono ?_; rintro e w5 ⟨rfl, hb5⟩)
          all_goals
            go_wp2
            go_ret
            exact ⟨rfl, below_to hbd hb5⟩
set_option maxRecDepth 1000000 in
theorem valuelines_lifted (os : Os) (started : os.Started) (H : Type) (enc : TypeId × Value → H) :
    ReturnsInHanded {} Tryd.checked os 10 .any (fun w args => (Rows.valueLinesSpec.pre enc Tryd.prog Tryd.f10 [] false w args ∧ laidMetH Tryd.prog tabsLaid w) ∧ sizedMet enc Tryd.prog Tryd.f10 (OpenSpec.ofChange Rows.valueLinesSpec) false w args)
      (Rows.valueLinesSpec.post enc Tryd.prog Tryd.f10 false true false false) := by
  refine returnsInHanded_of_change_and (C := Tryd.checked) (X := fun w _ => laidMetH Tryd.prog tabsLaid w) (fun _ _ _ hh h => h.of_heap hh) own started (by kernel_rfl) Tryd.func10
    (ChangeSpec.witness_shaped (enc := enc) (C := Tryd.checked) (os := os) (X := fun w _ => laidMetH Tryd.prog tabsLaid w) false (World.laidAll Tryd.prog os tabsLaid) #[.agg #[.int .i64 0, .int .i64 0, .string ⟨#[]⟩]] 8 (World.laidAll_os _ _ _)
      (World.shaped_of_ZipB (by kernel_rfl) (by kernel_rfl)) (by kernel_rfl) (by kernel_rfl) (by kernel_rfl) (start_met os _)) ?_
  intro W base args ds gs before hval0 hW _ _ hL hsz0
  have hsz := hsz0
  have hval : ∀ (j : Nat) t v, Tryd.f10.params[j]? = some t → args[j]? = some v → Value.okWide Tryd.prog W .any base t v := hval0
  have hW' := hW
  obtain ⟨p, q, hA0, hV, rfl, _, _⟩ := hW
  have hA : DataW.TrodAll enc Tryd.prog W 0 (fun _ => true) true Tryd.f10.params.toList args.toList ds p := hA0
  rw [Tryd.params10] at hA hval
  obtain ⟨v0, d0, rfl, rfl, h0⟩ := trodAll_one hA
  obtain ⟨rfl, rfl⟩ := trodVars_none hV
  obtain ⟨K0, n0, s0, rfl, rfl, T0, a0, b0, e0, f0, z0, rfl⟩ := open_val (hval 0 23 v0 rfl rfl) h0
  simp only [List.append_nil] at hW'
  refine (valuelines_walk K0 n0 s0 W a0 b0 e0 f0 z0 (env_of_laid hL)).mono fun e W' ⟨he, hb⟩ => ?_
  subst he
  exact ⟨_, rfl, _, _, _, [], _, [], hW', trodAll_mk1 (shut_bool Tryd.underlying4 _), trodAll_mk1 (T0 _ _), rfl, hb.frame _, fun h => by cases h⟩

theorem valuelines_holds : Rows.ValueLinesSaid :=
  OpenClaim.holds_of_wide 10 Tryd.f10 rfl rfl rfl rfl rfl rfl rfl ⟨rfl, rfl, rfl, rfl, rfl⟩ rfl rfl rfl rfl rfl (by kernel_rfl) Tryd.func10 (by kernel_rfl)
    (of_decide_eq_true (by kernel_rfl)) (by unfold Func.isWrapper; first | (rw [if_pos (by decide +kernel)]; kernel_rfl) | (rw [if_neg (by decide +kernel)]; exact ⟨rfl, rfl⟩))
    (fun os started H enc _ => valuelines_lifted os started H enc)

theorem valuelines_card : Rows.ValueLinesCardSaid :=
  Claim7.holds_tied_plain_at .later [] [.data, .data, .data, .data, .pinned] true _ true
    valuelines_holds (fun _ h => by cases h) (by kernel_rfl) (fun _ h => by cases h) valueLines_row_tie rfl ⟨rfl, rfl⟩ (by kernel_rfl) rfl
    (fun f fn hf hfn => by
      obtain rfl : f = 10 := Option.some.inj ((show Tryd.prog.funcNamed "palaver/palaverlaw05.ValueLines" = some 10 by kernel_rfl).symm.trans hf) |>.symm
      obtain rfl : fn = Tryd.f10 := (Option.some.inj (Tryd.func10.symm.trans hfn)).symm
      exact ⟨by kernel_rfl, fun j t ht => by
        rw [Tryd.params10] at ht
        have hm : t ∈ [23] := by simpa using Array.mem_of_getElem? ht
        have hall : ([23].all fun u => !Tryd.prog.wantsStandIn u) = true := by kernel_rfl
        exact (show Tryd.prog.wantsStandIn t = false by simpa using List.all_eq_true.1 hall t hm)⟩)
    (by kernel_rfl)
end Go.Proofs.YtfcigknalnmhcaaDoor
