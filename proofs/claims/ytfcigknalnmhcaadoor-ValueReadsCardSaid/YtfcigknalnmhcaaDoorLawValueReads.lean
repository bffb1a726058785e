/- The statement ValueReads: whatever the text, it is read as the document's own Read has it, and what is read is shown so. Conditions: none but what the card ties (the library's variables hold what their texts lay). -/
import Derived.Test.YtfcigknalnmhcaaDoorVReadAny
import Derived.Test.YtfcigknalnmhcaaDoorVRefRead
import Derived.Test.YtfcigknalnmhcaaDoorVFrame
import Derived.Test.YtfcigknalnmhcaaDoorVEq
import Derived.Test.YtfcigknalnmhcaaDoorVRound
namespace Go.Proofs.YtfcigknalnmhcaaDoor
open Go.ChangeShapes Go.WideShapes Go.ChangeAt Go.RowKit Go.Lib

/-- Of one text one thing is read. -/
theorem readEnd_one {l : List UInt8} {v v' : Value} (h : ReadEnd l v) (h' : ReadEnd l v') : v = v' := by
  rcases h with ⟨K, n, s, hS, rfl⟩ | ⟨hn, rfl⟩
  · rcases h' with ⟨L, m, t, hT, rfl⟩ | ⟨hn, rfl⟩
    · obtain ⟨rfl, rfl, h3⟩ := hS.only L m _ hT
      rw [show t = s from ByteArray.ext (Array.toList_inj.1 h3)]
    · exact absurd hS (hn K n _)
  · rcases h' with ⟨L, m, t, hT, rfl⟩ | ⟨_, rfl⟩
    · exact absurd hT (hn L m _)
    · rfl
set_option maxHeartbeats 4000000 in
set_option maxRecDepth 100000 in
theorem valuereads_walk (s : ByteArray) (w : World) (_ : s.size ≤ 9223372036854775807) (hE : Env7 w) :
    Calls Tryd.prog 7 #[.string s] w fun e w' => e = .returned (.bool true) ∧ Below w.heap.size w w' := by
  by_cases hlen : s.size ≤ 5000
  · have hlz : ¬ (5000 : Int) < (s.size : Int) := by omega
    have cR := fun w1 h => read_any s w1 (by omega) h
    have cF := fun w1 => refread_any s w1 (by omega)
    obtain ⟨l, hl⟩ : ∃ l, s.data.toList = l := ⟨_, rfl⟩
    simp only [hl] at cR cF
    have HL := Lib.hid hl
    clear hl hlen
    go_enter Tryd.func7, Tryd.ntmps7
    go_wp2_with fail
    refine (cR _ hE).mono ?_
    rintro e w1 ⟨⟨v, rfl, hv⟩, hb1⟩
    have hE1 := hE.later hb1
    have cF2 : ∀ w1, Calls Tryd.prog 31 #[.string s] w1 fun e w' => e = .returned v ∧ Below w1.heap.size w1 w' := fun w1 => (cF w1).mono fun e w' ⟨⟨v', he, hv'⟩, hb⟩ => ⟨by rw [he, readEnd_one hv hv'], hb⟩
    clear cR cF
    rcases hv with ⟨K, n, u, hS, rfl⟩ | ⟨_, rfl⟩
    · have hsz := checked_size hS.1
      have cS := fun w1 (h : Env w1) => show_any K n u w1 hS.2.2.1 hS.2.2.2 (by omega) h
      have hq : ((⟨(showL K n u.data.toList).toArray⟩ : ByteArray).toList == s.toList) = true := by
        rw [ByteArray.toList_eq, ByteArray.toList_eq, beq_iff_eq, HL.out]; exact hS.2.1
      have hqi := fun w => eqlIn_val K n u K n u w
      simp only [sameV_refl] at hqi
      generalize (⟨(showL K n u.data.toList).toArray⟩ : ByteArray) = T at cS hq
      clear hS hE
      have hb2 := below_alloc w1 (.cells #[.int .i64 K, .int .i64 n, .string u] 23)
      have x2 := three_new w1 (.int .i64 K) (.int .i64 n) (.string u) 23
      have hE2 := hE1.later hb2
      have hbw2 := below_to hb1 hb2
      clear hE1 hb1 hb2
      go_wp2_with fail
      refine (cF2 _).mono ?_
      rintro e w3 ⟨rfl, hb3⟩
      have x3 := x2.later hb3
      have hE3 := hE2.later hb3
      have hbw3 := below_to hbw2 hb3
      have hb4 := below_alloc w3 (.cells #[.int .i64 K, .int .i64 n, .string u] 23)
      have x4 := x3.later hb4
      have y4 := three_new w3 (.int .i64 K) (.int .i64 n) (.string u) 23
      have hE4 := hE3.later hb4
      have hbw4 := below_to hbw3 hb4
      have hlt := x3.lt
      obtain ⟨-, p0, p1, p2, -, -, -⟩ := x4
      obtain ⟨-, q0, q1, q2, -, -, -⟩ := y4
      clear x2 x3 hE2 hE3 hbw2 hbw3 hb3 hb4 cF2
      go_wp2_with fail
      refine (cS _ hE4.env).mono ?_
      rintro e w5 ⟨rfl, hb5⟩
      have hE5 := hE4.later hb5
      have hbw5 := below_to hbw4 hb5
      clear cS hb5 hE4 hbw4 p0 p1 p2 q0 q1 q2 hqi
      go_wp2_with fail
      refine (awake_any _ hE5.env).mono ?_
      rintro e w6 ⟨rfl, hb6⟩
      go_wp2
      go_ret
      exact ⟨rfl, below_to hbw5 hb6⟩
    · have hqi := fun w => eqlIn_val 0 0 ⟨#[]⟩ 0 0 ⟨#[]⟩ w
      simp only [sameV_refl] at hqi
      clear hE
      have hb2 := below_alloc w1 (.cells #[.int .i64 0, .int .i64 0, .string ⟨#[]⟩] 23)
      have x2 := three_new w1 (.int .i64 0) (.int .i64 0) (.string ⟨#[]⟩) 23
      have hE2 := hE1.later hb2
      have hbw2 := below_to hb1 hb2
      clear hE1 hb1 hb2
      go_wp2_with fail
      refine (cF2 _).mono ?_
      rintro e w3 ⟨rfl, hb3⟩
      have x3 := x2.later hb3
      have hE3 := hE2.later hb3
      have hbw3 := below_to hbw2 hb3
      have hb4 := below_alloc w3 (.cells #[.int .i64 0, .int .i64 0, .string ⟨#[]⟩] 23)
      have x4 := x3.later hb4
      have y4 := three_new w3 (.int .i64 0) (.int .i64 0) (.string ⟨#[]⟩) 23
      have hE4 := hE3.later hb4
      have hbw4 := below_to hbw3 hb4
      obtain ⟨-, p0, p1, p2, -, -, -⟩ := x4
      obtain ⟨-, q0, q1, q2, -, -, -⟩ := y4
      clear x2 x3 hE2 hE3 hbw2 hbw3 hb3 hb4 cF2
      go_wp2_with fail
      refine (awake_any _ hE4.env).mono ?_
      rintro e w6 ⟨rfl, hb6⟩
      go_wp2
      go_ret
      exact ⟨rfl, below_to hbw4 hb6⟩
  · have hlz : (5000 : Int) < (s.size : Int) := by omega
    have cA := awake_any w hE.env
    clear hE
    go_enter Tryd.func7, Tryd.ntmps7
    go_wp2_with fail
    refine cA.mono ?_
    rintro e w1 ⟨rfl, hb1⟩
    clear cA
    go_wp2
    go_ret
    exact ⟨rfl, hb1⟩
set_option maxRecDepth 1000000 in
theorem valuereads_lifted (os : Os) (started : os.Started) (H : Type) (enc : TypeId × Value → H) :
    ReturnsInHanded {} Tryd.checked os 7 .any (fun w args => (Rows.valueReadsSpec.pre enc Tryd.prog Tryd.f7 [] false w args ∧ laidMetH Tryd.prog tabsLaid7 w) ∧ sizedMet enc Tryd.prog Tryd.f7 (OpenSpec.ofChange Rows.valueReadsSpec) false w args)
      (Rows.valueReadsSpec.post enc Tryd.prog Tryd.f7 false true false false) := by
  refine returnsInHanded_of_change_and (C := Tryd.checked) (X := fun w _ => laidMetH Tryd.prog tabsLaid7 w) (fun _ _ _ hh h => h.of_heap hh) own started (by kernel_rfl) Tryd.func7
    (ChangeSpec.witness_shaped (enc := enc) (C := Tryd.checked) (os := os) (X := fun w _ => laidMetH Tryd.prog tabsLaid7 w) false (World.laidAll Tryd.prog os tabsLaid7) #[.string ⟨#[]⟩] 8 (World.laidAll_os _ _ _)
      (World.shaped_of_ZipB (by kernel_rfl) (by kernel_rfl)) (by kernel_rfl) (by kernel_rfl) (by kernel_rfl) (start_met7 os _)) ?_
  intro W base args ds gs before hval0 hW _ hsz0 hL _
  have hsz := hsz0
  have hval : ∀ (j : Nat) t v, Tryd.f7.params[j]? = some t → args[j]? = some v → Value.okWide Tryd.prog W .any base t v := hval0
  have hW' := hW
  obtain ⟨p, q, hA0, hV, rfl, _, _⟩ := hW
  have hA : DataW.TrodAll enc Tryd.prog W 0 (fun _ => true) true Tryd.f7.params.toList args.toList ds p := hA0
  rw [Tryd.params7] at hA hval
  obtain ⟨v0, d0, rfl, rfl, h0⟩ := trodAll_one hA
  obtain ⟨rfl, rfl⟩ := trodVars_none hV
  obtain ⟨x0, rfl, rfl, rfl, wx0⟩ := Go.ChangeMaps.open_string Tryd.underlying9 (hval 0 9 v0 rfl rfl) h0
  have rx0 : x0.size ≤ 9223372036854775807 := by have := wx0; unfold maxLen at this; omega
  simp only [List.append_nil] at hW'
  refine (valuereads_walk x0 W rx0 (env7_of_laid hL)).mono fun e W' ⟨he, hb⟩ => ?_
  subst he
  exact ⟨_, rfl, _, _, _, [], _, [], hW', trodAll_mk1 (shut_bool Tryd.underlying4 _), trodAll_mk1 (Go.ChangeMaps.shut_string Tryd.underlying9 wx0), rfl, hb.frame _, fun h => by cases h⟩

theorem valuereads_holds : Rows.ValueReadsSaid :=
  OpenClaim.holds_of_wide 7 Tryd.f7 rfl rfl rfl rfl rfl rfl rfl ⟨rfl, rfl, rfl, rfl, rfl⟩ rfl rfl rfl rfl rfl (by kernel_rfl) Tryd.func7 (by kernel_rfl)
    (of_decide_eq_true (by kernel_rfl)) (by unfold Func.isWrapper; first | (rw [if_pos (by decide +kernel)]; kernel_rfl) | (rw [if_neg (by decide +kernel)]; exact ⟨rfl, rfl⟩))
    (fun os started H enc _ => valuereads_lifted os started H enc)

theorem valuereads_card : Rows.ValueReadsCardSaid :=
  Claim7.holds_tied_plain_at .later [] [.data, .data, .data, .data, .sentinel, .sentinel, .pinned] true _ true
    valuereads_holds (fun _ h => by cases h) (by kernel_rfl) (fun _ h => by cases h) valueReads_row_tie rfl ⟨rfl, rfl⟩ (by kernel_rfl) rfl
    (fun f fn hf hfn => by
      obtain rfl : f = 7 := Option.some.inj ((show Tryd.prog.funcNamed "palaver/palaverlaw05.ValueReads" = some 7 by kernel_rfl).symm.trans hf) |>.symm
      obtain rfl : fn = Tryd.f7 := (Option.some.inj (Tryd.func7.symm.trans hfn)).symm
      exact ⟨by kernel_rfl, fun j t ht => by
        rw [Tryd.params7] at ht
        have hm : t ∈ [9] := by simpa using Array.mem_of_getElem? ht
        have hall : ([9].all fun u => !Tryd.prog.wantsStandIn u) = true := by kernel_rfl
        exact (show Tryd.prog.wantsStandIn t = false by simpa using List.all_eq_true.1 hall t hm)⟩)
    (by kernel_rfl)
end Go.Proofs.YtfcigknalnmhcaaDoor
