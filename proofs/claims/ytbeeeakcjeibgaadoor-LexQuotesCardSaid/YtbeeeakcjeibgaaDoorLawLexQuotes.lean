/- The statement LexQuotes: a text that may be is quoted as the document has it, and what is quoted is one token, that text. Conditions: none but what the card ties (the library's variables hold what their texts lay). -/
import Derived.Test.YtbeeeakcjeibgaaDoorLexQ
import Derived.Test.YtbeeeakcjeibgaaDoorLexEq
import Derived.Test.YtbeeeakcjeibgaaDoorVRefShow
import Derived.Test.YtbeeeakcjeibgaaDoorVFrame
namespace Go.Proofs.YtbeeeakcjeibgaaDoor
open Go.ChangeShapes Go.WideShapes Go.ChangeAt Go.RowKit Go.Lib

theorem str_back (s : ByteArray) : (⟨s.data.toList.toArray⟩ : ByteArray) = s := by simp
theorem refquote6_any (s : ByteArray) (w : World) (hs : s.size ≤ 400) (hv : validL s.data.toList = true) :
    Calls Tryd.prog 18 #[.string s] w fun e w' => e = .returned (.string ⟨(quoteL s.data.toList).toArray⟩) ∧ Below w.heap.size w w' := by
  have c := fun w => refquote_any s w hs hv
  generalize (⟨(quoteL s.data.toList).toArray⟩ : ByteArray) = T at c ⊢
  go_enter Tryd.func18, Tryd.ntmps18
  go_wp2_with fail
  refine (c _).mono ?_
  rintro e w1 ⟨rfl, b1⟩
  go_wp2
  go_ret
  exact ⟨rfl, b1⟩
set_option maxHeartbeats 4000000 in
set_option maxRecDepth 100000 in
theorem lexquotes_walk (s : ByteArray) (w : World) (_ : s.size ≤ 9223372036854775807) (hE : Env7 w) :
    Calls Tryd.prog 5 #[.string s] w fun e w' => e = .returned (.bool true) ∧ Below w.heap.size w w' := by
  by_cases hlen : 400 < s.size
  · have hlz : (400 : Int) < (s.size : Int) := by omega
    have hA := awake_any w hE
    clear hlen
    go_enter Tryd.func5, Tryd.ntmps5
    go_wp2_with fail
    refine hA.mono ?_
    rintro e w1 ⟨rfl, b1⟩
    go_wp2
    go_ret
    exact ⟨rfl, b1⟩
  have hlz : ¬ (400 : Int) < (s.size : Int) := by omega
  have cV := fun w => refValid_any s w (by omega)
  have cN := fun w => refCount_any s w (by omega)
  cases hv : validL s.data.toList with
  | false =>
    simp only [hv] at cV
    clear hv cN
    go_enter Tryd.func5, Tryd.ntmps5
    go_wp2_with fail
    refine (cV _).mono ?_
    rintro e w1 ⟨rfl, b1⟩
    have hA := awake_any w1 (hE.later b1)
    go_wp2_with fail
    refine hA.mono ?_
    rintro e w2 ⟨rfl, b2⟩
    go_wp2
    go_ret
    exact ⟨rfl, below_to b1 b2⟩
  | true =>
    simp only [hv] at cV
    obtain ⟨c, hc⟩ : ∃ c, countL s.data.toList = c := ⟨_, rfl⟩
    simp only [hc] at cN
    by_cases h100 : 100 < c
    · have hcz : (100 : Int) < (c : Int) := by omega
      clear hv hc h100
      go_enter Tryd.func5, Tryd.ntmps5
      go_wp2_with fail
      refine (cV _).mono ?_
      rintro e w1 ⟨rfl, b1⟩
      have hE1 := hE.later b1
      go_wp2_with fail
      refine (cN _).mono ?_
      rintro e w2 ⟨rfl, b2⟩
      have hb2 := below_to b1 b2
      have hA := awake_any w2 (hE1.later b2)
      go_wp2_with fail
      refine hA.mono ?_
      rintro e w3 ⟨rfl, b3⟩
      go_wp2
      go_ret
      exact ⟨rfl, below_to hb2 b3⟩
    · have hcz : ¬ (100 : Int) < (c : Int) := by omega
      have cQ := fun w => quote_any s w (by omega)
      have cR := fun w => refquote6_any s w (by omega) hv
      have hlq := lexL_quote hv (by omega)
      obtain ⟨Q, hQ⟩ : ∃ Q : ByteArray, (⟨(quoteL s.data.toList).toArray⟩ : ByteArray) = Q := ⟨_, rfl⟩
      have hQl : Q.data.toList = quoteL s.data.toList := by rw [← hQ]
      simp only [hQ] at cQ cR
      rw [← hQl] at hlq
      by_cases hq4 : 400 < Q.size
      · have hqz : (400 : Int) < (Q.size : Int) := by omega
        clear hv hc h100 hlq hQ hQl hq4
        go_enter Tryd.func5, Tryd.ntmps5
        go_wp2_with fail
        refine (cV _).mono ?_
        rintro e w1 ⟨rfl, b1⟩
        have hE1 := hE.later b1
        go_wp2_with fail
        refine (cN _).mono ?_
        rintro e w2 ⟨rfl, b2⟩
        have hE2 := hE1.later b2
        have hb2 := below_to b1 b2
        clear b1 b2 hE1
        go_wp2_with fail
        refine (cQ _).mono ?_
        rintro e w3 ⟨rfl, b3⟩
        have hE3 := hE2.later b3
        have hb3 := below_to hb2 b3
        clear hb2 b3 hE2
        go_wp2_with fail
        refine (cR _).mono ?_
        rintro e w4 ⟨rfl, b4⟩
        have hb4 := below_to hb3 b4
        have hA := awake_any w4 (hE3.later b4)
        go_wp2_with fail
        refine hA.mono ?_
        rintro e w5 ⟨rfl, b5⟩
        go_wp2
        go_ret
        exact ⟨rfl, below_to hb4 b5⟩
      · have hqz : ¬ (400 : Int) < (Q.size : Int) := by omega
        have cL := fun w hE => lex_yes Q _ w (by omega) hlq hE
        have hqi := fun w => eqlIn_tok 2 s 0 0 2 s 0 0 w
        have hqe := fun w => eql_tok 2 s 0 0 2 s 0 0 w
        simp only [sameT_refl] at hqi hqe
        clear hv hc h100 hlq hQ hQl hq4
        go_enter Tryd.func5, Tryd.ntmps5
        go_wp2_with fail
        refine (cV _).mono ?_
        rintro e w1 ⟨rfl, b1⟩
        have hE1 := hE.later b1
        go_wp2_with fail
        refine (cN _).mono ?_
        rintro e w2 ⟨rfl, b2⟩
        have hE2 := hE1.later b2
        have hb2 := below_to b1 b2
        clear b1 b2 hE1
        go_wp2_with fail
        refine (cQ _).mono ?_
        rintro e w3 ⟨rfl, b3⟩
        have hE3 := hE2.later b3
        have hb3 := below_to hb2 b3
        clear hb2 b3 hE2
        go_wp2_with fail
        refine (cR _).mono ?_
        rintro e w4 ⟨rfl, b4⟩
        have hE4 := hE3.later b4
        have hb4 := below_to hb3 b4
        clear hb3 b4 hE3
        go_wp2_with fail
        refine (cL _ hE4).mono ?_
        rintro e w5 ⟨b5, ao, cap, rfl, hcap, hTk⟩
        have hb5 := below_to hb4 b5
        have hA := awake_any w5 (hE4.later b5)
        obtain ⟨g, rfl, hg, hcc⟩ := hTk (by simp)
        obtain ⟨x0, x1, x2, x3⟩ := hcc 0 _ rfl
        obtain ⟨y0, -, -, -⟩ := hcc 1 _ rfl
        have x1 := x1.trans (congrArg (fun z => some (Value.string z)) (str_back s))
        simp only [Nat.zero_mul, Nat.zero_add, Nat.one_mul, endT] at x0 x1 x2 x3 y0
        clear hcc hTk cL cR cQ cN cV hb4 b5 hE4
        go_wp2_with fail
        refine hA.mono ?_
        rintro e w6 ⟨rfl, b6⟩
        go_wp2
        go_ret
        exact ⟨rfl, below_to hb5 b6⟩
set_option maxRecDepth 1000000 in
theorem lexquotes_lifted (os : Os) (started : os.Started) (H : Type) (enc : TypeId × Value → H) :
    ReturnsInHanded {} Tryd.checked os 5 .any (fun w args => (Rows.lexQuotesSpec.pre enc Tryd.prog Tryd.f5 [] false w args ∧ laidMetH Tryd.prog tabsLaid7 w) ∧ sizedMet enc Tryd.prog Tryd.f5 (OpenSpec.ofChange Rows.lexQuotesSpec) false w args)
      (Rows.lexQuotesSpec.post enc Tryd.prog Tryd.f5 false true false false) := by
  refine returnsInHanded_of_change_and (C := Tryd.checked) (X := fun w _ => laidMetH Tryd.prog tabsLaid7 w) (fun _ _ _ hh h => h.of_heap hh) own started (by kernel_rfl) Tryd.func5
    (ChangeSpec.witness_shaped (enc := enc) (C := Tryd.checked) (os := os) (X := fun w _ => laidMetH Tryd.prog tabsLaid7 w) false (World.laidAll Tryd.prog os tabsLaid7) #[.string ⟨#[]⟩] 8 (World.laidAll_os _ _ _)
      (World.shaped_of_ZipB (by kernel_rfl) (by kernel_rfl)) (by kernel_rfl) (by kernel_rfl) (by kernel_rfl) (start_met7 os _)) ?_
  intro W base args ds gs before hval0 hW _ hsz0 hL _
  have hsz := hsz0
  have hval : ∀ (j : Nat) t v, Tryd.f5.params[j]? = some t → args[j]? = some v → Value.okWide Tryd.prog W .any base t v := hval0
  have hW' := hW
  obtain ⟨p, q, hA0, hV, rfl, _, _⟩ := hW
  have hA : DataW.TrodAll enc Tryd.prog W 0 (fun _ => true) true Tryd.f5.params.toList args.toList ds p := hA0
  rw [Tryd.params5] at hA hval
  obtain ⟨v0, d0, rfl, rfl, h0⟩ := trodAll_one hA
  obtain ⟨rfl, rfl⟩ := trodVars_none hV
  obtain ⟨x0, rfl, rfl, rfl, wx0⟩ := Go.ChangeMaps.open_string Tryd.underlying9 (hval 0 9 v0 rfl rfl) h0
  have rx0 : x0.size ≤ 9223372036854775807 := by have := wx0; unfold maxLen at this; omega
  simp only [List.append_nil] at hW'
  refine (lexquotes_walk x0 W rx0 (env7_of_laid hL)).mono fun e W' ⟨he, hb⟩ => ?_
  subst he
  exact ⟨_, rfl, _, _, _, [], _, [], hW', trodAll_mk1 (shut_bool Tryd.underlying4 _), trodAll_mk1 (Go.ChangeMaps.shut_string Tryd.underlying9 wx0), rfl, hb.frame _, fun h => by cases h⟩

theorem lexquotes_holds : Rows.LexQuotesSaid :=
  OpenClaim.holds_of_wide 5 Tryd.f5 rfl rfl rfl rfl rfl rfl rfl ⟨rfl, rfl, rfl, rfl, rfl⟩ rfl rfl rfl rfl rfl (by kernel_rfl) Tryd.func5 (by kernel_rfl)
    (of_decide_eq_true (by kernel_rfl)) (by unfold Func.isWrapper; first | (rw [if_pos (by decide +kernel)]; kernel_rfl) | (rw [if_neg (by decide +kernel)]; exact ⟨rfl, rfl⟩))
    (fun os started H enc _ => lexquotes_lifted os started H enc)

theorem lexquotes_card : Rows.LexQuotesCardSaid :=
  Claim7.holds_tied_plain_at .later [] [.data, .data, .data, .data, .sentinel, .sentinel, .pinned] true _ true
    lexquotes_holds (fun _ h => by cases h) (by kernel_rfl) (fun _ h => by cases h) lexQuotes_row_tie rfl ⟨rfl, rfl⟩ (by kernel_rfl) rfl
    (fun f fn hf hfn => by
      obtain rfl : f = 5 := Option.some.inj ((show Tryd.prog.funcNamed "palaver/palaverlaw06.LexQuotes" = some 5 by kernel_rfl).symm.trans hf) |>.symm
      obtain rfl : fn = Tryd.f5 := (Option.some.inj (Tryd.func5.symm.trans hfn)).symm
      exact ⟨by kernel_rfl, fun j t ht => by
        rw [Tryd.params5] at ht
        have hm : t ∈ [9] := by simpa using Array.mem_of_getElem? ht
        have hall : ([9].all fun u => !Tryd.prog.wantsStandIn u) = true := by kernel_rfl
        exact (show Tryd.prog.wantsStandIn t = false by simpa using List.all_eq_true.1 hall t hm)⟩)
    (by kernel_rfl)
end Go.Proofs.YtbeeeakcjeibgaaDoor
