/- The statement LexNames: whatever the text, it is a name just where the document's own Name says so. Conditions: none but what the card ties (the library's variables hold what their texts lay). -/
import Derived.Test.YtbeeeakcjeibgaaDoorLexNm
import Derived.Test.YtbeeeakcjeibgaaDoorVFrame
namespace Go.Proofs.YtbeeeakcjeibgaaDoor
open Go.ChangeShapes Go.WideShapes Go.ChangeAt Go.RowKit Go.Lib

theorem deep_prog (s : ByteArray) (w : World) (h : 400 < s.size) (hs : s.size ≤ 9223372036854775807) :
    Calls Tryd.prog 10 #[.string s] w fun e w' => e = .returned (.tuple #[.slice none 0 0, .int .i64 400, .int .i64 7]) ∧ Below w.heap.size w w' := by
  have hz : (400 : Int) < (s.size : Int) := by omega
  clear h
  go_enter Tryd.func10, Tryd.ntmps10
  go_wp2
  go_step3
  go_wp2
  rw [Exit.noGoto_ret]
  exact bodyPost_ret (v := .tuple #[.slice none 0 0, .int .i64 400, .int .i64 7]) (by simp [results, Tryd.results10, go_sem]) rfl ⟨rfl, Below.refl _ _⟩
theorem deep_ref (s : ByteArray) (w : World) (h : 400 < s.size) (hs : s.size ≤ 9223372036854775807) :
    Calls Tryd.prog 11 #[.string s] w fun e w' => e = .returned (.tuple #[.slice none 0 0, .int .i64 400, .int .i64 7]) ∧ Below w.heap.size w w' := by
  have hz : (400 : Int) < (s.size : Int) := by omega
  clear h
  go_enter Tryd.func11, Tryd.ntmps11
  go_wp2
  exact bodyPost_ret (v := .tuple #[.slice none 0 0, .int .i64 400, .int .i64 7]) (by simp [results, Tryd.results11, go_sem]) rfl ⟨rfl, Below.refl _ _⟩
/-- A text without tokens is no name. -/
theorem bad_prog (s : ByteArray) (k f : Int) (hf : f = 5 ∨ f = 7) (w : World) (hL : Calls Tryd.prog 10 #[.string s] w fun e w' => e = .returned (.tuple #[.slice none 0 0, .int .i64 k, .int .i64 f]) ∧ Below w.heap.size w w') :
    Calls Tryd.prog 13 #[.string s] w fun e w' => e = .returned (.bool false) ∧ Below w.heap.size w w' := by
  rcases hf with rfl | rfl
  all_goals
    go_enter Tryd.func13, Tryd.ntmps13
    go_wp2_with fail
    refine hL.mono ?_
    rintro e w1 ⟨rfl, b1⟩
    go_wp2
    go_ret
    exact ⟨rfl, b1⟩
theorem bad_ref (s : ByteArray) (k f : Int) (hf : f = 5 ∨ f = 7) (w : World) (hL : Calls Tryd.prog 11 #[.string s] w fun e w' => e = .returned (.tuple #[.slice none 0 0, .int .i64 k, .int .i64 f]) ∧ Below w.heap.size w w') :
    Calls Tryd.prog 14 #[.string s] w fun e w' => e = .returned (.bool false) ∧ Below w.heap.size w w' := by
  rcases hf with rfl | rfl
  all_goals
    go_enter Tryd.func14, Tryd.ntmps14
    go_wp2_with fail
    refine hL.mono ?_
    rintro e w1 ⟨rfl, b1⟩
    go_wp2
    go_ret
    exact ⟨rfl, b1⟩
theorem ref_y (s : ByteArray) (ts : List Tk) (w : World) (hs : s.size ≤ 400) (h : lexL s.data.toList = .ok ts) :
    Calls Tryd.prog 11 #[.string s] w fun e w' => Below w.heap.size w w' ∧ ∃ ao cap, e = .returned (.tuple #[.slice ao (ts.length + 1 : Nat) cap, .int .i64 0, .int .i64 0]) ∧ ts.length + 1 ≤ cap ∧ TkAt w' ao (ts ++ [endT s.size]) := by
  refine (reflex_any s w (by omega)).mono ?_
  rintro e w' ⟨h1, h2⟩
  rw [if_neg (by omega), h] at h2
  exact ⟨h1, h2⟩
set_option maxHeartbeats 4000000 in
set_option maxRecDepth 100000 in
/-- Of a text that has tokens: by the first one. -/
theorem ok_names (s : ByteArray) (ts : List Tk) (hs : s.size ≤ 400) (hZ : lexL s.data.toList = .ok ts) :
    ∃ D : Bool, (∀ w, Env7 w → Calls Tryd.prog 13 #[.string s] w fun e w' => e = .returned (.bool D) ∧ Below w.heap.size w w') ∧ (∀ w, Env7 w → Calls Tryd.prog 14 #[.string s] w fun e w' => e = .returned (.bool D) ∧ Below w.heap.size w w') := by
  have hfew := lex_few hZ
  have cL := fun w hE => lex_yes s ts w hs hZ hE
  have cR := fun w => ref_y s ts w hs hZ
  obtain ⟨n, hn⟩ : ∃ n, ts.length = n := ⟨_, rfl⟩
  obtain ⟨t, ht⟩ : ∃ t, (ts ++ [endT s.size])[0]? = some t := ⟨_, List.getElem?_eq_getElem (by simp)⟩
  have HT := Lib.hid ht
  have hn2 : ((n : Int) + 1 == 2) = decide (n = 1) := by
    by_cases h : n = 1
    · rw [decide_eq_true h, h]; rfl
    · rw [decide_eq_false h]; exact beq_eq_false_iff_ne.2 (by omega)
  by_cases hk : t.k = 3
  · obtain ⟨t0, ts0, rfl⟩ : ∃ t0 ts0, ts = t0 :: ts0 := by
      cases ts with
      | nil =>
        simp only [List.nil_append, List.getElem?_cons_zero, Option.some.injEq] at ht
        rw [← ht] at hk
        exact absurd (show (0 : Nat) = 3 from hk) (by decide)
      | cons a l => exact ⟨a, l, rfl⟩
    simp only [List.cons_append, List.getElem?_cons_zero, Option.some.injEq] at ht
    subst ht
    by_cases hS : t0.s = s.data.toList
    · obtain rfl := name_alone hZ hk hS
      obtain rfl : n = 1 := hn.symm
      obtain ⟨B, hB⟩ : ∃ B : Bool, B = true ↔ s ∈ words := by
        by_cases h : s ∈ words
        · exact ⟨true, by simp [h]⟩
        · exact ⟨false, by simp [h]⟩
      have cW := fun w => word_any s B hB w
      have cV := fun w => reserved_any s B hB w
      have hSe : (⟨t0.s.toArray⟩ : ByteArray) = s := by rw [hS]
      clear hZ hS hn hn2
      refine ⟨!B, fun w hE => ?_, fun w hE => ?_⟩
      · have c1 := cL w hE
        clear cL cR cV
        go_enter Tryd.func13, Tryd.ntmps13
        go_wp2_with fail
        refine c1.mono ?_
        rintro e w1 ⟨b1, ao, cap, rfl, hcap, hTk⟩
        obtain ⟨g, rfl, hg, hc⟩ := hTk (by simp)
        obtain ⟨x0, x1, -, -⟩ := hc 0 _ HT.out
        rw [hk] at x0
        rw [hSe] at x1
        simp only [Nat.zero_mul, Nat.zero_add] at x0 x1
        clear hc hTk c1
        go_wp2_with fail
        refine (cW _).mono ?_
        rintro e w2 ⟨rfl, rfl⟩
        cases B
        all_goals
          go_wp2
          go_ret
          exact ⟨rfl, b1⟩
      · have c1 := cR w
        clear cL cR cW
        go_enter Tryd.func14, Tryd.ntmps14
        go_wp2_with fail
        refine c1.mono ?_
        rintro e w1 ⟨b1, ao, cap, rfl, hcap, hTk⟩
        obtain ⟨g, rfl, hg, hc⟩ := hTk (by simp)
        obtain ⟨x0, x1, -, -⟩ := hc 0 _ HT.out
        rw [hk] at x0
        rw [hSe] at x1
        simp only [Nat.zero_mul, Nat.zero_add] at x0 x1
        clear hc hTk c1
        go_wp2_with fail
        refine (cV _).mono ?_
        rintro e w2 ⟨rfl, b2⟩
        cases B
        all_goals
          go_wp2
          go_ret
          exact ⟨rfl, below_to b1 b2⟩
    · have hne : (⟨t0.s.toArray⟩ : ByteArray) ≠ s := fun h => hS (by rw [← h])
      have hq := neT hne
      obtain ⟨S, hSS⟩ : ∃ S : ByteArray, (⟨t0.s.toArray⟩ : ByteArray) = S := ⟨_, rfl⟩
      rw [hSS] at hq
      rw [hn] at hfew
      simp only [hn] at cL cR
      clear hZ hS hne
      refine ⟨false, fun w hE => ?_, fun w hE => ?_⟩
      · have c1 := cL w hE
        clear cL cR
        go_enter Tryd.func13, Tryd.ntmps13
        go_wp2_with fail
        refine c1.mono ?_
        rintro e w1 ⟨b1, ao, cap, rfl, hcap, hTk⟩
        obtain ⟨g, rfl, hg, hc⟩ := hTk (by simp)
        obtain ⟨x0, x1, -, -⟩ := hc 0 _ HT.out
        rw [hk] at x0
        rw [hSS] at x1
        simp only [Nat.zero_mul, Nat.zero_add] at x0 x1
        clear hc hTk c1
        go_wp2
        go_ret
        exact ⟨rfl, b1⟩
      · have c1 := cR w
        clear cL cR
        by_cases hn1 : n = 1
        · rw [decide_eq_true hn1] at hn2
          go_enter Tryd.func14, Tryd.ntmps14
          go_wp2_with fail
          refine c1.mono ?_
          rintro e w1 ⟨b1, ao, cap, rfl, hcap, hTk⟩
          obtain ⟨g, rfl, hg, hc⟩ := hTk (by simp)
          obtain ⟨x0, x1, -, -⟩ := hc 0 _ HT.out
          rw [hk] at x0
          rw [hSS] at x1
          simp only [Nat.zero_mul, Nat.zero_add] at x0 x1
          clear hc hTk c1 hn1
          go_wp2
          go_ret
          exact ⟨rfl, b1⟩
        · rw [decide_eq_false hn1] at hn2
          go_enter Tryd.func14, Tryd.ntmps14
          go_wp2_with fail
          refine c1.mono ?_
          rintro e w1 ⟨b1, ao, cap, rfl, hcap, hTk⟩
          clear hTk c1 hn1
          go_wp2
          go_ret
          exact ⟨rfl, b1⟩
  · have hk3 : ((t.k : Int) == 3) = false := beq_eq_false_iff_ne.2 (by omega)
    rw [hn] at hfew
    simp only [hn] at cL cR
    clear hZ hn
    obtain ⟨K, hK⟩ : ∃ K : Int, (t.k : Int) = K := ⟨_, rfl⟩
    rw [hK] at hk3
    refine ⟨false, fun w hE => ?_, fun w hE => ?_⟩
    · have c1 := cL w hE
      clear cL cR
      go_enter Tryd.func13, Tryd.ntmps13
      go_wp2_with fail
      refine c1.mono ?_
      rintro e w1 ⟨b1, ao, cap, rfl, hcap, hTk⟩
      obtain ⟨g, rfl, hg, hc⟩ := hTk (by simp)
      obtain ⟨x0, -, -, -⟩ := hc 0 _ HT.out
      rw [hK] at x0
      simp only [Nat.zero_mul] at x0
      clear hc hTk c1 hk hK
      go_wp2
      go_ret
      exact ⟨rfl, b1⟩
    · have c1 := cR w
      clear cL cR
      by_cases hn1 : n = 1
      · rw [decide_eq_true hn1] at hn2
        go_enter Tryd.func14, Tryd.ntmps14
        go_wp2_with fail
        refine c1.mono ?_
        rintro e w1 ⟨b1, ao, cap, rfl, hcap, hTk⟩
        obtain ⟨g, rfl, hg, hc⟩ := hTk (by simp)
        obtain ⟨x0, -, -, -⟩ := hc 0 _ HT.out
        rw [hK] at x0
        simp only [Nat.zero_mul] at x0
        clear hc hTk c1 hk hK hn1
        go_wp2
        go_ret
        exact ⟨rfl, b1⟩
      · rw [decide_eq_false hn1] at hn2
        go_enter Tryd.func14, Tryd.ntmps14
        go_wp2_with fail
        refine c1.mono ?_
        rintro e w1 ⟨b1, ao, cap, rfl, hcap, hTk⟩
        clear hTk c1 hk hK hn1
        go_wp2
        go_ret
        exact ⟨rfl, b1⟩
theorem all_names (s : ByteArray) (hs : s.size ≤ 9223372036854775807) :
    ∃ D : Bool, (∀ w, Env7 w → Calls Tryd.prog 13 #[.string s] w fun e w' => e = .returned (.bool D) ∧ Below w.heap.size w w') ∧ (∀ w, Env7 w → Calls Tryd.prog 14 #[.string s] w fun e w' => e = .returned (.bool D) ∧ Below w.heap.size w w') := by
  by_cases h4 : 400 < s.size
  · exact ⟨false, fun w _ => bad_prog s 400 7 (.inr rfl) w (deep_prog s w h4 hs), fun w _ => bad_ref s 400 7 (.inr rfl) w (deep_ref s w h4 hs)⟩
  · cases hZ : lexL s.data.toList with
    | error p =>
      refine ⟨false, fun w hE => bad_prog s p 5 (.inl rfl) w ((lex_no s p w (by omega) hZ hE).mono fun e w' h => ⟨h.2, h.1⟩), fun w _ => bad_ref s p 5 (.inl rfl) w ((reflex_any s w (by omega)).mono fun e w' h => ?_)⟩
      obtain ⟨h1, h2⟩ := h
      rw [if_neg h4, hZ] at h2
      exact ⟨h2, h1⟩
    | ok ts => exact ok_names s ts (by omega) hZ
set_option maxHeartbeats 1000000 in
theorem lexnames_walk (s : ByteArray) (w : World) (hs : s.size ≤ 9223372036854775807) (hE : Env7 w) :
    Calls Tryd.prog 4 #[.string s] w fun e w' => e = .returned (.bool true) ∧ Below w.heap.size w w' := by
  obtain ⟨D, c1, c2⟩ := all_names s hs
  cases D
  all_goals
    go_enter Tryd.func4, Tryd.ntmps4
    go_wp2_with fail
    refine (c1 _ hE).mono ?_
    rintro e w1 ⟨rfl, b1⟩
    have hE1 := hE.later b1
    go_wp2_with fail
    refine (c2 _ hE1).mono ?_
    rintro e w2 ⟨rfl, b2⟩
    have hb2 := below_to b1 b2
    have hA := awake_any w2 (hE1.later b2)
    go_wp2_with fail
    refine hA.mono ?_
    rintro e w3 ⟨rfl, b3⟩
    go_wp2
    go_ret
    exact ⟨rfl, below_to hb2 b3⟩
set_option maxRecDepth 1000000 in
theorem lexnames_lifted (os : Os) (started : os.Started) (H : Type) (enc : TypeId × Value → H) :
    ReturnsInHanded {} Tryd.checked os 4 .any (fun w args => (Rows.lexNamesSpec.pre enc Tryd.prog Tryd.f4 [] false w args ∧ laidMetH Tryd.prog tabsLaid7 w) ∧ sizedMet enc Tryd.prog Tryd.f4 (OpenSpec.ofChange Rows.lexNamesSpec) false w args)
      (Rows.lexNamesSpec.post enc Tryd.prog Tryd.f4 false true false false) := by
  refine returnsInHanded_of_change_and (C := Tryd.checked) (X := fun w _ => laidMetH Tryd.prog tabsLaid7 w) (fun _ _ _ hh h => h.of_heap hh) own started (by kernel_rfl) Tryd.func4
    (ChangeSpec.witness_shaped (enc := enc) (C := Tryd.checked) (os := os) (X := fun w _ => laidMetH Tryd.prog tabsLaid7 w) false (World.laidAll Tryd.prog os tabsLaid7) #[.string ⟨#[]⟩] 8 (World.laidAll_os _ _ _)
      (World.shaped_of_ZipB (by kernel_rfl) (by kernel_rfl)) (by kernel_rfl) (by kernel_rfl) (by kernel_rfl) (start_met7 os _)) ?_
  intro W base args ds gs before hval0 hW _ hsz0 hL _
  have hsz := hsz0
  have hval : ∀ (j : Nat) t v, Tryd.f4.params[j]? = some t → args[j]? = some v → Value.okWide Tryd.prog W .any base t v := hval0
  have hW' := hW
  obtain ⟨p, q, hA0, hV, rfl, _, _⟩ := hW
  have hA : DataW.TrodAll enc Tryd.prog W 0 (fun _ => true) true Tryd.f4.params.toList args.toList ds p := hA0
  rw [Tryd.params4] at hA hval
  obtain ⟨v0, d0, rfl, rfl, h0⟩ := trodAll_one hA
  obtain ⟨rfl, rfl⟩ := trodVars_none hV
  obtain ⟨x0, rfl, rfl, rfl, wx0⟩ := Go.ChangeMaps.open_string Tryd.underlying9 (hval 0 9 v0 rfl rfl) h0
  have rx0 : x0.size ≤ 9223372036854775807 := by have := wx0; unfold maxLen at this; omega
  simp only [List.append_nil] at hW'
  refine (lexnames_walk x0 W rx0 (env7_of_laid hL)).mono fun e W' ⟨he, hb⟩ => ?_
  subst he
  exact ⟨_, rfl, _, _, _, [], _, [], hW', trodAll_mk1 (shut_bool Tryd.underlying4 _), trodAll_mk1 (Go.ChangeMaps.shut_string Tryd.underlying9 wx0), rfl, hb.frame _, fun h => by cases h⟩

theorem lexnames_holds : Rows.LexNamesSaid :=
  OpenClaim.holds_of_wide 4 Tryd.f4 rfl rfl rfl rfl rfl rfl rfl ⟨rfl, rfl, rfl, rfl, rfl⟩ rfl rfl rfl rfl rfl (by kernel_rfl) Tryd.func4 (by kernel_rfl)
    (of_decide_eq_true (by kernel_rfl)) (by unfold Func.isWrapper; first | (rw [if_pos (by decide +kernel)]; kernel_rfl) | (rw [if_neg (by decide +kernel)]; exact ⟨rfl, rfl⟩))
    (fun os started H enc _ => lexnames_lifted os started H enc)

theorem lexnames_card : Rows.LexNamesCardSaid :=
  Claim7.holds_tied_plain_at .later [] [.data, .data, .data, .data, .sentinel, .sentinel, .pinned] true _ true
    lexnames_holds (fun _ h => by cases h) (by kernel_rfl) (fun _ h => by cases h) lexNames_row_tie rfl ⟨rfl, rfl⟩ (by kernel_rfl) rfl
    (fun f fn hf hfn => by
      obtain rfl : f = 4 := Option.some.inj ((show Tryd.prog.funcNamed "palaver/palaverlaw06.LexNames" = some 4 by kernel_rfl).symm.trans hf) |>.symm
      obtain rfl : fn = Tryd.f4 := (Option.some.inj (Tryd.func4.symm.trans hfn)).symm
      exact ⟨by kernel_rfl, fun j t ht => by
        rw [Tryd.params4] at ht
        have hm : t ∈ [9] := by simpa using Array.mem_of_getElem? ht
        have hall : ([9].all fun u => !Tryd.prog.wantsStandIn u) = true := by kernel_rfl
        exact (show Tryd.prog.wantsStandIn t = false by simpa using List.all_eq_true.1 hall t hm)⟩)
    (by kernel_rfl)
end Go.Proofs.YtbeeeakcjeibgaaDoor
