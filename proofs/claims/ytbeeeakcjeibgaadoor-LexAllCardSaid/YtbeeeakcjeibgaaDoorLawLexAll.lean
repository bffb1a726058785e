/- The statement LexAll: whatever the text, its tokens, or where the first wrong one is, are as the document's own Lex has them. Conditions: none but what the card ties (the library's variables hold what their texts lay). -/
import Derived.Test.YtbeeeakcjeibgaaDoorLexRL
import Derived.Test.YtbeeeakcjeibgaaDoorLexEq
import Derived.Test.YtbeeeakcjeibgaaDoorVFrame
import Derived.StillTailTactics
namespace Go.Proofs.YtbeeeakcjeibgaaDoor
open Go.ChangeShapes Go.WideShapes Go.ChangeAt Go.RowKit Go.Lib

/-- The document's own Lex, way by way. -/
theorem ref_yes (s : ByteArray) (ts : List Tk) (w : World) (hs : s.size ≤ 400) (h : lexL s.data.toList = .ok ts) :
    Calls Tryd.prog 11 #[.string s] w fun e w' => Below w.heap.size w w' ∧ ∃ ao cap, e = .returned (.tuple #[.slice ao (ts.length + 1 : Nat) cap, .int .i64 0, .int .i64 0]) ∧ ts.length + 1 ≤ cap ∧ TkAt w' ao (ts ++ [endT s.size]) := by
  refine (reflex_any s w (by omega)).mono ?_
  rintro e w' ⟨h1, h2⟩
  rw [if_neg (by omega), h] at h2
  exact ⟨h1, h2⟩
theorem ref_no (s : ByteArray) (p : Nat) (w : World) (hs : s.size ≤ 400) (h : lexL s.data.toList = .error p) :
    Calls Tryd.prog 11 #[.string s] w fun e w' => Below w.heap.size w w' ∧ e = .returned (.tuple #[.slice none 0 0, .int .i64 (p : Int), .int .i64 5]) := by
  refine (reflex_any s w (by omega)).mono ?_
  rintro e w' ⟨h1, h2⟩
  rw [if_neg (by omega), h] at h2
  exact ⟨h1, h2⟩
theorem ref_deep (s : ByteArray) (w : World) (hs : s.size ≤ 1099511627776) (h : 400 < s.size) :
    Calls Tryd.prog 11 #[.string s] w fun e w' => Below w.heap.size w w' ∧ e = .returned (.tuple #[.slice none 0 0, .int .i64 400, .int .i64 7]) := by
  refine (reflex_any s w hs).mono ?_
  rintro e w' ⟨h1, h2⟩
  rw [if_pos h] at h2
  exact ⟨h1, h2⟩
theorem tk_none (w : World) : TkAt w none [] := fun h => absurd h (by simp)

set_option maxHeartbeats 4000000 in
set_option maxRecDepth 100000 in
theorem lexall_walk (s : ByteArray) (w : World) (_ : s.size ≤ 9223372036854775807) (hE : Env7 w) :
    Calls Tryd.prog 3 #[.string s] w fun e w' => e = .returned (.bool true) ∧ Below w.heap.size w w' := by
  by_cases hlen : 5000 < s.size
  · have hlz : (5000 : Int) < (s.size : Int) := by omega
    have hA := awake_any w hE
    clear hlen
    go_enter Tryd.func3, Tryd.ntmps3
    go_wp2_with fail
    refine hA.mono ?_
    rintro e w1 ⟨rfl, b1⟩
    go_wp2
    go_ret
    exact ⟨rfl, b1⟩
  have hlz : ¬ (5000 : Int) < (s.size : Int) := by omega
  by_cases h4 : 400 < s.size
  · have cL := lex_deep s w (by omega) h4 hE
    have cR := fun w1 => ref_deep s w1 (by omega) h4
    have cS := fun w1 => same_any none none [] 0 0 0 w1 rfl (tk_none w1) (tk_none w1) (by decide)
    clear hlen h4
    go_enter Tryd.func3, Tryd.ntmps3
    go_wp2_with fail
    refine cL.mono ?_
    rintro e w1 ⟨b1, rfl⟩
    have hE1 := hE.later b1
    clear cL
    go_wp2_with fail
    refine (cR _).mono ?_
    rintro e w2 ⟨b2, rfl⟩
    have hE2 := hE1.later b2
    have hb2 := below_to b1 b2
    clear cR b1 b2 hE1
    go_wp2_with fail
    refine (cS _).mono ?_
    rintro e w3 ⟨rfl, q, rfl⟩
    have hA := awake_any (w2.drewN q) (hE2.later (below_q (Below.refl _ _) q))
    clear cS
    go_wp2_with fail
    refine hA.mono ?_
    rintro e w4 ⟨rfl, b4⟩
    go_wp2
    go_ret
    exact ⟨rfl, below_to (below_q hb2 q) b4⟩
  · cases hZ : lexL s.data.toList with
    | error p =>
      have cL := lex_no s p w (by omega) hZ hE
      have cR := fun w1 => ref_no s p w1 (by omega) hZ
      have cS := fun w1 => same_any none none [] 0 0 0 w1 rfl (tk_none w1) (tk_none w1) (by decide)
      clear hlen hZ
      go_enter Tryd.func3, Tryd.ntmps3
      go_wp2_with fail
      refine cL.mono ?_
      rintro e w1 ⟨b1, rfl⟩
      have hE1 := hE.later b1
      clear cL
      go_wp2_with fail
      refine (cR _).mono ?_
      rintro e w2 ⟨b2, rfl⟩
      have hE2 := hE1.later b2
      have hb2 := below_to b1 b2
      clear cR b1 b2 hE1
      go_wp2_with fail
      refine (cS _).mono ?_
      rintro e w3 ⟨rfl, q, rfl⟩
      have hA := awake_any (w2.drewN q) (hE2.later (below_q (Below.refl _ _) q))
      clear cS
      go_wp2_with fail
      refine hA.mono ?_
      rintro e w4 ⟨rfl, b4⟩
      go_wp2
      go_ret
      exact ⟨rfl, below_to (below_q hb2 q) b4⟩
    | ok ts =>
      have cL := lex_yes s ts w (by omega) hZ hE
      have cR := fun w1 => ref_yes s ts w1 (by omega) hZ
      have hfew := lex_few hZ
      have hln : (ts ++ [endT s.size]).length = ts.length + 1 := by rw [List.length_append, List.length_singleton]
      clear hlen hZ
      go_enter Tryd.func3, Tryd.ntmps3
      go_wp2_with fail
      refine cL.mono ?_
      rintro e w1 ⟨b1, ao, cap, rfl, hcap, hTk⟩
      have hE1 := hE.later b1
      clear cL
      go_wp2_with fail
      refine (cR _).mono ?_
      rintro e w2 ⟨b2, bo, cap2, rfl, hcap2, hTk2⟩
      have hE2 := hE1.later b2
      have hb2 := below_to b1 b2
      have cS := same_any ao bo _ _ cap cap2 w2 hln (hTk.later b2) hTk2 (by omega)
      clear cR b1 b2 hE1 hTk hTk2 hln
      go_wp2_with fail
      refine cS.mono ?_
      rintro e w3 ⟨rfl, q, rfl⟩
      have hA := awake_any (w2.drewN q) (hE2.later (below_q (Below.refl _ _) q))
      clear cS
      go_wp2_with fail
      refine hA.mono ?_
      rintro e w4 ⟨rfl, b4⟩
      go_wp2
      go_ret
      exact ⟨rfl, below_to (below_q hb2 q) b4⟩
set_option maxRecDepth 1000000 in
theorem lexall_lifted (os : Os) (started : os.Started) (H : Type) (enc : TypeId × Value → H) :
    ReturnsInHanded {} Tryd.checked os 3 .any (fun w args => (Rows.lexAllSpec.pre enc Tryd.prog Tryd.f3 [] false w args ∧ laidMetH Tryd.prog tabsLaid7 w) ∧ sizedMet enc Tryd.prog Tryd.f3 (OpenSpec.ofChange Rows.lexAllSpec) false w args)
      (Rows.lexAllSpec.post enc Tryd.prog Tryd.f3 false true false false) := by
  refine returnsInHanded_of_change_and (C := Tryd.checked) (X := fun w _ => laidMetH Tryd.prog tabsLaid7 w) (fun _ _ _ hh h => h.of_heap hh) own started (by kernel_rfl) Tryd.func3
    (ChangeSpec.witness_shaped (enc := enc) (C := Tryd.checked) (os := os) (X := fun w _ => laidMetH Tryd.prog tabsLaid7 w) false (World.laidAll Tryd.prog os tabsLaid7) #[.string ⟨#[]⟩] 8 (World.laidAll_os _ _ _)
      (World.shaped_of_ZipB (by kernel_rfl) (by kernel_rfl)) (by kernel_rfl) (by kernel_rfl) (by kernel_rfl) (start_met7 os _)) ?_
  intro W base args ds gs before hval0 hW _ hsz0 hL _
  have hsz := hsz0
  have hval : ∀ (j : Nat) t v, Tryd.f3.params[j]? = some t → args[j]? = some v → Value.okWide Tryd.prog W .any base t v := hval0
  have hW' := hW
  obtain ⟨p, q, hA0, hV, rfl, _, _⟩ := hW
  have hA : DataW.TrodAll enc Tryd.prog W 0 (fun _ => true) true Tryd.f3.params.toList args.toList ds p := hA0
  rw [Tryd.params3] at hA hval
  obtain ⟨v0, d0, rfl, rfl, h0⟩ := trodAll_one hA
  obtain ⟨rfl, rfl⟩ := trodVars_none hV
  obtain ⟨x0, rfl, rfl, rfl, wx0⟩ := Go.ChangeMaps.open_string Tryd.underlying9 (hval 0 9 v0 rfl rfl) h0
  have rx0 : x0.size ≤ 9223372036854775807 := by have := wx0; unfold maxLen at this; omega
  simp only [List.append_nil] at hW'
  refine (lexall_walk x0 W rx0 (env7_of_laid hL)).mono fun e W' ⟨he, hb⟩ => ?_
  subst he
  exact ⟨_, rfl, _, _, _, [], _, [], hW', trodAll_mk1 (shut_bool Tryd.underlying4 _), trodAll_mk1 (Go.ChangeMaps.shut_string Tryd.underlying9 wx0), rfl, hb.frame _, fun h => by cases h⟩

theorem lexall_holds : Rows.LexAllSaid :=
  OpenClaim.holds_of_wide 3 Tryd.f3 rfl rfl rfl rfl rfl rfl rfl ⟨rfl, rfl, rfl, rfl, rfl⟩ rfl rfl rfl rfl rfl (by kernel_rfl) Tryd.func3 (by kernel_rfl)
    (of_decide_eq_true (by kernel_rfl)) (by unfold Func.isWrapper; first | (rw [if_pos (by decide +kernel)]; kernel_rfl) | (rw [if_neg (by decide +kernel)]; exact ⟨rfl, rfl⟩))
    (fun os started H enc _ => lexall_lifted os started H enc)

theorem lexall_card : Rows.LexAllCardSaid :=
  Claim7.holds_tied_plain_at .later [] [.data, .data, .data, .data, .sentinel, .sentinel, .pinned] true _ true
    lexall_holds (fun _ h => by cases h) (by kernel_rfl) (fun _ h => by cases h) lexAll_row_tie rfl ⟨rfl, rfl⟩ (by kernel_rfl) rfl
    (fun f fn hf hfn => by
      obtain rfl : f = 3 := Option.some.inj ((show Tryd.prog.funcNamed "palaver/palaverlaw06.LexAll" = some 3 by kernel_rfl).symm.trans hf) |>.symm
      obtain rfl : fn = Tryd.f3 := (Option.some.inj (Tryd.func3.symm.trans hfn)).symm
      exact ⟨by kernel_rfl, fun j t ht => by
        rw [Tryd.params3] at ht
        have hm : t ∈ [9] := by simpa using Array.mem_of_getElem? ht
        have hall : ([9].all fun u => !Tryd.prog.wantsStandIn u) = true := by kernel_rfl
        exact (show Tryd.prog.wantsStandIn t = false by simpa using List.all_eq_true.1 hall t hm)⟩)
    (by kernel_rfl)
end Go.Proofs.YtbeeeakcjeibgaaDoor
