/- The statement LexCuts: whatever the text, the places of its tokens rise, and what stands between two of them begins with the first one's text. Conditions: none but what the card ties (the library's variables hold what their texts lay). -/
import Derived.Test.YtbeeeakcjeibgaaDoorLexN
import Derived.Test.YtbeeeakcjeibgaaDoorVFrame
import Derived.Deep.QuietTactic
import Derived.Deep.LoopGhost
import Derived.BigQuiet
import Derived.IntWalk
namespace Go.Proofs.YtbeeeakcjeibgaaDoor
open Go.ChangeShapes Go.WideShapes Go.ChangeAt Go.RowKit Go.Lib

set_option maxHeartbeats 4000000 in
set_option maxRecDepth 100000 in
theorem lexcuts_walk (s : ByteArray) (w : World) (_ : s.size ≤ 9223372036854775807) (hE : Env7 w) :
    Calls Tryd.prog 7 #[.string s] w fun e w' => e = .returned (.bool true) ∧ Below w.heap.size w w' := by
  by_cases hlen : s.size ≤ 1000
  · have hlz : ¬ (1000 : Int) < (s.size : Int) := by omega
    by_cases h4 : 400 < s.size
    · have cL := lex_deep s w (by omega) h4 hE
      have hz4 : (400 : Int) ≤ (s.size : Int) := by omega
      clear hlen
      go_enter Tryd.func7, Tryd.ntmps7
      go_wp2_with fail
      refine cL.mono ?_
      rintro e w1 ⟨b1, rfl⟩
      have hA := awake_any w1 (hE.later b1)
      clear cL
      go_wp2_with fail
      refine hA.mono ?_
      rintro e w2 ⟨rfl, b2⟩
      go_wp2
      go_ret
      exact ⟨rfl, below_to b1 b2⟩
    · cases hZ : lexL s.data.toList with
      | error p =>
        have cL := lex_no s p w (by omega) hZ hE
        have hp := lexL_err hZ
        rw [size_list] at hp
        have hz4 : (p : Int) ≤ (s.size : Int) := by omega
        clear hlen hZ
        go_enter Tryd.func7, Tryd.ntmps7
        go_wp2_with fail
        refine cL.mono ?_
        rintro e w1 ⟨b1, rfl⟩
        have hA := awake_any w1 (hE.later b1)
        clear cL
        go_wp2_with fail
        refine hA.mono ?_
        rintro e w2 ⟨rfl, b2⟩
        go_wp2
        go_ret
        exact ⟨rfl, below_to b1 b2⟩
      | ok ts =>
        have cL := lex_yes s ts w (by omega) hZ hE
        have HN := Lib.hid (fun i t (h : ts[i]? = some t) => tk_next hZ h)
        have hfew : ts.length ≤ 400 := by
          have := lex_few hZ
          omega
        clear hlen hZ
        go_enter Tryd.func7, Tryd.ntmps7
        go_wp2_with fail
        refine cL.mono ?_
        rintro e w1 ⟨b1, ao, cap, rfl, hcap, hTk⟩
        have hE1 := hE.later b1
        obtain ⟨g, rfl, hg, hc⟩ := hTk (by simp)
        obtain ⟨z0, -, -, z3⟩ := hc _ _ (tk_end_at ts s.size)
        simp only [endT] at z0 z3
        have HC := Lib.hid hc
        have HB := Lib.hid b1
        have HE := Lib.hid hE1
        obtain ⟨n, hn⟩ : ∃ n, ts.length = n := ⟨_, rfl⟩
        rw [hn] at hcap z0 z3 hfew
        simp only [hn]
        clear cL hE hE1 b1 hc hTk
        go_wp2_with fail
        go_loopg [6] (n) (fun m iv wr => ∃ i : Nat, i + m = n ∧ iv = .int .i64 (i : Int) ∧ ∃ q, wr = w1.drewN q)
        case atStart => exact ⟨0, Nat.zero_add _, rfl, 0, rfl⟩
        case round =>
          obtain ⟨i, hi, rfl, q, rfl⟩ := hrel
          by_cases hlt : i < n
          · have hlz : (i : Int) + 1 < (n : Int) + 1 := by omega
            obtain ⟨t, ht⟩ : ∃ t, ts[i]? = some t := ⟨_, List.getElem?_eq_getElem (by omega)⟩
            obtain ⟨u, hu, h1, h2, -, hk, hpre, -⟩ := HN.out i t ht
            obtain ⟨y0, y1, -, y3⟩ := HC.out i t (tk_at ts s.size i t ht)
            obtain ⟨-, -, -, v3⟩ := HC.out (i + 1) u hu
            clear hu ht
            obtain ⟨S, hS⟩ : ∃ S : ByteArray, (⟨t.s.toArray⟩ : ByteArray) = S := ⟨_, rfl⟩
            obtain ⟨a, ha⟩ : ∃ a, t.a = a := ⟨_, rfl⟩
            obtain ⟨b, hb⟩ : ∃ b, u.a = b := ⟨_, rfl⟩
            obtain ⟨k, hkk⟩ : ∃ k, t.k = k := ⟨_, rfl⟩
            rw [ha] at h1 y3 hpre
            rw [hb] at h1 h2 v3 hpre
            rw [hS] at y1
            rw [hkk] at hk y0 hpre
            obtain ⟨T, hT⟩ : ∃ T, s.extract a b = T := ⟨_, rfl⟩
            rw [hT] at hpre
            have hcut : (k = 3 ∨ k = 4) → S.size ≤ T.size ∧ T.extract 0 S.size = S := fun h => by
              obtain ⟨e1, e2⟩ := cut_pre (hpre h)
              have e3 : S.size = t.s.length := by rw [← hS]; exact List.size_toArray
              rw [e3, e2]
              exact ⟨e1, hS⟩
            clear hpre ha hb hkk hS
            have hab : (a : Int) ≤ (b : Int) := by omega
            have hbs : (b : Int) ≤ (s.size : Int) := by omega
            have hnab : ¬ (b : Int) ≤ (a : Int) := by omega
            have hw : IntKind.i64.wrap ((i : Int) + 1) = (i : Int) + 1 := IntWalk.i64_in _ (by omega)
            have hi0 : (0 : Int) ≤ (i : Int) + 1 := by omega
            have hin : ((i : Int) + 1).toNat = i + 1 := by omega
            have hx1 : (i : Int) < (n : Int) + 1 := by omega
            have hx2 : ¬ (n : Int) + 1 ≤ (i : Int) := by omega
            have hx3 : i < n + 1 := by omega
            have hd1 : decide (b ≤ a) = false := decide_eq_false (by omega)
            have hk0 : ((k : Int) == 0) = false := beq_eq_false_iff_ne.2 (by omega)
            have HK := Lib.hid hk
            have HI := Lib.hid hi
            have HX := Lib.hid hcut
            clear hk hcut h2 hcap hnab
            go_wp2_with fail
            go_quiet (fail)
            go_wp2_with fail
            go_quiet (fail)
            go_wp2_with fail
            clear hk0 v3 y3 hab hbs hw hi0 hin hd1 h1
            rcases HK.out with rfl | rfl | rfl | rfl
            · go_quiet (fail)
              go_wp2_with fail
              go_roundg (gk - 1)
              case rel => exact ⟨i + 1, by have := HI.out; omega, by go_num, ⟨_, rfl⟩⟩
              case measure => have := HI.out; omega
            · go_quiet (fail)
              go_wp2_with fail
              go_roundg (gk - 1)
              case rel => exact ⟨i + 1, by have := HI.out; omega, by go_num, ⟨_, rfl⟩⟩
              case measure => have := HI.out; omega
            · obtain ⟨hsz, hex⟩ := HX.out (.inl rfl)
              have hsz2 : decide (T.size < S.size) = false := decide_eq_false (by omega)
              have hsz3 : (S.size : Int) ≤ (T.size : Int) := by omega
              go_quiet (fail)
              go_wp2_with fail
              go_roundg (gk - 1)
              case rel => exact ⟨i + 1, by have := HI.out; omega, by go_num, ⟨_, rfl⟩⟩
              case measure => have := HI.out; omega
            · obtain ⟨hsz, hex⟩ := HX.out (.inr rfl)
              have hsz2 : decide (T.size < S.size) = false := decide_eq_false (by omega)
              have hsz3 : (S.size : Int) ≤ (T.size : Int) := by omega
              go_quiet (fail)
              go_wp2_with fail
              go_roundg (gk - 1)
              case rel => exact ⟨i + 1, by have := HI.out; omega, by go_num, ⟨_, rfl⟩⟩
              case measure => have := HI.out; omega
          · have hlz : ¬ (i : Int) + 1 < (n : Int) + 1 := by omega
            have hA := awake_any (w1.drewN q) (HE.out.later (below_q (Below.refl _ _) q))
            go_wp2_with fail
            refine hA.mono ?_
            rintro e w2 ⟨rfl, b2⟩
            go_wp2
            go_ret
            exact ⟨rfl, below_to (below_q HB.out q) b2⟩
  · have hlz : (1000 : Int) < (s.size : Int) := by omega
    have hA := awake_any w hE
    clear hlen
    go_enter Tryd.func7, Tryd.ntmps7
    go_wp2_with fail
    refine hA.mono ?_
    rintro e w1 ⟨rfl, b1⟩
    go_wp2
    go_ret
    exact ⟨rfl, b1⟩
set_option maxRecDepth 1000000 in
theorem lexcuts_lifted (os : Os) (started : os.Started) (H : Type) (enc : TypeId × Value → H) :
    ReturnsInHanded {} Tryd.checked os 7 .any (fun w args => (Rows.lexCutsSpec.pre enc Tryd.prog Tryd.f7 [] false w args ∧ laidMetH Tryd.prog tabsLaid7 w) ∧ sizedMet enc Tryd.prog Tryd.f7 (OpenSpec.ofChange Rows.lexCutsSpec) false w args)
      (Rows.lexCutsSpec.post enc Tryd.prog Tryd.f7 false true false false) := by
  refine returnsInHanded_of_change_and (C := Tryd.checked) (X := fun w _ => laidMetH Tryd.prog tabsLaid7 w) (fun _ _ _ hh h => h.of_heap hh) own started (by kernel_rfl) Tryd.func7
    (ChangeSpec.witness_shaped (enc := enc) (C := Tryd.checked) (os := os) (X := fun w _ => laidMetH Tryd.prog tabsLaid7 w) false (World.laidAll Tryd.prog os tabsLaid7) #[.string ⟨#[]⟩] 8 (World.laidAll_os _ _ _)
      (World.shaped_of_ZipB (by kernel_rfl) (by kernel_rfl)) (by kernel_rfl) (by kernel_rfl) (by kernel_rfl) (start_met7 os _)) ?_
  intro W base args ds gs before hval0 hW _ hsz0 hL _
  have hsz := hsz0
  have hval : ∀ (j : Nat) t v, Tryd.f7.params[j]? = some t → args[j]? = some v → Value.okWide Tryd.prog W .any base t v := hval0
  have hW' := hW
  obtain ⟨p, q, hA0, hV, rfl, _, _⟩ := hW
  have hA : DataW.TrodAll enc Tryd.prog W 0 (fun _ => true) true Tryd.f7.params.toList args.toList ds p := hA0
  rw [Tryd.params7] at hA hval
  obtain ⟨v0, d0, rfl, rfl, h0⟩ := trodAll_one hA
  obtain ⟨rfl, rfl⟩ := trodVars_none hV
  obtain ⟨x0, rfl, rfl, rfl, wx0⟩ := Go.ChangeMaps.open_string Tryd.underlying9 (hval 0 9 v0 rfl rfl) h0
  have rx0 : x0.size ≤ 9223372036854775807 := by have := wx0; unfold maxLen at this; omega
  simp only [List.append_nil] at hW'
  refine (lexcuts_walk x0 W rx0 (env7_of_laid hL)).mono fun e W' ⟨he, hb⟩ => ?_
  subst he
  exact ⟨_, rfl, _, _, _, [], _, [], hW', trodAll_mk1 (shut_bool Tryd.underlying4 _), trodAll_mk1 (Go.ChangeMaps.shut_string Tryd.underlying9 wx0), rfl, hb.frame _, fun h => by cases h⟩

theorem lexcuts_holds : Rows.LexCutsSaid :=
  OpenClaim.holds_of_wide 7 Tryd.f7 rfl rfl rfl rfl rfl rfl rfl ⟨rfl, rfl, rfl, rfl, rfl⟩ rfl rfl rfl rfl rfl (by kernel_rfl) Tryd.func7 (by kernel_rfl)
    (of_decide_eq_true (by kernel_rfl)) (by unfold Func.isWrapper; first | (rw [if_pos (by decide +kernel)]; kernel_rfl) | (rw [if_neg (by decide +kernel)]; exact ⟨rfl, rfl⟩))
    (fun os started H enc _ => lexcuts_lifted os started H enc)

theorem lexcuts_card : Rows.LexCutsCardSaid :=
  Claim7.holds_tied_plain_at .later [] [.data, .data, .data, .data, .sentinel, .sentinel, .pinned] true _ true
    lexcuts_holds (fun _ h => by cases h) (by kernel_rfl) (fun _ h => by cases h) lexCuts_row_tie rfl ⟨rfl, rfl⟩ (by kernel_rfl) rfl
    (fun f fn hf hfn => by
      obtain rfl : f = 7 := Option.some.inj ((show Tryd.prog.funcNamed "palaver/palaverlaw06.LexCuts" = some 7 by kernel_rfl).symm.trans hf) |>.symm
      obtain rfl : fn = Tryd.f7 := (Option.some.inj (Tryd.func7.symm.trans hfn)).symm
      exact ⟨by kernel_rfl, fun j t ht => by
        rw [Tryd.params7] at ht
        have hm : t ∈ [9] := by simpa using Array.mem_of_getElem? ht
        have hall : ([9].all fun u => !Tryd.prog.wantsStandIn u) = true := by kernel_rfl
        exact (show Tryd.prog.wantsStandIn t = false by simpa using List.all_eq_true.1 hall t hm)⟩)
    (by kernel_rfl)
end Go.Proofs.YtbeeeakcjeibgaaDoor
