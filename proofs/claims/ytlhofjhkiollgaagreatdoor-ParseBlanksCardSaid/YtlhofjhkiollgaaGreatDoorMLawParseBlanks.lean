/- ParseBlanks. -/
import Derived.Test.YtlhofjhkiollgaaGreatDoorGR
import Derived.Test.YtlhofjhkiollgaaGreatDoorGV
import Derived.Test.YtlhofjhkiollgaaGreatDoorMParSame
import Derived.Test.YtlhofjhkiollgaaGreatDoorGB
namespace Go.Proofs.YtlhofjhkiollgaaGreatDoor
open Go.RowKit

set_option maxHeartbeats 4000000 in
set_option maxRecDepth 1000000 in
theorem parseblanks_walk (s : ByteArray) (n : Int) (w : World) (hs : s.size ≤ 9223372036854775807) (_ : -9223372036854775808 ≤ n) (_ : n ≤ 9223372036854775807) (hE : EnvP w) :
    Calls Tryz.prog 8 #[.string s, .int .i64 n] w fun e w' => e = .returned (.bool true) ∧ Below w.heap.size w w' := by
  have cW := fun w' (hb : Below w.heap.size w w') => awake_any w' (hE.later hb)
  by_cases hl : 300 < s.size
  · have hlz : (300 : Int) < (s.size : Int) := by omega
    have c := cW w (Below.refl _ _)
    go_enter Tryz.func8, Tryz.ntmps8
    go_wp2_with fail
    refine c.mono ?_
    rintro e w1 ⟨rfl, b1⟩
    go_wp2_with fail
    go_ret
    exact ⟨rfl, b1⟩
  have hlz : ¬ (300 : Int) < (s.size : Int) := by omega
  obtain ⟨R, hS⟩ := says_all s.data.toList
  obtain ⟨m, hm8, hbm⟩ := and_seven n
  have cP := parse_vals s R w (by omega) hE hS
  clear hs
  go_enter Tryz.func8, Tryz.ntmps8
  go_wp2_with fail
  refine cP.mono ?_
  rintro e w1 ⟨b1, op, nn, z, ao, l, c, p, f, rfl, hv⟩
  clear cP
  cases R with
  | error q =>
    have hq := says_err hS
    have hf : (f == 0) = false := by rw [beq_eq_false_iff_ne]; have := hv.2; omega
    have hb2 := below_to b1 (below_alloc w1 (.cells #[.int .i64 op, .int .i64 nn, .string z, .slice ao l c] 25))
    have c2 := cW _ hb2
    have HB := Lib.hid hb2
    clear hv hq hS cW
    go_wp2_with fail
    refine c2.mono ?_
    rintro e w3 ⟨rfl, b3⟩
    go_wp2_with fail
    go_ret
    exact ⟨rfl, below_to HB.out b3⟩
  | ok a =>
    obtain ⟨rfl, rfl, hx⟩ := hv
    obtain ⟨hall, hnd⟩ := chk_all (says_chk hS)
    have hb2 := below_alloc w1 (.cells #[.int .i64 op, .int .i64 nn, .string z, .slice ao l c] 25)
    have hF := four_new w1 (.int .i64 op) (.int .i64 nn) (.string z) (.slice ao l c) 25
    have hx2 := hx.later hb2
    have hB2 := below_to b1 hb2
    obtain ⟨w2, hw2⟩ : ∃ w2, w1.alloc (.cells #[.int .i64 op, .int .i64 nn, .string z, .slice ao l c] 25) = w2 := ⟨_, rfl⟩
    rw [hw2] at hF hx2 hB2
    have HF := Lib.hid hF
    have HX := Lib.hid hx2
    have HB2 := Lib.hid hB2
    have HN := Lib.hid hnd
    have HE := Lib.hid hE
    have HS := Lib.hid hS
    clear hx hall hnd hb2 hx2 hB2 b1 hE hF hS
    go_wp2_with fail
    go_loopg [8, 9] (m) (fun q s8 s9 wr => ∃ (j : Nat) (T : ByteArray), j + q = m ∧ s9 = .int .i64 (j : Int) ∧ s8 = .string T ∧ Hid (T.data.toList = wraps j s.data.toList) ∧ w2 = wr)
    case atStart => exact ⟨0, s, by omega, rfl, rfl, Lib.hid rfl, rfl⟩
    case round =>
      obtain ⟨j, T, hjm, rfl, rfl, HT, rfl⟩ := hrel
      have HJ := Lib.hid hjm
      have hTs : T.size = s.size + 5 * j := by
        have h1 := HT.out
        rw [← size_list, h1, wraps_len, size_list]
      by_cases hlt : j < m
      · have hltz : (j : Int) < (m : Int) := by omega
        have o1 : ¬ 9223372036854775807 < 3 + T.size := by omega
        have o2 : ¬ 9223372036854775807 < 3 + T.size + 2 := by omega
        have HLT := Lib.hid hlt
        clear hjm hTs hlt hw2
        go_wp2_with fail
        go_roundg (m - (j + 1))
        case measure => have := HJ.out; have := HLT.out; omega
        case rel => exact ⟨j + 1, _, by have := HJ.out; have := HLT.out; omega, by go_num, rfl, Lib.hid (by rw [wraps, wrapB, ← HT.out]; simp), rfl⟩
      · have hltz : ¬ (j : Int) < (m : Int) := by omega
        obtain rfl : j = m := by omega
        have c6 := parse_vals T (.ok a) w2 (by omega) (HE.out.later HB2.out) (by rw [HT.out]; exact wraps_says HS.out j (by rw [size_list]; omega))
        clear hjm hTs hlt hw2 hm8
        go_wp2_with fail
        refine c6.mono ?_
        rintro e w6 ⟨b6, op2, n2, z2, ao2, l2, c2, p2, f2, rfl, rfl, rfl, hx6⟩
        have hb7 := below_alloc w6 (.cells #[.int .i64 op2, .int .i64 n2, .string z2, .slice ao2 l2 c2] 25)
        have hG7 := four_new w6 (.int .i64 op2) (.int .i64 n2) (.string z2) (.slice ao2 l2 c2) 25
        have hF7 := (HF.out.later b6).later hb7
        have hy7 := hx6.later hb7
        have hx7 := (HX.out.later b6).later hb7
        have hB7 := below_to (below_to HB2.out b6) hb7
        obtain ⟨w7, hw7⟩ : ∃ w7, w6.alloc (.cells #[.int .i64 op2, .int .i64 n2, .string z2, .slice ao2 l2 c2] 25) = w7 := ⟨_, rfl⟩
        rw [hw7] at hG7 hF7 hy7 hx7 hB7
        have c8 := psame_any a a _ _ _ _ w7 hy7 hx7 (by have := HN.out; omega)
        have HB7 := Lib.hid hB7
        obtain ⟨-, g0, g1, g2, g3, -⟩ := hG7
        obtain ⟨-, h0, h1, h2, h3, -⟩ := hF7
        clear c6 b6 hx6 hb7 hy7 hx7 hB7 HF HX HB2
        go_wp2_with fail
        refine c8.mono ?_
        rintro e w8 ⟨⟨r, rfl, hr⟩, b8⟩
        obtain rfl : r = true := hr.2 (by trivial)
        have hB8 := below_to HB7.out b8
        have c10 := cW w8 hB8
        have HB8 := Lib.hid hB8
        clear c8 b8 hB8 hr g0 g1 g2 g3 h0 h1 h2 h3 HB7 hw7 cW
        go_wp2_with fail
        refine c10.mono ?_
        rintro e w10 ⟨rfl, b10⟩
        go_wp2_with fail
        go_ret
        exact ⟨rfl, below_to HB8.out b10⟩
open Go.ChangeShapes Go.WideShapes Go.ChangeAt Go.RowKit Go.Lib Go.Shelf
set_option maxRecDepth 1000000 in
theorem parseblanks_lifted (os : Os) (started : os.Started) (H : Type) (enc : TypeId × Value → H) :
    ReturnsInHanded {} Tryz.checked os 8 .any (fun w args => (Rows.parseBlanksSpec.pre enc Tryz.prog Tryz.f8 [] false w args ∧ laidMetH Tryz.prog tabsLaid8 w) ∧ sizedMet enc Tryz.prog Tryz.f8 (OpenSpec.ofChange Rows.parseBlanksSpec) false w args)
      (Rows.parseBlanksSpec.post enc Tryz.prog Tryz.f8 false true false false) := by
  refine returnsInHanded_of_change_and (C := Tryz.checked) (X := fun w _ => laidMetH Tryz.prog tabsLaid8 w) (fun _ _ _ hh h => h.of_heap hh) own started (by kernel_rfl) Tryz.func8
    (ChangeSpec.witness_shaped (enc := enc) (C := Tryz.checked) (os := os) (X := fun w _ => laidMetH Tryz.prog tabsLaid8 w) false (World.laidAll Tryz.prog os tabsLaid8) #[.string ⟨#[]⟩, .int .i64 0] 8 (World.laidAll_os _ _ _)
      (World.shaped_of_ZipB (by kernel_rfl) (by kernel_rfl)) (by kernel_rfl) (by kernel_rfl) (by kernel_rfl) (start_met8 os _)) ?_
  intro W base args ds gs before hval0 hW _ hsz0 hL _
  have hsz := hsz0
  have hval : ∀ (j : Nat) t v, Tryz.f8.params[j]? = some t → args[j]? = some v → Value.okWide Tryz.prog W .any base t v := hval0
  have hW' := hW
  obtain ⟨p, q, hA0, hV, rfl, _, _⟩ := hW
  have hA : DataW.TrodAll enc Tryz.prog W 0 (fun _ => true) true Tryz.f8.params.toList args.toList ds p := hA0
  rw [Tryz.params8] at hA hval
  obtain ⟨v0, v1, d0, d1, p0, p1, rfl, rfl, rfl, h0, h1⟩ := trodAll_two hA
  obtain ⟨rfl, rfl⟩ := trodVars_none hV
  obtain ⟨x0, rfl, rfl, rfl, wx0⟩ := Go.ChangeMaps.open_string Tryz.underlying9 (hval 0 9 v0 rfl rfl) h0
  have rx0 : x0.size ≤ 9223372036854775807 := by have := wx0; unfold maxLen at this; omega
  obtain ⟨x1, rfl, rfl, rfl, wx1⟩ := open_int Tryz.underlying3 (hval 1 3 v1 rfl rfl) h1
  simp only [List.append_nil] at hW'
  refine (parseblanks_walk x0 x1 W rx0 (bounds_i64 wx1).1 (bounds_i64 wx1).2 (envP_of_laid hL)).mono fun e W' ⟨he, hb⟩ => ?_
  subst he
  exact ⟨_, rfl, _, _, _, [], _, [], hW', trodAll_mk1 (shut_bool Tryz.underlying4 _), trodAll_mk2 (Go.ChangeMaps.shut_string Tryz.underlying9 wx0) (shut_int Tryz.underlying3 wx1), rfl, hb.frame _, fun h => by cases h⟩

theorem parseblanks_holds : Rows.ParseBlanksSaid :=
  OpenClaim.holds_of_wide 8 Tryz.f8 rfl rfl rfl rfl rfl rfl rfl ⟨rfl, rfl, rfl, rfl, rfl⟩ rfl rfl rfl rfl rfl (by kernel_rfl) Tryz.func8 (by kernel_rfl)
    (of_decide_eq_true (by kernel_rfl)) (by unfold Func.isWrapper; first | (rw [if_pos (by decide +kernel)]; kernel_rfl) | (rw [if_neg (by decide +kernel)]; exact ⟨rfl, rfl⟩))
    (fun os started H enc _ => parseblanks_lifted os started H enc)

theorem parseblanks_card : Rows.ParseBlanksCardSaid :=
  Claim7.holds_tied_plain_at .later [] [.data, .data, .data, .data, .sentinel, .sentinel, .data, .pinned] true _ true
    parseblanks_holds (fun _ h => by cases h) (by kernel_rfl) (fun _ h => by cases h) parseBlanks_row_tie rfl ⟨rfl, rfl⟩ (by kernel_rfl) rfl
    (fun f fn hf hfn => by
      obtain rfl : f = 8 := Option.some.inj ((show Tryz.prog.funcNamed "palaver/palaverlaw07.ParseBlanks" = some 8 by kernel_rfl).symm.trans hf) |>.symm
      obtain rfl : fn = Tryz.f8 := (Option.some.inj (Tryz.func8.symm.trans hfn)).symm
      exact ⟨by kernel_rfl, fun j t ht => by
        rw [Tryz.params8] at ht
        have hm : t ∈ [9, 3] := by simpa using Array.mem_of_getElem? ht
        have hall : ([9, 3].all fun u => !Tryz.prog.wantsStandIn u) = true := by kernel_rfl
        exact (show Tryz.prog.wantsStandIn t = false by simpa using List.all_eq_true.1 hall t hm)⟩)
    (by kernel_rfl)
end Go.Proofs.YtlhofjhkiollgaaGreatDoor
