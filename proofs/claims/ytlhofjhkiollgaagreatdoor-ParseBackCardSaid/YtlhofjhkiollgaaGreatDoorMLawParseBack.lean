/- ParseBack. -/
import Derived.Test.YtlhofjhkiollgaaGreatDoorGR
import Derived.Test.YtlhofjhkiollgaaGreatDoorGU
import Derived.Test.YtlhofjhkiollgaaGreatDoorMParSame
import Derived.Test.YtlhofjhkiollgaaGreatDoorGB
namespace Go.Proofs.YtlhofjhkiollgaaGreatDoor
open Go.RowKit

set_option maxHeartbeats 4000000 in
set_option maxRecDepth 1000000 in
theorem parseback_walk (s : ByteArray) (w : World) (hs : s.size ≤ 9223372036854775807) (hE : EnvP w) :
    Calls Tryz.prog 6 #[.string s] w fun e w' => e = .returned (.bool true) ∧ Below w.heap.size w w' := by
  have cW := fun w' (hb : Below w.heap.size w w') => awake_any w' (hE.later hb)
  by_cases hl : 400 < s.size
  · have hlz : (400 : Int) < (s.size : Int) := by omega
    have c := cW w (Below.refl _ _)
    go_enter Tryz.func6, Tryz.ntmps6
    go_wp2_with fail
    refine c.mono ?_
    rintro e w1 ⟨rfl, b1⟩
    go_wp2_with fail
    go_ret
    exact ⟨rfl, b1⟩
  have hlz : ¬ (400 : Int) < (s.size : Int) := by omega
  obtain ⟨R, hS⟩ := says_all s.data.toList
  have cP := parse_vals s R w (by omega) hE hS
  clear hs
  go_enter Tryz.func6, Tryz.ntmps6
  go_wp2_with fail
  refine cP.mono ?_
  rintro e w1 ⟨b1, op, n, z, ao, l, c, p, f, rfl, hv⟩
  clear cP
  cases R with
  | error q =>
    have hq := says_err hS
    have hf : (f == 0) = false := by rw [beq_eq_false_iff_ne]; have := hv.2; omega
    have hb2 := below_to b1 (below_alloc w1 (.cells #[.int .i64 op, .int .i64 n, .string z, .slice ao l c] 25))
    have c2 := cW _ hb2
    have HB := Lib.hid hb2
    clear hv hq hS cW
    go_wp2_with fail
    refine c2.mono ?_
    rintro e w3 ⟨rfl, b3⟩
    go_wp2_with fail
    go_ret
    exact ⟨rfl, below_to HB.out b3⟩
  | ok a =>
    obtain ⟨rfl, rfl, hx⟩ := hv
    have hc := says_chk hS
    obtain ⟨hall, hnd⟩ := chk_all hc
    have hfit := ExIn.fit _ _ hx
    obtain ⟨ao', c', hev, -, -, -, -⟩ := hx.get
    have hb2 := below_alloc w1 (.cells #[.int .i64 op, .int .i64 n, .string z, .slice ao l c] 25)
    have hF := four_new w1 (.int .i64 op) (.int .i64 n) (.string z) (.slice ao l c) 25
    have hx2 := hx.later hb2
    have hB2 := below_to b1 hb2
    obtain ⟨w2, hw2⟩ : ∃ w2, w1.alloc (.cells #[.int .i64 op, .int .i64 n, .string z, .slice ao l c] 25) = w2 := ⟨_, rfl⟩
    rw [hw2] at hF hx2 hB2
    have c3 := ptext_any a _ _ w2 (hE.later hB2) hx2
    rw [hc, if_pos rfl] at c3
    have HT : Hid ((textE a).length ≤ 400 → Says (textE a) (.ok a)) := Lib.hid (text_says hc hfit)
    have HF := Lib.hid hF
    have HX := Lib.hid hx2
    have HB2 := Lib.hid hB2
    have HC := Lib.hid hc
    have HN := Lib.hid hnd
    have HE := Lib.hid hE
    obtain ⟨-, y0, y1, y2, y3, -⟩ := hF
    have hTd : (⟨(textE a).toArray⟩ : ByteArray).data.toList = textE a := by simp
    have hTs : (⟨(textE a).toArray⟩ : ByteArray).size = (textE a).length := by simp [ByteArray.size]
    clear hx hall hnd hfit hev hb2 hx2 hB2 hS hc b1 hE
    generalize hTT : (⟨(textE a).toArray⟩ : ByteArray) = T at *
    go_wp2_with fail
    refine c3.mono ?_
    rintro e w4 ⟨rfl, b4⟩
    have hB4 := below_to HB2.out b4
    have hF4 := HF.out.later b4
    have hx4 := HX.out.later b4
    have c5 := pcheck_any a _ _ w4 (HE.out.later hB4) hx4
    rw [HC.out] at c5
    have HF4 := Lib.hid hF4
    have HX4 := Lib.hid hx4
    have HB4 := Lib.hid hB4
    obtain ⟨-, z0, z1, z2, z3, -⟩ := hF4
    clear c3 y0 y1 y2 y3 b4 hB4 hx4 HF HX HB2 hw2
    go_wp2_with fail
    refine c5.mono ?_
    rintro e w5 ⟨rfl, b5⟩
    have hB5 := below_to HB4.out b5
    have hF5 := HF4.out.later b5
    have hx5 := HX4.out.later b5
    have HF5 := Lib.hid hF5
    have HX5 := Lib.hid hx5
    have HB5 := Lib.hid hB5
    clear c5 z0 z1 z2 z3 b5 HF4 HX4 HB4 hF5 hx5 hB5
    by_cases ht : 400 < T.size
    · have htz : (400 : Int) < (T.size : Int) := by omega
      have c6 := cW w5 HB5.out
      clear cW
      go_wp2_with fail
      refine c6.mono ?_
      rintro e w6 ⟨rfl, b6⟩
      go_wp2_with fail
      go_ret
      exact ⟨rfl, below_to HB5.out b6⟩
    · have htz : ¬ (400 : Int) < (T.size : Int) := by omega
      have c6 := parse_vals T (.ok a) w5 (by omega) (HE.out.later HB5.out) (by rw [hTd]; exact HT.out (by omega))
      have HTD := Lib.hid hTd
      have HTT := Lib.hid hTT
      clear hTd hTs hTT
      go_wp2_with fail
      refine c6.mono ?_
      rintro e w6 ⟨b6, op2, n2, z2, ao2, l2, c2, p2, f2, rfl, hv2⟩
      obtain ⟨rfl, rfl, hx6⟩ := hv2
      have hb7 := below_alloc w6 (.cells #[.int .i64 op2, .int .i64 n2, .string z2, .slice ao2 l2 c2] 25)
      have hG7 := four_new w6 (.int .i64 op2) (.int .i64 n2) (.string z2) (.slice ao2 l2 c2) 25
      have hF7 := (HF5.out.later b6).later hb7
      have hy7 := hx6.later hb7
      have hx7 := (HX5.out.later b6).later hb7
      have hB7 := below_to (below_to HB5.out b6) hb7
      obtain ⟨w7, hw7⟩ : ∃ w7, w6.alloc (.cells #[.int .i64 op2, .int .i64 n2, .string z2, .slice ao2 l2 c2] 25) = w7 := ⟨_, rfl⟩
      rw [hw7] at hG7 hF7 hy7 hx7 hB7
      have c8 := psame_any a a _ _ _ _ w7 hy7 hx7 (by have := HN.out; omega)
      have HG7 := Lib.hid hG7
      have HY7 := Lib.hid hy7
      have HB7 := Lib.hid hB7
      obtain ⟨-, g0, g1, g2, g3, -⟩ := hG7
      obtain ⟨-, h0, h1, h2, h3, -⟩ := hF7
      clear c6 b6 hx6 hb7 hy7 hx7 hB7 HF5 HX5 HB5
      go_wp2_with fail
      refine c8.mono ?_
      rintro e w8 ⟨⟨r, rfl, hr⟩, b8⟩
      obtain rfl : r = true := hr.2 (by trivial)
      have hB8 := below_to HB7.out b8
      have c9 := ptext_any a _ _ w8 (HE.out.later hB8) (HY7.out.later b8)
      rw [HC.out, if_pos rfl, HTT.out] at c9
      have HB8 := Lib.hid hB8
      obtain ⟨-, k0, k1, k2, k3, -⟩ := HG7.out.later b8
      have hTT2 : (T.toList == T.toList) = true := by simp
      clear c8 b8 hB8 hr g0 g1 g2 g3 h0 h1 h2 h3 HB7 HY7 HG7 hw7
      go_wp2_with fail
      refine c9.mono ?_
      rintro e w9 ⟨rfl, b9⟩
      have hB9 := below_to HB8.out b9
      have c10 := cW w9 hB9
      have HB9 := Lib.hid hB9
      clear c9 cW b9 hB9 k0 k1 k2 k3 HB8
      go_wp2_with fail
      refine c10.mono ?_
      rintro e w10 ⟨rfl, b10⟩
      go_wp2_with fail
      go_ret
      exact ⟨rfl, below_to HB9.out b10⟩
open Go.ChangeShapes Go.WideShapes Go.ChangeAt Go.RowKit Go.Lib Go.Shelf
set_option maxRecDepth 1000000 in
theorem parseback_lifted (os : Os) (started : os.Started) (H : Type) (enc : TypeId × Value → H) :
    ReturnsInHanded {} Tryz.checked os 6 .any (fun w args => (Rows.parseBackSpec.pre enc Tryz.prog Tryz.f6 [] false w args ∧ laidMetH Tryz.prog tabsLaid8 w) ∧ sizedMet enc Tryz.prog Tryz.f6 (OpenSpec.ofChange Rows.parseBackSpec) false w args)
      (Rows.parseBackSpec.post enc Tryz.prog Tryz.f6 false true false false) := by
  refine returnsInHanded_of_change_and (C := Tryz.checked) (X := fun w _ => laidMetH Tryz.prog tabsLaid8 w) (fun _ _ _ hh h => h.of_heap hh) own started (by kernel_rfl) Tryz.func6
    (ChangeSpec.witness_shaped (enc := enc) (C := Tryz.checked) (os := os) (X := fun w _ => laidMetH Tryz.prog tabsLaid8 w) false (World.laidAll Tryz.prog os tabsLaid8) #[.string ⟨#[]⟩] 8 (World.laidAll_os _ _ _)
      (World.shaped_of_ZipB (by kernel_rfl) (by kernel_rfl)) (by kernel_rfl) (by kernel_rfl) (by kernel_rfl) (start_met8 os _)) ?_
  intro W base args ds gs before hval0 hW _ hsz0 hL _
  have hsz := hsz0
  have hval : ∀ (j : Nat) t v, Tryz.f6.params[j]? = some t → args[j]? = some v → Value.okWide Tryz.prog W .any base t v := hval0
  have hW' := hW
  obtain ⟨p, q, hA0, hV, rfl, _, _⟩ := hW
  have hA : DataW.TrodAll enc Tryz.prog W 0 (fun _ => true) true Tryz.f6.params.toList args.toList ds p := hA0
  rw [Tryz.params6] at hA hval
  obtain ⟨v0, d0, rfl, rfl, h0⟩ := trodAll_one hA
  obtain ⟨rfl, rfl⟩ := trodVars_none hV
  obtain ⟨x0, rfl, rfl, rfl, wx0⟩ := Go.ChangeMaps.open_string Tryz.underlying9 (hval 0 9 v0 rfl rfl) h0
  have rx0 : x0.size ≤ 9223372036854775807 := by have := wx0; unfold maxLen at this; omega
  simp only [List.append_nil] at hW'
  refine (parseback_walk x0 W rx0 (envP_of_laid hL)).mono fun e W' ⟨he, hb⟩ => ?_
  subst he
  exact ⟨_, rfl, _, _, _, [], _, [], hW', trodAll_mk1 (shut_bool Tryz.underlying4 _), trodAll_mk1 (Go.ChangeMaps.shut_string Tryz.underlying9 wx0), rfl, hb.frame _, fun h => by cases h⟩

theorem parseback_holds : Rows.ParseBackSaid :=
  OpenClaim.holds_of_wide 6 Tryz.f6 rfl rfl rfl rfl rfl rfl rfl ⟨rfl, rfl, rfl, rfl, rfl⟩ rfl rfl rfl rfl rfl (by kernel_rfl) Tryz.func6 (by kernel_rfl)
    (of_decide_eq_true (by kernel_rfl)) (by unfold Func.isWrapper; first | (rw [if_pos (by decide +kernel)]; kernel_rfl) | (rw [if_neg (by decide +kernel)]; exact ⟨rfl, rfl⟩))
    (fun os started H enc _ => parseback_lifted os started H enc)

theorem parseback_card : Rows.ParseBackCardSaid :=
  Claim7.holds_tied_plain_at .later [] [.data, .data, .data, .data, .sentinel, .sentinel, .data, .pinned] true _ true
    parseback_holds (fun _ h => by cases h) (by kernel_rfl) (fun _ h => by cases h) parseBack_row_tie rfl ⟨rfl, rfl⟩ (by kernel_rfl) rfl
    (fun f fn hf hfn => by
      obtain rfl : f = 6 := Option.some.inj ((show Tryz.prog.funcNamed "palaver/palaverlaw07.ParseBack" = some 6 by kernel_rfl).symm.trans hf) |>.symm
      obtain rfl : fn = Tryz.f6 := (Option.some.inj (Tryz.func6.symm.trans hfn)).symm
      exact ⟨by kernel_rfl, fun j t ht => by
        rw [Tryz.params6] at ht
        have hm : t ∈ [9] := by simpa using Array.mem_of_getElem? ht
        have hall : ([9].all fun u => !Tryz.prog.wantsStandIn u) = true := by kernel_rfl
        exact (show Tryz.prog.wantsStandIn t = false by simpa using List.all_eq_true.1 hall t hm)⟩)
    (by kernel_rfl)
end Go.Proofs.YtlhofjhkiollgaaGreatDoor
