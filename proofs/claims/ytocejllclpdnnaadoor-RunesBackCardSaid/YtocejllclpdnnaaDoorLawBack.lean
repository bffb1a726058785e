/- The statement RunesBack: for every string, runes.Back has as many bytes, and of a valid one the runes come the other way round, and twice the other way round is as it was. Conditions: none beside the two tables of unicode/utf8, as their text lays them (the card ties them). -/
import Derived.Test.YtocejllclpdnnaaDoorFrame
import Derived.Test.YtocejllclpdnnaaDoorList
import Derived.Test.YtocejllclpdnnaaDoorSolid
import Derived.Test.YtocejllclpdnnaaDoorCut
import Derived.Deep.QuietTactic
import Derived.BigQuiet
import Derived.IntWalk
import Derived.WalkSmall
namespace Go.Proofs.YtocejllclpdnnaaDoor
open Go.ChangeShapes Go.WideShapes Go.ChangeAt Go.RowKit Go.Lib

structure BackFacts (s T : ByteArray) : Prop where
  size : T.size = s.size
  lst : T.data.toList = backL s.data.toList
theorem back_facts (s : ByteArray) : BackFacts s ⟨(backL s.data.toList).toArray⟩ := by
  refine ⟨?_, by simp⟩
  rw [Lib.size_eq, Lib.size_eq]; simp only; rw [back_len]

/-- Of a valid text and the same the other way round: a rune and its place from the end. -/
theorem back_cells (s T : ByteArray) (W : World) (al am : Option Addr) (N : Nat) (hv : validL s.data.toList = true) (hlst : T.data.toList = backL s.data.toList) (hN : (runesL s.data.toList).length = N)
    (hgl : 0 < N → ∃ g, al = some ⟨g, 0, none⟩ ∧ g < W.heap.size ∧ ∀ j u, (runeVals (runesL s.data.toList))[j]? = some u → W.cell? ⟨g, j, none⟩ = some u)
    (hgm : 0 < N → ∃ g, am = some ⟨g, 0, none⟩ ∧ g < W.heap.size ∧ ∀ j u, (runeVals (runesL T.data.toList))[j]? = some u → W.cell? ⟨g, j, none⟩ = some u) (k : Nat) (hk : k < N) :
    ∃ (gl gm : Nat) (x : Nat), al = some ⟨gl, 0, none⟩ ∧ am = some ⟨gm, 0, none⟩ ∧ gl < W.heap.size ∧ gm < W.heap.size ∧ W.cell? ⟨gl, k, none⟩ = some (.int .i32 (x : Int)) ∧ W.cell? ⟨gm, N - 1 - k, none⟩ = some (.int .i32 (x : Int)) := by
  obtain ⟨gl, h1, h2, h3⟩ := hgl (by omega)
  obtain ⟨gm, h4, h5, h6⟩ := hgm (by omega)
  obtain ⟨x, hx⟩ : ∃ x, (runesL s.data.toList)[k]? = some x := ⟨_, List.getElem?_eq_getElem (by omega)⟩
  refine ⟨gl, gm, x, h1, h4, h2, h5, ?_, ?_⟩
  · exact h3 k _ (by unfold runeVals; rw [List.getElem?_map, hx]; rfl)
  · refine h6 (N - 1 - k) _ ?_
    unfold runeVals
    rw [hlst, runes_back _ hv, List.getElem?_map, List.getElem?_reverse (by omega), hN, show N - 1 - (N - 1 - k) = k by omega, hx]; rfl

set_option maxHeartbeats 4000000 in
set_option maxRecDepth 1000000 in
theorem back_walk (s : ByteArray) (w : World) (hs : s.size ≤ 9223372036854775807) (hT : Tabs w) :
    Calls Tryd.prog 9 #[.string s] w fun e w' => e = .returned (.bool true) ∧ Below w.heap.size w w' := by
  by_cases hbig : 5000 < s.size
  · have hb : decide ((s.size : Int) > 5000) = true := decide_eq_true (by omega)
    go_enter Tryd.func9, Tryd.ntmps9
    go_wp2_with fail
    refine (awake_any _ hT).mono ?_
    rintro e w1 ⟨rfl, hb⟩
    go_wp2
    go_ret
    exact ⟨rfl, hb⟩
  · have hsmall : s.size ≤ 5000 := by omega
    have c1 := back_any s w (by omega) hT
    have hF := back_facts s
    obtain ⟨T, hTT⟩ : ∃ T : ByteArray, T = ⟨(backL s.data.toList).toArray⟩ := ⟨_, rfl⟩
    rw [← hTT] at c1 hF
    clear hTT
    have C1 := Lib.hid c1
    have HF := Lib.hid hF
    have hTs : T.size ≤ 5000 := by rw [hF.size]; exact hsmall
    have hlen : ((T.size : Int) != (s.size : Int)) = false := by rw [hF.size]; simp
    clear c1 hF
    go_enter Tryd.func9, Tryd.ntmps9
    go_wp2_with fail
    refine C1.out.mono ?_
    rintro e w1 ⟨rfl, b1⟩
    have hT1 := hT.later b1
    cases hv : validL s.data.toList with
    | false =>
      have c2 := valid_any s w1 (by omega) hT1
      rw [hv] at c2
      have C2 := Lib.hid c2
      clear c2 hv
      go_wp2_with fail
      refine C2.out.mono ?_
      rintro e w2 ⟨rfl, b2⟩
      have hT2 := hT1.later b2
      have b12 := b1.trans (b2.mono b1.size)
      clear b1 b2
      go_wp2_with fail
      refine (awake_any _ hT2).mono ?_
      rintro e w3 ⟨rfl, b3⟩
      go_wp2
      go_ret
      exact ⟨rfl, b12.trans (b3.mono b12.size)⟩
    | true =>
      have c2 := valid_any s w1 (by omega) hT1
      rw [hv] at c2
      have C2 := Lib.hid c2
      have HV := Lib.hid hv
      clear c2 hv
      go_wp2_with fail
      refine C2.out.mono ?_
      rintro e w2 ⟨rfl, b2⟩
      have b12 := b1.trans (b2.mono b1.size)
      clear b1 b2 C2
      go_wp2_with fail
      refine (list_any s _ (by omega)).mono ?_
      rintro e w3 ⟨v, rfl, ho3, b3⟩
      have b13 := b12.trans (b3.mono b12.size)
      clear b12 b3
      go_wp2_with fail
      refine (list_any T _ (by omega)).mono ?_
      rintro e w4 ⟨v, rfl, ho4, b4⟩
      obtain ⟨al, cl, rfl, hcl, hcl2, hgl⟩ := own_slice (own_later ho3 b4)
      have b14 := b13.trans (b4.mono b13.size)
      obtain ⟨am, cm, rfl, hcm, hcm2, hgm⟩ := own_slice ho4
      clear ho3 ho4 hcl2 hcm2 b13 b4
      obtain ⟨N, hN⟩ : ∃ N, (runesL s.data.toList).length = N := ⟨_, rfl⟩
      have hN2 : (runesL T.data.toList).length = N := by rw [HF.out.lst, runes_back _ HV.out, List.length_reverse, hN]
      have hN5 : N ≤ 5000 := by rw [← hN, runesL_len, ← runeCount_eq]; have := Lib.runeCount_le s; omega
      rw [hN] at hgl hcl
      rw [hN2] at hgm hcm
      have hcell := back_cells s T w4 al am N HV.out HF.out.lst hN hgl hgm
      have HCELL := Lib.hid hcell
      rw [hN, hN2]
      clear hcell hgl hgm hN hN2
      go_wp2
      go_loopw [6] (fun iv wr => ∃ k : Nat, iv = .int .i64 (k : Int) ∧ k ≤ N ∧ Below w4.heap.size w4 wr) (fun iv _ => N - (Go.RowKit.intOf iv).toNat)
      case atStart => exact ⟨0, rfl, Nat.zero_le _, Below.refl _ _⟩
      case round =>
        obtain ⟨k, rfl, hkN, hbw⟩ := hrel
        by_cases hk : k < N
        · obtain ⟨gl, gm, x, rfl, rfl, hl1, hl2, hx1, hx2⟩ := HCELL.out k hk
          have hc1 : wr.cell? ⟨gl, k, none⟩ = some (.int .i32 (x : Int)) := (hbw.cell (p := ⟨gl, k, none⟩) hl1).trans hx1
          have hc2 : wr.cell? ⟨gm, N - 1 - k, none⟩ = some (.int .i32 (x : Int)) := (hbw.cell (p := ⟨gm, N - 1 - k, none⟩) hl2).trans hx2
          obtain ⟨J, hJ⟩ : ∃ J : Nat, J = N - 1 - k := ⟨_, rfl⟩
          rw [← hJ] at hc2
          have hJN : J < N := by omega
          have hkz : (k : Int) < (N : Int) := by omega
          have hJz : (J : Int) < (N : Int) := by omega
          have e1 : (N : Int) - 1 - (k : Int) = (J : Int) := by omega
          have e2 : IntKind.i64.wrap ((N : Int) - 1) = (N : Int) - 1 := IntWalk.i64_in _ (by omega)
          have e3 : IntKind.i64.wrap (J : Int) = (J : Int) := IntWalk.i64_in _ (by omega)
          clear hx1 hx2 hJ
          go_wp2
          go_quiet (fail)
          go_wp2
          refine ⟨⟨k + 1, by go_num, by omega, hbw.trans ⟨rfl, rfl, rfl, Nat.le_refl _, fun _ _ => rfl⟩⟩, by simp only [Go.RowKit.intOf]; omega⟩
        · have hkge : ¬ ((k : Int) < (N : Int)) := by omega
          have hbw0 := b14.trans (hbw.mono b14.size)
          have hTr : Tabs wr := hT.later hbw0
          have c5 : Calls Tryd.prog 25 #[.string T] wr fun e w' => e = .returned (.string s) ∧ Below wr.heap.size wr w' :=
            (back_any T wr (by omega) hTr).mono fun _ _ ⟨he, hw⟩ => ⟨by rw [he]; exact (ret_str (t := s) (by rw [HF.out.lst, back_back _ HV.out])).symm, hw⟩
          have c6 : ∀ W, Tabs W → Calls Tryd.prog 19 #[.string T] W fun e w' => e = .returned (.bool true) ∧ Below W.heap.size W w' := fun W hTW => by
            have := valid_any T W (by omega) hTW
            rw [HF.out.lst, valid_back _ HV.out] at this
            exact this
          have C5 := Lib.hid c5
          have C6 := Lib.hid c6
          clear c5 c6 HCELL
          go_wp2_with fail
          refine C5.out.mono ?_
          rintro e w5 ⟨rfl, b5⟩
          have hT5 := hTr.later b5
          have b15 := hbw0.trans (b5.mono hbw0.size)
          clear b5
          go_wp2_with fail
          refine (C6.out _ hT5).mono ?_
          rintro e w6 ⟨rfl, b6⟩
          have hT6 := hT5.later b6
          have b16 := b15.trans (b6.mono b15.size)
          clear b6
          go_wp2_with fail
          refine (awake_any _ hT6).mono ?_
          rintro e w7 ⟨rfl, b7⟩
          go_wp2
          go_ret
          exact ⟨rfl, b16.trans (b7.mono b16.size)⟩
set_option maxRecDepth 100000 in
theorem back_lifted (os : Os) (started : os.Started) (H : Type) (enc : TypeId × Value → H) :
    ReturnsInHanded {} Tryd.checked os 9 .any (fun w args => (Rows.runesBackSpec.pre enc Tryd.prog Tryd.f9 [] false w args ∧ laidMetH Tryd.prog tabsLaid w) ∧ sizedMet enc Tryd.prog Tryd.f9 (OpenSpec.ofChange Rows.runesBackSpec) false w args)
      (Rows.runesBackSpec.post enc Tryd.prog Tryd.f9 false true false false) := by
  refine returnsInHanded_of_change_and (C := Tryd.checked) (X := fun w _ => laidMetH Tryd.prog tabsLaid w) (fun _ _ _ hh h => h.of_heap hh) own started (by kernel_rfl) Tryd.func9
    (ChangeSpec.witness_shaped (enc := enc) (C := Tryd.checked) (os := os) (X := fun w _ => laidMetH Tryd.prog tabsLaid w) false (World.laidAll Tryd.prog os tabsLaid) #[.string ⟨#[]⟩] 8 (World.laidAll_os _ _ _)
      (World.shaped_of_ZipB (by kernel_rfl) (by kernel_rfl)) (by kernel_rfl) (by kernel_rfl) (by kernel_rfl) (start_met os _)) ?_
  intro W base args ds gs before hval0 hW _ _ hL _
  have hval : ∀ (j : Nat) t v, Tryd.f9.params[j]? = some t → args[j]? = some v → Value.okWide Tryd.prog W .any base t v := hval0
  have hW' := hW
  obtain ⟨p, q, hA0, hV, rfl, _, _⟩ := hW
  have hA : DataW.TrodAll enc Tryd.prog W 0 (fun _ => true) true Tryd.f9.params.toList args.toList ds p := hA0
  rw [Tryd.params9] at hA hval
  obtain ⟨v0, d0, rfl, rfl, h0⟩ := trodAll_one hA
  obtain ⟨rfl, rfl⟩ := trodVars_none hV
  obtain ⟨x0, rfl, rfl, rfl, wx0⟩ := Go.ChangeMaps.open_string Tryd.underlying9 (hval 0 9 v0 rfl rfl) h0
  have b0 : x0.size ≤ 9223372036854775807 := by have := wx0; unfold maxLen at this; omega
  simp only [List.append_nil] at hW'
  refine (back_walk x0 W b0 (tabs_of_laid hL)).mono fun e W' ⟨he, hb⟩ => ?_
  subst he
  exact ⟨_, rfl, _, _, _, [], [], [], hW', trodAll_mk1 (shut_bool Tryd.underlying4 _), trodAll_mk1 (Go.ChangeMaps.shut_string Tryd.underlying9 wx0), rfl, hb.frame _, fun h => by cases h⟩

theorem back_holds : Rows.RunesBackSaid :=
  OpenClaim.holds_of_wide 9 Tryd.f9 rfl rfl rfl rfl rfl rfl rfl ⟨rfl, rfl, rfl, rfl, rfl⟩ rfl rfl rfl rfl rfl (by kernel_rfl) Tryd.func9 (by kernel_rfl)
    (of_decide_eq_true (by kernel_rfl)) (by unfold Func.isWrapper; first | (rw [if_pos (by decide +kernel)]; kernel_rfl) | (rw [if_neg (by decide +kernel)]; exact ⟨rfl, rfl⟩))
    (fun os started H enc _ => back_lifted os started H enc)

theorem back_card : Rows.RunesBackCardSaid :=
  Claim7.holds_tied_plain_at .later [] [.data, .pinned] true _ false
    back_holds (fun _ h => by cases h) (by kernel_rfl) (fun _ h => by cases h) runesBack_row_tie rfl ⟨rfl, rfl⟩ (by kernel_rfl) rfl
    (fun f fn hf hfn => by
      obtain rfl : f = 9 := Option.some.inj ((show Tryd.prog.funcNamed "palaver/palaverlaw01.RunesBack" = some 9 by kernel_rfl).symm.trans hf) |>.symm
      obtain rfl : fn = Tryd.f9 := (Option.some.inj (Tryd.func9.symm.trans hfn)).symm
      exact ⟨by kernel_rfl, fun j t ht => by
        rw [Tryd.params9] at ht
        have hm : t ∈ [9] := by simpa using Array.mem_of_getElem? ht
        have hall : ([9].all fun u => !Tryd.prog.wantsStandIn u) = true := by kernel_rfl
        exact (show Tryd.prog.wantsStandIn t = false by simpa using List.all_eq_true.1 hall t hm)⟩)
    (by kernel_rfl)
end Go.Proofs.YtocejllclpdnnaaDoor
