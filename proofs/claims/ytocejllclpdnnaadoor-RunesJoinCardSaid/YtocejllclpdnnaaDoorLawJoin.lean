/- The statement RunesJoin: of two valid strings, the one behind the other has both one's runes, is cut, folded and turned round as both are. Conditions: none beside the two tables of unicode/utf8, as their text lays them (the card ties them). -/
import Derived.Test.YtocejllclpdnnaaDoorFrame
import Derived.Test.YtocejllclpdnnaaDoorList
import Derived.Test.YtocejllclpdnnaaDoorFoldMath
import Derived.Test.YtocejllclpdnnaaDoorCut
import Derived.Deep.QuietTactic
import Derived.BigQuiet
import Derived.IntWalk
namespace Go.Proofs.YtocejllclpdnnaaDoor
open Go.ChangeShapes Go.WideShapes Go.ChangeAt Go.RowKit Go.Lib

/-- The first ways: too long a text, or one that is not valid. -/
theorem join_awake (w w1 : World) (hT : Tabs w) (hb : Below w.heap.size w w1) : Calls Tryd.prog 13 #[] w1 fun e w' => e = .returned (.bool true) ∧ Below w.heap.size w w' :=
  (awake_any w1 (hT.later hb)).mono fun _ _ ⟨he, hw⟩ => ⟨he, hb.trans (hw.mono hb.size)⟩

theorem app_list (a b : ByteArray) : (a ++ b).data.toList = a.data.toList ++ b.data.toList := by
  rw [ByteArray.data_append, Array.toList_append]
theorem app_size (a b : ByteArray) : (a ++ b).size = a.size + b.size := by
  rw [Lib.size_eq, app_list, List.length_append, ← Lib.size_eq, ← Lib.size_eq]
theorem str_mk {l : List UInt8} {t : ByteArray} (h : t.data.toList = l) : (⟨l.toArray⟩ : ByteArray) = t := by subst h; simp

theorem fold_len (l : List UInt8) : (foldL l).length ≤ 4 * l.length := by
  induction l using pcs_induct with
  | h0 => simp [foldL_nil]
  | h1 l hne ih =>
    have hw := decodeL_width l
    have hw2 := decodeL_le l hne
    have h4 := decodeL_four l
    have hl : 0 < l.length := List.length_pos_iff.2 hne
    have hp : (foldPc ((decodeL l).1, l.take (decodeL l).2)).length ≤ 4 := by
      unfold foldPc
      split
      · simp only [List.length_take]; omega
      · have := Lib.runeCells_le (upperZ (decodeL l).1); rw [Lib.runeCells_length] at this; exact this.2
    rw [foldL_step l hne, List.length_append]
    rw [List.length_drop] at ih
    omega

/-- The runes of both: where each lies. -/
theorem join_cells (a b : ByteArray) (W : World) (al ax ay : Option Addr) (NA NB L : Nat) (hv : validL a.data.toList = true) (hNA : (runesL a.data.toList).length = NA) (hNB : (runesL b.data.toList).length = NB) (hL : L = NA + NB)
    (hgl : 0 < L → ∃ g, al = some ⟨g, 0, none⟩ ∧ g < W.heap.size ∧ ∀ j u, (runeVals (runesL (a ++ b).data.toList))[j]? = some u → W.cell? ⟨g, j, none⟩ = some u)
    (hgx : 0 < NA → ∃ g, ax = some ⟨g, 0, none⟩ ∧ g < W.heap.size ∧ ∀ j u, (runeVals (runesL a.data.toList))[j]? = some u → W.cell? ⟨g, j, none⟩ = some u)
    (hgy : 0 < NB → ∃ g, ay = some ⟨g, 0, none⟩ ∧ g < W.heap.size ∧ ∀ j u, (runeVals (runesL b.data.toList))[j]? = some u → W.cell? ⟨g, j, none⟩ = some u) (k : Nat) (hk : k < L) :
    ∃ (gl gr x : Nat), al = some ⟨gl, 0, none⟩ ∧ gl < W.heap.size ∧ gr < W.heap.size ∧ W.cell? ⟨gl, k, none⟩ = some (.int .i32 (x : Int)) ∧
      ((k < NA ∧ ax = some ⟨gr, 0, none⟩ ∧ W.cell? ⟨gr, k, none⟩ = some (.int .i32 (x : Int))) ∨ (NA ≤ k ∧ k - NA < NB ∧ ay = some ⟨gr, 0, none⟩ ∧ W.cell? ⟨gr, k - NA, none⟩ = some (.int .i32 (x : Int)))) := by
  obtain ⟨gl, h1, h2, h3⟩ := hgl (by omega)
  by_cases hc : k < NA
  · obtain ⟨gr, h4, h5, h6⟩ := hgx (by omega)
    obtain ⟨x, hx⟩ : ∃ x, (runesL a.data.toList)[k]? = some x := ⟨_, List.getElem?_eq_getElem (by omega)⟩
    refine ⟨gl, gr, x, h1, h2, h5, h3 k _ ?_, .inl ⟨hc, h4, h6 k _ ?_⟩⟩
    · unfold runeVals; rw [app_list, runes_append _ _ hv, List.getElem?_map, List.getElem?_append_left (by omega), hx]; rfl
    · unfold runeVals; rw [List.getElem?_map, hx]; rfl
  · obtain ⟨gr, h4, h5, h6⟩ := hgy (by omega)
    obtain ⟨x, hx⟩ : ∃ x, (runesL b.data.toList)[k - NA]? = some x := ⟨_, List.getElem?_eq_getElem (by omega)⟩
    refine ⟨gl, gr, x, h1, h2, h5, h3 k _ ?_, .inr ⟨by omega, by omega, h4, h6 (k - NA) _ ?_⟩⟩
    · unfold runeVals; rw [app_list, runes_append _ _ hv, List.getElem?_map, List.getElem?_append_right (by omega), hNA, hx]; rfl
    · unfold runeVals; rw [List.getElem?_map, hx]; rfl

set_option maxHeartbeats 4000000 in
set_option maxRecDepth 1000000 in
theorem join_walk (a b : ByteArray) (w : World) (hsa : a.size ≤ 9223372036854775807) (hsb : b.size ≤ 9223372036854775807) (hT : Tabs w) :
    Calls Tryd.prog 10 #[.string a, .string b] w fun e w' => e = .returned (.bool true) ∧ Below w.heap.size w w' := by
  by_cases hbig : 2000 < a.size
  · have hb : decide ((a.size : Int) > 2000) = true := decide_eq_true (by omega)
    go_enter Tryd.func10, Tryd.ntmps10
    go_wp2_with fail
    refine (join_awake w _ hT (Below.refl _ _)).mono ?_
    rintro e w1 ⟨rfl, hb⟩
    go_wp2
    go_ret
    exact ⟨rfl, hb⟩
  by_cases hbig2 : 2000 < b.size
  · have ha : decide ((a.size : Int) > 2000) = false := decide_eq_false (by omega)
    have hb : decide ((b.size : Int) > 2000) = true := decide_eq_true (by omega)
    go_enter Tryd.func10, Tryd.ntmps10
    go_wp2_with fail
    refine (join_awake w _ hT (Below.refl _ _)).mono ?_
    rintro e w1 ⟨rfl, hb⟩
    go_wp2
    go_ret
    exact ⟨rfl, hb⟩
  have hsa2 : a.size ≤ 2000 := by omega
  have hsb2 : b.size ≤ 2000 := by omega
  have hva := fun W (hW : Tabs W) => valid_any a W (by omega) hW
  have hvb := fun W (hW : Tabs W) => valid_any b W (by omega) hW
  cases hA : validL a.data.toList with
  | false =>
    rw [hA] at hva
    have HA := Lib.hid hva
    clear hva hvb hA
    go_enter Tryd.func10, Tryd.ntmps10
    go_wp2_with fail
    refine (HA.out _ hT).mono ?_
    rintro e w1 ⟨rfl, b1⟩
    go_wp2_with fail
    refine (join_awake w _ hT b1).mono ?_
    rintro e w1 ⟨rfl, hb⟩
    go_wp2
    go_ret
    exact ⟨rfl, hb⟩
  | true =>
    rw [hA] at hva
    have HA := Lib.hid hva
    have HAV := Lib.hid hA
    clear hva hA
    cases hB : validL b.data.toList with
    | false =>
      rw [hB] at hvb
      have HB := Lib.hid hvb
      clear hvb hB
      go_enter Tryd.func10, Tryd.ntmps10
      go_wp2_with fail
      refine (HA.out _ hT).mono ?_
      rintro e w1 ⟨rfl, b1⟩
      have hT1 := hT.later b1
      go_wp2_with fail
      refine (HB.out _ hT1).mono ?_
      rintro e w2 ⟨rfl, b2⟩
      have b12 := b1.trans (b2.mono b1.size)
      go_wp2_with fail
      refine (join_awake w _ hT b12).mono ?_
      rintro e w1 ⟨rfl, hb⟩
      go_wp2
      go_ret
      exact ⟨rfl, hb⟩
    | true =>
      rw [hB] at hvb
      have HB := Lib.hid hvb
      have HBV := Lib.hid hB
      clear hvb hB
      go_enter Tryd.func10, Tryd.ntmps10
      go_wp2_with fail
      refine (HA.out _ hT).mono ?_
      rintro e w1 ⟨rfl, b1⟩
      have hT1 := hT.later b1
      go_wp2_with fail
      refine (HB.out _ hT1).mono ?_
      rintro e w2 ⟨rfl, b2⟩
      have b12 := b1.trans (b2.mono b1.size)
      clear b1 b2 hT1
      have hab : (a ++ b).size ≤ 4000 := by rw [app_size]; omega
      go_wp2_with fail
      refine (list_any (a ++ b) _ (by omega)).mono ?_
      rintro e w3 ⟨v, rfl, ho1, b3⟩
      have b13 := b12.trans (b3.mono b12.size)
      obtain ⟨al, cl, rfl, -, -, -⟩ := own_slice ho1
      clear b12 b3
      go_wp2_with fail
      refine (list_any a _ (by omega)).mono ?_
      rintro e w4 ⟨v, rfl, ho2, b4⟩
      have b14 := b13.trans (b4.mono b13.size)
      obtain ⟨ax, cx, rfl, -, -, -⟩ := own_slice ho2
      have ho1' := own_later ho1 b4
      clear b13 b4 ho1
      go_wp2_with fail
      refine (list_any b _ (by omega)).mono ?_
      rintro e w5 ⟨v, rfl, ho3, b5⟩
      have b15 := b14.trans (b5.mono b14.size)
      obtain ⟨ay, cy, rfl, hcy, -, hgy⟩ := own_slice ho3
      obtain ⟨ax', cx', e1, hcx, -, hgx⟩ := own_slice (own_later ho2 b5)
      obtain ⟨rfl, -, rfl⟩ := Value.slice.inj e1
      obtain ⟨al', cl', e2, hcl, -, hgl⟩ := own_slice (own_later ho1' b5)
      obtain ⟨rfl, -, rfl⟩ := Value.slice.inj e2
      clear ho1' ho2 ho3 b14 b5 e1 e2
      obtain ⟨NA, hNA⟩ : ∃ N, (runesL a.data.toList).length = N := ⟨_, rfl⟩
      obtain ⟨NB, hNB⟩ : ∃ N, (runesL b.data.toList).length = N := ⟨_, rfl⟩
      obtain ⟨L, hL⟩ : ∃ N, (runesL (a ++ b).data.toList).length = N := ⟨_, rfl⟩
      have hLs : L = NA + NB := by rw [← hL, app_list, runes_append _ _ HAV.out, List.length_append, hNA, hNB]
      have hA5 : NA ≤ 2000 := by rw [← hNA, runesL_len, ← runeCount_eq]; have := Lib.runeCount_le a; omega
      have hB5 : NB ≤ 2000 := by rw [← hNB, runesL_len, ← runeCount_eq]; have := Lib.runeCount_le b; omega
      rw [hNA] at hgx hcx
      rw [hNB] at hgy hcy
      rw [hL] at hgl hcl
      have hcell := join_cells a b w5 al ax ay NA NB L HAV.out hNA hNB hLs hgl hgx hgy
      have HCELL := Lib.hid hcell
      have HNA := Lib.hid hNA
      have hle1 : NA ≤ L := by omega
      have hle2 : L ≤ 4000 := by omega
      have hneq : ((L : Int) != (NA : Int) + (NB : Int)) = false := by rw [hLs]; simp
      rw [app_list] at hL
      rw [hNA, hNB, hL]
      clear hcell hgl hgx hgy hNA hNB hL hLs
      go_wp2
      go_loopw [8] (fun iv wr => ∃ k : Nat, iv = .int .i64 (k : Int) ∧ k ≤ L ∧ Below w5.heap.size w5 wr) (fun iv _ => L - (Go.RowKit.intOf iv).toNat)
      case atStart => exact ⟨0, rfl, Nat.zero_le _, Below.refl _ _⟩
      case round =>
        obtain ⟨k, rfl, hkN, hbw⟩ := hrel
        by_cases hk : k < L
        · obtain ⟨gl, gr, x, rfl, hl1, hl2, hx1, hx2⟩ := HCELL.out k hk
          have hkz : (k : Int) < (L : Int) := by omega
          have hc1 : wr.cell? ⟨gl, k, none⟩ = some (.int .i32 (x : Int)) := (hbw.cell (p := ⟨gl, k, none⟩) hl1).trans hx1
          rcases hx2 with ⟨hka, rfl, hx2⟩ | ⟨hka, hkb, rfl, hx2⟩
          · have hc2 : wr.cell? ⟨gr, k, none⟩ = some (.int .i32 (x : Int)) := (hbw.cell (p := ⟨gr, k, none⟩) hl2).trans hx2
            have hkaz : (k : Int) < (NA : Int) := by omega
            have hd2 : decide (NA ≤ k) = false := decide_eq_false (by omega)
            clear hx1 hx2
            go_wp2
            go_quiet (fail)
            go_wp2
            refine ⟨⟨k + 1, by go_num, by omega, hbw.trans ⟨rfl, rfl, rfl, Nat.le_refl _, fun _ _ => rfl⟩⟩, by simp only [Go.RowKit.intOf]; omega⟩
          · obtain ⟨J, hJ⟩ : ∃ J : Nat, J = k - NA := ⟨_, rfl⟩
            rw [← hJ] at hx2 hkb
            have hc2 : wr.cell? ⟨gr, J, none⟩ = some (.int .i32 (x : Int)) := (hbw.cell (p := ⟨gr, J, none⟩) hl2).trans hx2
            have hd1 : decide (k < NA) = false := decide_eq_false (by omega)
            have hkaz : (NA : Int) ≤ (k : Int) := by omega
            have hJz : (J : Int) < (NB : Int) := by omega
            have e1 : (k : Int) - (NA : Int) = (J : Int) := by omega
            have e3 : IntKind.i64.wrap (J : Int) = (J : Int) := IntWalk.i64_in _ (by omega)
            clear hx1 hx2 hJ
            go_wp2
            go_quiet (fail)
            go_wp2
            refine ⟨⟨k + 1, by go_num, by omega, hbw.trans ⟨rfl, rfl, rfl, Nat.le_refl _, fun _ _ => rfl⟩⟩, by simp only [Go.RowKit.intOf]; omega⟩
        · have hkge : ¬ ((k : Int) < (L : Int)) := by omega
          have hbw0 := b15.trans (hbw.mono b15.size)
          have hTr : Tabs wr := hT.later hbw0
          have cC : ∀ W, Tabs W → Calls Tryd.prog 21 #[.string (a ++ b), .int .i64 (NA : Int)] W fun e w' => e = .returned (.string a) ∧ Below W.heap.size W w' := fun W _ =>
            (cut_any (a ++ b) (NA : Int) W (by omega) (by omega) (by omega)).mono fun _ _ ⟨he, hw⟩ => ⟨by
              rw [he]; exact congrArg (fun t => Ending.returned (Value.string t)) (str_mk (t := a) (by rw [app_list, Int.toNat_natCast, ← HNA.out, cut_append _ _ HAV.out])), hw⟩
          obtain ⟨FA, hFA⟩ : ∃ t : ByteArray, (⟨(foldL a.data.toList).toArray⟩ : ByteArray) = t := ⟨_, rfl⟩
          obtain ⟨FB, hFB⟩ : ∃ t : ByteArray, (⟨(foldL b.data.toList).toArray⟩ : ByteArray) = t := ⟨_, rfl⟩
          obtain ⟨BA, hBA⟩ : ∃ t : ByteArray, (⟨(backL a.data.toList).toArray⟩ : ByteArray) = t := ⟨_, rfl⟩
          obtain ⟨BB, hBB⟩ : ∃ t : ByteArray, (⟨(backL b.data.toList).toArray⟩ : ByteArray) = t := ⟨_, rfl⟩
          have sFA : FA.size ≤ 8000 := by rw [← hFA, Lib.size_eq]; have := fold_len a.data.toList; rw [← Lib.size_eq] at this; simp only; omega
          have sFB : FB.size ≤ 8000 := by rw [← hFB, Lib.size_eq]; have := fold_len b.data.toList; rw [← Lib.size_eq] at this; simp only; omega
          have sBA : BA.size ≤ 8000 := by rw [← hBA, Lib.size_eq]; have := back_len a.data.toList; rw [← Lib.size_eq] at this; simp only; omega
          have sBB : BB.size ≤ 8000 := by rw [← hBB, Lib.size_eq]; have := back_len b.data.toList; rw [← Lib.size_eq] at this; simp only; omega
          have f1 := fun W (hW : Tabs W) => fold_any (a ++ b) W (by omega) hW
          have f2 := fun W (hW : Tabs W) => fold_any a W (by omega) hW
          have f3 := fun W (hW : Tabs W) => fold_any b W (by omega) hW
          have g1 := fun W (hW : Tabs W) => back_any (a ++ b) W (by omega) hW
          have g2 := fun W (hW : Tabs W) => back_any b W (by omega) hW
          have g3 := fun W (hW : Tabs W) => back_any a W (by omega) hW
          rw [show (⟨(foldL (a ++ b).data.toList).toArray⟩ : ByteArray) = FA ++ FB from str_mk (by rw [app_list, app_list, fold_append _ _ HAV.out, ← hFA, ← hFB])] at f1
          rw [show (⟨(backL (a ++ b).data.toList).toArray⟩ : ByteArray) = BB ++ BA from str_mk (by rw [app_list, app_list, back_append _ _ HAV.out, ← hBA, ← hBB])] at g1
          rw [hFA] at f2; rw [hFB] at f3; rw [hBB] at g2; rw [hBA] at g3
          clear hFA hFB hBA hBB HCELL
          have CC := Lib.hid cC
          have F1 := Lib.hid f1; have F2 := Lib.hid f2; have F3 := Lib.hid f3
          have G1 := Lib.hid g1; have G2 := Lib.hid g2; have G3 := Lib.hid g3
          clear cC f1 f2 f3 g1 g2 g3
          go_wp2_with fail
          refine (CC.out _ hTr).mono ?_
          rintro e w6 ⟨rfl, b6⟩
          have b16 := hbw0.trans (b6.mono hbw0.size)
          clear b6
          go_wp2_with fail
          refine (F1.out _ (hT.later b16)).mono ?_
          rintro e w7 ⟨rfl, b7⟩
          have b17 := b16.trans (b7.mono b16.size)
          clear b7 b16
          go_wp2_with fail
          refine (F2.out _ (hT.later b17)).mono ?_
          rintro e w8 ⟨rfl, b8⟩
          have b18 := b17.trans (b8.mono b17.size)
          clear b8 b17
          go_wp2_with fail
          refine (F3.out _ (hT.later b18)).mono ?_
          rintro e w9 ⟨rfl, b9⟩
          have b19 := b18.trans (b9.mono b18.size)
          clear b9 b18
          go_wp2_with fail
          refine (G1.out _ (hT.later b19)).mono ?_
          rintro e w10 ⟨rfl, b10⟩
          have b20 := b19.trans (b10.mono b19.size)
          clear b10 b19
          go_wp2_with fail
          refine (G2.out _ (hT.later b20)).mono ?_
          rintro e w11 ⟨rfl, b11⟩
          have b21 := b20.trans (b11.mono b20.size)
          clear b11 b20
          go_wp2_with fail
          refine (G3.out _ (hT.later b21)).mono ?_
          rintro e w12 ⟨rfl, b12⟩
          have b22 := b21.trans (b12.mono b21.size)
          clear b12 b21
          go_wp2_with fail
          refine (join_awake w _ hT b22).mono ?_
          rintro e w13 ⟨rfl, b23⟩
          go_wp2
          go_ret
          exact ⟨rfl, b23⟩
set_option maxRecDepth 100000 in
theorem join_lifted (os : Os) (started : os.Started) (H : Type) (enc : TypeId × Value → H) :
    ReturnsInHanded {} Tryd.checked os 10 .any (fun w args => (Rows.runesJoinSpec.pre enc Tryd.prog Tryd.f10 [] false w args ∧ laidMetH Tryd.prog tabsLaid w) ∧ sizedMet enc Tryd.prog Tryd.f10 (OpenSpec.ofChange Rows.runesJoinSpec) false w args)
      (Rows.runesJoinSpec.post enc Tryd.prog Tryd.f10 false true false false) := by
  refine returnsInHanded_of_change_and (C := Tryd.checked) (X := fun w _ => laidMetH Tryd.prog tabsLaid w) (fun _ _ _ hh h => h.of_heap hh) own started (by kernel_rfl) Tryd.func10
    (ChangeSpec.witness_shaped (enc := enc) (C := Tryd.checked) (os := os) (X := fun w _ => laidMetH Tryd.prog tabsLaid w) false (World.laidAll Tryd.prog os tabsLaid) #[.string ⟨#[]⟩, .string ⟨#[]⟩] 8 (World.laidAll_os _ _ _)
      (World.shaped_of_ZipB (by kernel_rfl) (by kernel_rfl)) (by kernel_rfl) (by kernel_rfl) (by kernel_rfl) (start_met os _)) ?_
  intro W base args ds gs before hval0 hW _ _ hL _
  have hval : ∀ (j : Nat) t v, Tryd.f10.params[j]? = some t → args[j]? = some v → Value.okWide Tryd.prog W .any base t v := hval0
  have hW' := hW
  obtain ⟨p, q, hA0, hV, rfl, _, _⟩ := hW
  have hA : DataW.TrodAll enc Tryd.prog W 0 (fun _ => true) true Tryd.f10.params.toList args.toList ds p := hA0
  rw [Tryd.params10] at hA hval
  obtain ⟨v0, v1, d0, d1, p0, p1, rfl, rfl, rfl, h0, h1⟩ := trodAll_two hA
  obtain ⟨rfl, rfl⟩ := trodVars_none hV
  obtain ⟨x0, rfl, rfl, rfl, wx0⟩ := Go.ChangeMaps.open_string Tryd.underlying9 (hval 0 9 v0 rfl rfl) h0
  have b0 : x0.size ≤ 9223372036854775807 := by have := wx0; unfold maxLen at this; omega
  obtain ⟨x1, rfl, rfl, rfl, wx1⟩ := Go.ChangeMaps.open_string Tryd.underlying9 (hval 1 9 v1 rfl rfl) h1
  have b1 : x1.size ≤ 9223372036854775807 := by have := wx1; unfold maxLen at this; omega
  simp only [List.append_nil] at hW'
  refine (join_walk x0 x1 W b0 b1 (tabs_of_laid hL)).mono fun e W' ⟨he, hb⟩ => ?_
  subst he
  exact ⟨_, rfl, _, _, _, [], [], [], hW', trodAll_mk1 (shut_bool Tryd.underlying4 _), trodAll_mk2 (Go.ChangeMaps.shut_string Tryd.underlying9 wx0) (Go.ChangeMaps.shut_string Tryd.underlying9 wx1), rfl, hb.frame _, fun h => by cases h⟩

theorem join_holds : Rows.RunesJoinSaid :=
  OpenClaim.holds_of_wide 10 Tryd.f10 rfl rfl rfl rfl rfl rfl rfl ⟨rfl, rfl, rfl, rfl, rfl⟩ rfl rfl rfl rfl rfl (by kernel_rfl) Tryd.func10 (by kernel_rfl)
    (of_decide_eq_true (by kernel_rfl)) (by unfold Func.isWrapper; first | (rw [if_pos (by decide +kernel)]; kernel_rfl) | (rw [if_neg (by decide +kernel)]; exact ⟨rfl, rfl⟩))
    (fun os started H enc _ => join_lifted os started H enc)

theorem join_card : Rows.RunesJoinCardSaid :=
  Claim7.holds_tied_plain_at .later [] [.data, .pinned] true _ false
    join_holds (fun _ h => by cases h) (by kernel_rfl) (fun _ h => by cases h) runesJoin_row_tie rfl ⟨rfl, rfl⟩ (by kernel_rfl) rfl
    (fun f fn hf hfn => by
      obtain rfl : f = 10 := Option.some.inj ((show Tryd.prog.funcNamed "palaver/palaverlaw01.RunesJoin" = some 10 by kernel_rfl).symm.trans hf) |>.symm
      obtain rfl : fn = Tryd.f10 := (Option.some.inj (Tryd.func10.symm.trans hfn)).symm
      exact ⟨by kernel_rfl, fun j t ht => by
        rw [Tryd.params10] at ht
        have hm : t ∈ [9, 9] := by simpa using Array.mem_of_getElem? ht
        have hall : ([9, 9].all fun u => !Tryd.prog.wantsStandIn u) = true := by kernel_rfl
        exact (show Tryd.prog.wantsStandIn t = false by simpa using List.all_eq_true.1 hall t hm)⟩)
    (by kernel_rfl)
end Go.Proofs.YtocejllclpdnnaaDoor
