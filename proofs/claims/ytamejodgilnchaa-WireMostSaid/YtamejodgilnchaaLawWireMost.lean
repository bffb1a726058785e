/- The statement WireMost: a text of more bytes than may be is none; nor is a number above what may be counted, or above what is left. Conditions: none. -/
import Derived.Test.YtamejodgilnchaaWireAwake
namespace Go.Proofs.Ytamejodgilnchaa
open Go.ChangeShapes Go.WideShapes Go.ChangeAt Go.RowKit

theorem stC_put {n most : Int} (R : List UInt8) (h0 : -9223372036854775808 ≤ n) (h1 : n ≤ 9223372036854775807) (h : 0 ≤ n ∧ n ≤ most ∧ n ≤ (R.length : Int)) : stC most (putI n ++ R, false) = (n, (R, false)) := by
  have hi := stI_put h0 h1 R false
  rw [stC_yes (by rw [hi]; exact h), hi]
theorem stC_not {n most : Int} (R : List UInt8) (h0 : -9223372036854775808 ≤ n) (h1 : n ≤ 9223372036854775807) (h : ¬ (0 ≤ n ∧ n ≤ most ∧ n ≤ (R.length : Int))) : stC most (putI n ++ R, false) = (0, ([], true)) := by
  have hi := stI_put h0 h1 R false
  exact stC_no (by rw [hi]; exact h)
theorem stT_put {s R : List UInt8} {most : Int} (hs : s.length ≤ 140737488351232) (h : (s.length : Int) ≤ most) : stT most (putT s ++ R, false) = (s, (R, false)) := by
  unfold stT putT
  rw [List.append_assoc, stC_put (s ++ R) (by omega) (by omega) ⟨by omega, h, by rw [List.length_append]; omega⟩]
  simp
theorem stT_not {s R : List UInt8} {most : Int} (hs : s.length ≤ 140737488351232) (h : most < (s.length : Int)) : stT most (putT s ++ R, false) = ([], ([], true)) := by
  unfold stT putT
  rw [List.append_assoc, stC_not (s ++ R) (by omega) (by omega) (fun h2 => by omega)]
  rfl
theorem str_back (s : ByteArray) : (⟨s.data.toList.toArray⟩ : ByteArray) = s := by cases s; simp
theorem bs_123 (w : World) (t : TypeId) (z : Nat × Nat) : Bs (w.alloc (.cells #[.int .u8 1, .int .u8 2, .int .u8 3] t z)) (some ⟨w.heap.size, 0, none⟩) [1, 2, 3] := by
  refine fun _ => ⟨_, 0, rfl, fun j hj => ?_⟩
  rw [Nat.zero_add, cell_of_row _ _ j _ t z (heap_alloc_new w _)]
  simp only [List.length_cons, List.length_nil] at hj
  have : j = 0 ∨ j = 1 ∨ j = 2 := by omega
  rcases this with rfl | rfl | rfl <;> rfl

theorem own_nil {B : Nat} {w : World} {A : Option Addr} {n cap : Nat} {xs : List Value} {e : TypeId} (h : w.ownsRow B e 1 (.slice A n cap) n xs) : A = none → cap = 0 := by
  rintro rfl
  rcases h.2 with ⟨e1, _⟩ | ⟨g, c, cur, e1, _⟩
  · injection e1
  · injection e1 with e1; cases e1

set_option maxHeartbeats 1000000 in
theorem wiremost_walk (s : ByteArray) (most n : Int) (w : World) (hs : s.size ≤ 140737488351232) (hm0 : -9223372036854775808 ≤ most) (hm1 : most ≤ 9223372036854775807) (hn0 : -9223372036854775808 ≤ n) (hn1 : n ≤ 9223372036854775807) :
    Calls Try.prog 9 #[.string s, .int .i64 most, .int .i64 n] w fun e w' => e = .returned (.bool true) ∧ Below w.heap.size w w' := by
  have hsz : s.size = s.data.toList.length := by simp
  have ca := text_nil s w hs
  have cc := fun w => put_nil n w hn0 hn1
  have hT1 : (putT s.data.toList).length ≤ 140737488355328 := by
    unfold putT; rw [List.length_append]
    have := putI_ten (v := (s.data.toList.length : Int)) (by omega) (by omega)
    omega
  have hN1 := putI_pos n
  have hN2 := putI_ten hn0 hn1
  have hTs : ((s.size : Int) ≤ most ∧ Hid (stT most (putT s.data.toList, false) = (s.data.toList, ([], false)))) ∨ (most < (s.size : Int) ∧ Hid (stT most (putT s.data.toList, false) = ([], ([], true)))) := by
    by_cases h : (s.size : Int) ≤ most
    · exact .inl ⟨h, by have := stT_put (R := []) (s := s.data.toList) (most := most) (by omega) (by omega); rw [List.append_nil] at this; exact this⟩
    · exact .inr ⟨by omega, by have := stT_not (R := []) (s := s.data.toList) (most := most) (by omega) (by omega); rw [List.append_nil] at this; exact this⟩
  have hC : (0 ≤ n ∧ n ≤ most ∧ n ≤ 3 ∧ Hid (stC most (putI n ++ [1, 2, 3], false) = (n, ([1, 2, 3], false)))) ∨ (((n < 0 ∧ (0 == n) = false ∧ (n == 0) = false) ∨ (n = 0 ∧ most < 0 ∧ True) ∨ (0 < n ∧ most < n ∧ (0 == n) = false ∧ (n == 0) = false) ∨ (0 < n ∧ n ≤ most ∧ 3 < n ∧ (0 == n) = false ∧ (n == 0) = false)) ∧ Hid (stC most (putI n ++ [1, 2, 3], false) = (0, ([], true)))) := by
    by_cases h : 0 ≤ n ∧ n ≤ most ∧ n ≤ 3
    · exact .inl ⟨h.1, h.2.1, h.2.2, stC_put [1, 2, 3] hn0 hn1 h⟩
    · refine .inr ⟨?_, stC_not [1, 2, 3] hn0 hn1 h⟩
      have hw : n < 0 ∨ (n = 0 ∧ most < 0) ∨ (0 < n ∧ most < n) ∨ (0 < n ∧ n ≤ most ∧ 3 < n) := by omega
      rcases hw with h | h | h | h
      · exact .inl ⟨h, by simp; omega, by simp; omega⟩
      · exact .inr (.inl ⟨h.1, h.2, trivial⟩)
      · exact .inr (.inr (.inl ⟨h.1, h.2, by simp; omega, by simp; omega⟩))
      · exact .inr (.inr (.inr ⟨h.1, h.2.1, h.2.2, by simp; omega, by simp; omega⟩))
  clear hsz
  generalize putT s.data.toList = Y at *
  generalize putI n = X at *
  obtain ⟨M, hM⟩ : ∃ M, M = X ++ [1, 2, 3] := ⟨_, rfl⟩
  rw [← hM] at hC
  have hMl : M.length ≤ 140737488355328 := by rw [hM, List.length_append]; simp; omega
  have HM := Lib.hid hM
  clear hM
  go_enter Try.func9, Try.ntmps9
  go_wp2_with fail
  refine ca.mono ?_
  rintro e w1 ⟨A1, cap1, rfl, hB1, hn1, ho1, hq1⟩
  have cn := new_any A1 Y cap1 w1 hT1 hB1 hn1
  clear ca ho1 hB1 hn1
  go_wp2_with fail
  refine cn.mono ?_
  rintro e w2 ⟨g1, rfl, hR1, hq2⟩
  have HR1 := Lib.hid hR1
  have HQ := Lib.hid (hq1.trans (hq2.mono hq1.size))
  have hg1 : w.heap.size ≤ g1 := Nat.le_trans hq1.size hR1.1
  have ct := text_any _ g1 _ most w2 hR1
  clear hR1 hq1 hq2 cn
  go_wp2_with fail
  rcases hTs with ⟨h1, h2⟩ | ⟨h1, h2⟩
  all_goals
    first | rw [h2.out, str_back] at ct | rw [h2.out] at ct
    clear h2
    refine ct.mono ?_
    rintro e w3 ⟨rfl, hR3, hO⟩
    have HQ3 := Lib.hid (HQ.out.trans (hO.below hg1))
    have HQ3s : w.heap.size ≤ w3.heap.size := HQ3.out.size
    have co := ok_any _ g1 _ w3 hR3
    clear ct hR3 hO HQ HR1
    go_wp2_with fail
    refine co.mono ?_
    rintro e w' ⟨rfl, rfl⟩
    go_wp2_with fail
    refine co.mono ?_
    rintro e w' ⟨rfl, rfl⟩
    go_wp2_with fail
    refine co.mono ?_
    rintro e w' ⟨rfl, rfl⟩
    clear co
    go_wp2_with fail
    refine (cc w3).mono ?_
    rintro e w4 ⟨A2, cap2, rfl, _, _, ho2, hq4⟩
    have HO := Lib.hid (Onto.of_own ho2)
    have HQ4 := Lib.hid (HQ3.out.trans (hq4.mono HQ3.out.size))
    have hs4 := hq4.size
    clear cc ho2 hq4 HQ3
    go_wp2_with (at_builtin; refine wpList_append_onto rfl (.tmp 44) (.tmp 45) rfl w3.heap.size _ X [1, 2, 3] rfl (HO.out.alloc _) ⟨w4.heap.size, 0, none⟩ 3 rfl (bs_123 _ _ _) (by simp) (by simp; omega) (by simp; omega) ?_; intro b5 w5 ho5 hb5; rw [← HM.out] at ho5; obtain ⟨A5, cap5, rfl, hB5⟩ := bs_own ho5)
    have hm5 := own_nil ho5
    have HQ5 := Lib.hid ((HQ4.out.alloc HQ4.out.size _).trans (hb5.mono HQ3s))
    have cn := new_any A5 M cap5 w5 hMl hB5 hm5
    clear ho5 hb5 hB5 hm5 HQ4 HO
    refine cn.mono ?_
    rintro e w6 ⟨g2, rfl, hR6, hq6⟩
    have HQ6 := Lib.hid (HQ5.out.trans (hq6.mono HQ5.out.size))
    have hg2 : w.heap.size ≤ g2 := Nat.le_trans HQ5.out.size hR6.1
    have ck := count_any _ g2 _ most w6 hR6
    clear hR6 hq6 cn HQ5
    go_wp2_with fail
    rcases hC with ⟨c1, c2, c3, c4⟩ | ⟨⟨c1, c2, c3⟩ | ⟨c1, c2, c3⟩ | ⟨c1, c2, c3, c5⟩ | ⟨c1, c2, c3, c5, c6⟩, c4⟩
    all_goals try (exfalso; omega)
    all_goals
      rw [c4.out] at ck
      clear c4
      refine ck.mono ?_
      rintro e w7 ⟨rfl, hR7, hO⟩
      have HQ7 := Lib.hid (HQ6.out.trans (hO.below hg2))
      have co := ok_any _ g2 _ w7 hR7
      have haw := awake_any w7
      clear hR7 hO ck HQ6
      go_wp2_with fail
      refine co.mono ?_
      rintro e w' ⟨rfl, rfl⟩
      go_wp2_with fail
      refine haw.mono ?_
      rintro e w8 ⟨rfl, hq⟩
      go_wp2
      go_ret
      exact ⟨by first | rfl | (have hd : decide (n ≤ 3) = false := (by simp; omega); simp [hd]), HQ7.out.trans (hq.mono HQ7.out.size)⟩
set_option maxRecDepth 100000 in
theorem wiremost_lifted (os : Os) (started : os.Started) (H : Type) (enc : TypeId × Value → H) :
    ReturnsInHanded {} Try.checked os 9 .any (Rows.wireMostSpec.pre6 enc Try.prog Try.f9 Rows.wireMostRow.domain false) (Rows.wireMostSpec.post enc Try.prog Try.f9 false true false false) := by
  refine returnsInHanded_of_change_sized (C := Try.checked) own started (by kernel_rfl) Try.func9
    (ChangeSpec.witness6 (enc := enc) (C := Try.checked) false ⟨#[], #[.string ⟨#[]⟩, .int .i64 0, .int .i64 0], []⟩ 8 (by kernel_rfl) (by kernel_rfl) (by kernel_rfl) (by kernel_rfl)) ?_
  intro W base args ds gs before hval0 hW _ hsz0 _
  have hsz : (DataW.weightsEach Try.prog (Try.f9.params.toList ++ Rows.wireMostSpec.plain.varTypes Try.prog) (ds ++ gs)).all (· ≤ reachBytes) = true := hsz0
  have hval : ∀ (j : Nat) t v, Try.f9.params[j]? = some t → args[j]? = some v → Value.okWide Try.prog W .any base t v := hval0
  have hW' := hW
  obtain ⟨p, q, hA0, hV, rfl, _, _⟩ := hW
  have hA : DataW.TrodAll enc Try.prog W 0 (fun _ => true) true Try.f9.params.toList args.toList ds p := hA0
  rw [Try.params9] at hA hval hsz
  obtain ⟨v0, v1, v2, d0, d1, d2, p0, p1, p2, rfl, rfl, rfl, h0, h1, h2⟩ := trodAll_three hA
  obtain ⟨rfl, rfl⟩ := trodVars_none hV
  simp only [List.append_nil] at hW'
  obtain ⟨x0, rfl, rfl, rfl, wx0⟩ := Go.ChangeMaps.open_string Try.underlying9 (hval 0 9 v0 rfl rfl) h0
  have rx0 : x0.size ≤ 140737488351232 := size_reach (sized_string hsz (j := 0) (t := 9) rfl rfl)
  obtain ⟨x1, rfl, rfl, rfl, wx1⟩ := open_int Try.underlying3 (hval 1 3 v1 rfl rfl) h1
  obtain ⟨x2, rfl, rfl, rfl, wx2⟩ := open_int Try.underlying3 (hval 2 3 v2 rfl rfl) h2
  refine (wiremost_walk x0 x1 x2 W rx0 (bounds_i64 wx1).1 (bounds_i64 wx1).2 (bounds_i64 wx2).1 (bounds_i64 wx2).2).mono fun e W' ⟨he, hb⟩ => ?_
  subst he
  exact ⟨_, rfl, _, _, _, [], _, [], hW', trodAll_mk1 (shut_bool Try.underlying4 _), trodAll_mk3 (Go.ChangeMaps.shut_string Try.underlying9 wx0) (shut_int Try.underlying3 wx1) (shut_int Try.underlying3 wx2), rfl, hb.frame _, fun h => by cases h⟩

theorem wiremost_holds : Rows.WireMostSaid :=
  OpenClaim.holds_of_wide 9 Try.f9 rfl rfl rfl rfl rfl rfl rfl ⟨rfl, rfl, rfl, rfl, rfl⟩ rfl rfl rfl rfl rfl (by kernel_rfl) Try.func9 (by kernel_rfl)
    (of_decide_eq_true (by kernel_rfl)) (by unfold Func.isWrapper; first | (rw [if_pos (by decide +kernel)]; kernel_rfl) | (rw [if_neg (by decide +kernel)]; exact ⟨rfl, rfl⟩))
    (fun os started H enc _ => wiremost_lifted os started H enc)
end Go.Proofs.Ytamejodgilnchaa
