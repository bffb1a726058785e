/- The contract of the document's own Read, of any text. -/
import Derived.Test.YtfcigknalnmhcaaDoorVRefNumber
import Derived.Test.YtfcigknalnmhcaaDoorVRefBare
import Derived.Test.YtfcigknalnmhcaaDoorVRefShow
import Derived.Test.YtfcigknalnmhcaaDoorVOnly
import Derived.Test.YtfcigknalnmhcaaDoorVMeantB
namespace Go.Proofs.YtfcigknalnmhcaaDoor
open Go.RowKit Go.Lib

theorem none_shown {l : List UInt8} {n : Int} {T : ByteArray} (h1 : l ≠ [45]) (h2 : l ≠ [116, 114, 117, 101]) (h3 : l ≠ [102, 97, 108, 115, 101]) (h4 : ∀ d, l ≠ [35, d]) (hN : NumEnd5 l n false) (hB : BareEnd l T false) : ∀ K n u, ¬ Shown l K n u := by
  intro K z u hS
  have hS2 := hS
  rcases hS.ways with ⟨_, _, _, e⟩ | ⟨_, _, e⟩ | ⟨_, _, ⟨_, e⟩ | ⟨_, e⟩⟩ | ⟨_, _, hv, _, e⟩ | ⟨_, z1, z4, _, e⟩
  · exact h1 e
  · exact absurd (hN.2.2.1 z hS2.2.2.1 hS2.2.2.2 e).1 (by decide)
  · exact h2 e
  · exact h3 e
  · obtain ⟨L, hL, hq, _⟩ := quote_srcs hv
    exact absurd (hB.2.2 L hL (e.trans hq)).1 (by decide)
  · rw [itoa_small z (by omega) (by omega)] at e
    exact h4 _ e
theorem only_number {l : List UInt8} {n : Int} (hN : NumEnd5 l n true) (h2 : l ≠ [116, 114, 117, 101]) (h3 : l ≠ [102, 97, 108, 115, 101]) : Only l 1 n [] := by
  obtain ⟨c, r, rfl, hc⟩ := hN.2.2.2 rfl
  have hp : ∀ d : UInt8, (d = 34 ∨ d = 35) → hasPrefix (c :: r) [d] = false := by
    intro d hd
    have : ¬ d = c := by
      rintro rfl
      rcases hd with rfl | rfl
      · rcases hc with ⟨h, _⟩ | ⟨h, _⟩ <;> exact absurd h (by decide)
      · rcases hc with ⟨h, _⟩ | ⟨h, _⟩ <;> exact absurd h (by decide)
    simp [hasPrefix, List.isPrefixOf, this]
  refine only_num ?_ h2 h3 (hp _ (.inl rfl)) (hp _ (.inr rfl)) (fun z h0 h1 e => (hN.2.2.1 z h0 h1 e).2)
  intro e
  injection e with e1 e2
  rcases hc with ⟨_, h⟩ | ⟨h, _⟩
  · exact h e2
  · rw [e1] at h; exact absurd h (by decide)
theorem num_bare {l : List UInt8} {n : Int} {T : ByteArray} (hN : NumEnd5 l n true) (hB : BareEnd l T true) : False := by
  obtain ⟨c, r, rfl, hc⟩ := hN.2.2.2 rfl
  obtain ⟨q, hq, _⟩ := hB.2.1 rfl
  injection hq with hq _
  rw [hq] at hc
  rcases hc with ⟨h, _⟩ | ⟨h, _⟩ <;> exact absurd h (by decide)
theorem num_not {l : List UInt8} {n : Int} (hN : NumEnd5 l n true) (h : l = [45] ∨ l = [116, 114, 117, 101] ∨ l = [102, 97, 108, 115, 101] ∨ ∃ d, l = [35, d]) : False := by
  obtain ⟨c, r, rfl, hc⟩ := hN.2.2.2 rfl
  rcases h with h | h | h | ⟨d, h⟩
  · injection h with h1 h2
    rcases hc with ⟨_, h⟩ | ⟨h, _⟩
    · exact h h2
    · rw [h1] at h; exact absurd h (by decide)
  all_goals
    injection h with h1 h2
    rw [h1] at hc
    rcases hc with ⟨h, _⟩ | ⟨g, h⟩
    · exact absurd h (by decide)
    · first | exact absurd h (by decide) | exact absurd g (by decide)
theorem bare_not {l : List UInt8} {T : ByteArray} (hB : BareEnd l T true) (h : l = [45] ∨ l = [116, 114, 117, 101] ∨ l = [102, 97, 108, 115, 101] ∨ ∃ d, l = [35, d]) : False := by
  obtain ⟨q, hq, _⟩ := hB.2.1 rfl
  rcases h with h | h | h | ⟨d, h⟩ <;> (rw [hq] at h; injection h with h1 h2; exact absurd h1 (by decide))
theorem only_bare {l : List UInt8} {T : ByteArray} (hB : BareEnd l T true) : Only l 3 0 T.data.toList := by
  obtain ⟨q, rfl, _⟩ := hB.2.1 rfl
  exact only_quote fun L0 hok e => (hB.2.2 L0 hok e).2
theorem only_two (d : UInt8) : Only [35, d] 4 ((d.toNat : Int) - 48) [] := by
  refine only_hash fun z h1 h4 e => ?_
  rw [itoa_small z (by omega) (by omega)] at e
  injection e with e _
  rw [e, u8_nat _ (by omega)]; omega
theorem Three.other_set {w : World} {g : Nat} {a b c : Value} (h : Three w g a b c) {q : Nat} (hq : q ≠ g) (u v z : Value) : Three (((w.setCell ⟨q, 0, none⟩ u).setCell ⟨q, 1, none⟩ v).setCell ⟨q, 2, none⟩ z) g a b c := by
  obtain ⟨hl, h0, h1, h2, f0, f1, f2⟩ := h
  refine ⟨by simpa using hl, ?_, ?_, ?_, ?_, ?_, ?_⟩
  all_goals simp [h0, h1, h2, f0, f1, f2, go_sem]
set_option maxHeartbeats 8000000 in
set_option maxRecDepth 100000 in
theorem refread_any (s : ByteArray) (w : World) (hs : s.size ≤ 1099511627776) :
    Calls Tryd.prog 31 #[.string s] w fun e w' => (∃ v, e = .returned v ∧ ReadEnd s.data.toList v) ∧ Below w.heap.size w w' := by
  obtain ⟨l, hl⟩ : ∃ l, s.data.toList = l := ⟨_, rfl⟩
  have hsz : l.length = s.size := by rw [← hl]; exact size_list s
  have hg : ∀ (i : Nat) (h : i < s.size), l[i]? = some s[i] := fun i h => by
    rw [← hl, List.getElem?_eq_getElem (by rw [size_list]; exact h)]; rfl
  have cN := fun w => number_any s w hs
  have cB := fun w => bare_any s w hs
  rw [hl]
  simp only [hl] at cN cB
  have HL := Lib.hid hl
  have HG := Lib.hid hg
  have HSZ := Lib.hid hsz
  clear hl hg hsz
  have hb0 := below_alloc w (.cells #[.int .i64 0, .int .i64 0, .string ⟨#[]⟩] 23)
  have r0 := three_new w (.int .i64 0) (.int .i64 0) (.string ⟨#[]⟩) 23
  have hz0 : (w.alloc (.cells #[.int .i64 0, .int .i64 0, .string ⟨#[]⟩] 23)).heap.size = w.heap.size + 1 := by simp
  have hne : ∀ m, l = m ∨ l ≠ m := fun m => Classical.em _
  by_cases h : l = [45]
  · have e1 : (s.toList == [45]) = true := is_list (by rw [HL.out]; exact h)
    have e2 : (s.toList == [116, 114, 117, 101]) = false := not_list (by rw [HL.out]; exact (by rw [h]; decide))
    have e3 : (s.toList == [102, 97, 108, 115, 101]) = false := not_list (by rw [HL.out]; exact (by rw [h]; decide))
    have e4 : ((s.size : Int) == 2) = false := beq_eq_false_iff_ne.2 (by have := HSZ.out; rw [h] at this; simp at this; omega)
    have hno4 : l = [45] ∨ l = [116, 114, 117, 101] ∨ l = [102, 97, 108, 115, 101] ∨ ∃ d, l = [35, d] := .inl h
    have hO0 := Lib.hid (show Only l 0 0 [] by rw [h]; exact shown_dash.only)
    have rngA : (-9223372036854775808 : Int) ≤ 0 := by decide
    have rngB : (0 : Int) ≤ 9223372036854775807 := by decide
    clear h hne
    go_enter Tryd.func31, Tryd.ntmps31
    go_wp2_with fail
    refine (cN _).mono ?_
    rintro e w1 ⟨⟨n, b, rfl, hN⟩, rfl⟩
    cases b with
    | true =>
      exact absurd (num_not hN hno4) id
    | false =>
      have bW := below_alloc (w.alloc (.cells #[.int .i64 0, .int .i64 0, .string ⟨#[]⟩] 23)) (.cells #[.int .i64 0, .int .i64 0, .string ⟨#[]⟩] 23)
      have hbW := below_to hb0 bW
      have r1 := r0.later bW
      have v1 := three_new (w.alloc (.cells #[.int .i64 0, .int .i64 0, .string ⟨#[]⟩] 23)) (.int .i64 0) (.int .i64 0) (.string ⟨#[]⟩) 23
      rw [hz0] at v1
      clear bW
      go_wp2_with fail
      refine (cB _).mono ?_
      rintro e w2 ⟨⟨T, b, rfl, hB⟩, hb2⟩
      cases b with
      | true =>
        exact absurd (bare_not hB hno4) id
      | false =>
        have r2 := r1.later hb2
        have v2 := v1.later hb2
        have hbw2 := below_to hbW hb2
        clear r1 v1 hbW hb2 r0 hb0 hz0 cB cN
        have hO : Only l (0) (0) (⟨#[]⟩ : ByteArray).data.toList := hO0.out
        clear hno4 hN hB
        have hRE := readEnd_of (l := l) (K := (0)) (n := (0)) (u := ⟨#[]⟩) hO rngA rngB
        have HRE := Lib.hid hRE
        clear hRE hO
        have cC := fun w => refCheck_any (0) (0) ⟨#[]⟩ w
        have hVR : ¬ w.heap.size = w.heap.size + 1 := by omega
        have v2k := fun w1 h => v2.later (w' := w1) h
        have r2k := fun w1 h => r2.later (w' := w1) h
        obtain ⟨-, x0, x1, x2, j0, j1, j2⟩ := v2
        cases hZ : checkB (0) (0) (⟨#[]⟩ : ByteArray).data.toList with
        | false =>
          have hR : readV l (0) (0) ⟨#[]⟩ = .tuple #[V3 0 0 ⟨#[]⟩, .bool false] := if_neg (fun h => by rw [hZ] at h; cases h.1)
          have HR := Lib.hid hR
          simp only [hZ] at cC
          clear hR hZ r2
          go_wp2_with fail
          refine (cC _).mono ?_
          rintro e w5 ⟨rfl, hb5⟩
          have hbw5 := below_to hbw2 hb5
          obtain ⟨-, y0, y1, y2, f0, f1, f2⟩ := r2k _ hb5
          clear cC hb5 r2k v2k x0 x1 x2 j0 j1 j2
          go_wp2
          exact bodyPost_ret (v := .tuple #[V3 0 0 ⟨#[]⟩, .bool false]) (by simp [results, Tryd.results31, go_sem, y0, y1, y2]) rfl ⟨⟨_, rfl, by rw [← HR.out]; exact HRE.out⟩, ((hbw5.setCell (p := ⟨w.heap.size, 0, none⟩) (Nat.le_refl _) _).setCell (p := ⟨w.heap.size, 1, none⟩) (Nat.le_refl _) _).setCell (p := ⟨w.heap.size, 2, none⟩) (Nat.le_refl _) _⟩
        | true =>
          have cS := fun w => refshow_any (0) (0) ⟨#[]⟩ w rngA rngB hZ (checked_size hZ)
          have hS : ∀ Y : ByteArray, (⟨(showL (0) (0) (⟨#[]⟩ : ByteArray).data.toList).toArray⟩ : ByteArray) = Y → readV l (0) (0) ⟨#[]⟩ = if (Y.toList == s.toList) = true then .tuple #[V3 (0) (0) ⟨#[]⟩, .bool true] else .tuple #[V3 0 0 ⟨#[]⟩, .bool false] := by
            rintro Y rfl
            unfold readV
            have e : ((⟨(showL (0) (0) (⟨#[]⟩ : ByteArray).data.toList).toArray⟩ : ByteArray).toList == s.toList) = true ↔ showL (0) (0) (⟨#[]⟩ : ByteArray).data.toList = l := by
              rw [ByteArray.toList_eq, ByteArray.toList_eq, beq_iff_eq, HL.out]
            by_cases h : showL (0) (0) (⟨#[]⟩ : ByteArray).data.toList = l
            · rw [if_pos ⟨hZ, h⟩, if_pos (e.2 h)]
            · rw [if_neg (fun hh => h hh.2), if_neg (fun hh => h (e.1 hh))]
          obtain ⟨X, hX⟩ : ∃ X : ByteArray, (⟨(showL (0) (0) (⟨#[]⟩ : ByteArray).data.toList).toArray⟩ : ByteArray) = X := ⟨_, rfl⟩
          have HR := Lib.hid (hS X hX)
          simp only [hX] at cS
          simp only [hZ] at cC
          clear hS hX hZ r2
          go_wp2_with fail
          refine (cC _).mono ?_
          rintro e w5 ⟨rfl, hb5⟩
          have hbw5 := below_to hbw2 hb5
          have r5k := fun w1 (h : Below w5.heap.size w5 w1) => (r2k _ hb5).later (w' := w1) h
          have v5 := v2k _ hb5
          have v5k := fun w1 h => v5.later (w' := w1) h
          obtain ⟨-, z0, z1, z2, i0, i1, i2⟩ := v5
          clear cC hb5 r2k v2k x0 x1 x2 j0 j1 j2
          go_wp2_with fail
          refine (cS _).mono ?_
          rintro e w6 ⟨rfl, hb6⟩
          have hbw6 := below_to hbw5 hb6
          obtain ⟨-, y0, y1, y2, f0, f1, f2⟩ := r5k _ hb6
          obtain ⟨-, x0, x1, x2, j0, j1, j2⟩ := v5k _ hb6
          clear cS hb6 r5k v5k z0 z1 z2 i0 i1 i2 hbw5
          cases hq : (X.toList == s.toList) with
          | false =>
            have HR2 := Lib.hid (HR.out.trans (if_neg (by rw [hq]; decide)))
            go_wp2
            exact bodyPost_ret (v := .tuple #[V3 0 0 ⟨#[]⟩, .bool false]) (by simp [results, Tryd.results31, go_sem, y0, y1, y2]) rfl ⟨⟨_, rfl, by rw [← HR2.out]; exact HRE.out⟩, ((hbw6.setCell (p := ⟨w.heap.size, 0, none⟩) (Nat.le_refl _) _).setCell (p := ⟨w.heap.size, 1, none⟩) (Nat.le_refl _) _).setCell (p := ⟨w.heap.size, 2, none⟩) (Nat.le_refl _) _⟩
          | true =>
            have HR2 := Lib.hid (HR.out.trans (if_pos hq))
            go_wp2
            exact bodyPost_ret (v := .tuple #[V3 (0) (0) ⟨#[]⟩, .bool true]) (by simp [results, Tryd.results31, go_sem, y0, y1, y2]) rfl ⟨⟨_, rfl, by rw [← HR2.out]; exact HRE.out⟩, ((hbw6.setCell (p := ⟨w.heap.size, 0, none⟩) (Nat.le_refl _) _).setCell (p := ⟨w.heap.size, 1, none⟩) (Nat.le_refl _) _).setCell (p := ⟨w.heap.size, 2, none⟩) (Nat.le_refl _) _⟩
  have h1 := h
  clear h
  by_cases h : l = [116, 114, 117, 101]
  · have e1 : (s.toList == [45]) = false := not_list (by rw [HL.out]; exact h1)
    have e2 : (s.toList == [116, 114, 117, 101]) = true := is_list (by rw [HL.out]; exact h)
    have e3 : (s.toList == [102, 97, 108, 115, 101]) = false := not_list (by rw [HL.out]; exact (by rw [h]; decide))
    have e4 : ((s.size : Int) == 2) = false := beq_eq_false_iff_ne.2 (by have := HSZ.out; rw [h] at this; simp at this; omega)
    have hno4 : l = [45] ∨ l = [116, 114, 117, 101] ∨ l = [102, 97, 108, 115, 101] ∨ ∃ d, l = [35, d] := .inr (.inl h)
    have hO0 := Lib.hid (show Only l 2 1 [] by rw [h]; exact (shown_truth true).only)
    have rngA : (-9223372036854775808 : Int) ≤ 1 := by decide
    have rngB : (1 : Int) ≤ 9223372036854775807 := by decide
    clear h h1 hne
    go_enter Tryd.func31, Tryd.ntmps31
    go_wp2_with fail
    refine (cN _).mono ?_
    rintro e w1 ⟨⟨n, b, rfl, hN⟩, rfl⟩
    cases b with
    | true =>
      exact absurd (num_not hN hno4) id
    | false =>
      have bW := below_alloc (w.alloc (.cells #[.int .i64 0, .int .i64 0, .string ⟨#[]⟩] 23)) (.cells #[.int .i64 2, .int .i64 1, .string ⟨#[]⟩] 23)
      have hbW := below_to hb0 bW
      have r1 := r0.later bW
      have v1 := three_new (w.alloc (.cells #[.int .i64 0, .int .i64 0, .string ⟨#[]⟩] 23)) (.int .i64 2) (.int .i64 1) (.string ⟨#[]⟩) 23
      rw [hz0] at v1
      clear bW
      go_wp2_with fail
      refine (cB _).mono ?_
      rintro e w2 ⟨⟨T, b, rfl, hB⟩, hb2⟩
      cases b with
      | true =>
        exact absurd (bare_not hB hno4) id
      | false =>
        have r2 := r1.later hb2
        have v2 := v1.later hb2
        have hbw2 := below_to hbW hb2
        clear r1 v1 hbW hb2 r0 hb0 hz0 cB cN
        have hO : Only l (2) (1) (⟨#[]⟩ : ByteArray).data.toList := hO0.out
        clear hno4 hN hB
        have hRE := readEnd_of (l := l) (K := (2)) (n := (1)) (u := ⟨#[]⟩) hO rngA rngB
        have HRE := Lib.hid hRE
        clear hRE hO
        have cC := fun w => refCheck_any (2) (1) ⟨#[]⟩ w
        have hVR : ¬ w.heap.size = w.heap.size + 1 := by omega
        have v2k := fun w1 h => v2.later (w' := w1) h
        have r2k := fun w1 h => r2.later (w' := w1) h
        obtain ⟨-, x0, x1, x2, j0, j1, j2⟩ := v2
        cases hZ : checkB (2) (1) (⟨#[]⟩ : ByteArray).data.toList with
        | false =>
          have hR : readV l (2) (1) ⟨#[]⟩ = .tuple #[V3 0 0 ⟨#[]⟩, .bool false] := if_neg (fun h => by rw [hZ] at h; cases h.1)
          have HR := Lib.hid hR
          simp only [hZ] at cC
          clear hR hZ r2
          go_wp2_with fail
          refine (cC _).mono ?_
          rintro e w5 ⟨rfl, hb5⟩
          have hbw5 := below_to hbw2 hb5
          obtain ⟨-, y0, y1, y2, f0, f1, f2⟩ := r2k _ hb5
          clear cC hb5 r2k v2k x0 x1 x2 j0 j1 j2
          go_wp2
          exact bodyPost_ret (v := .tuple #[V3 0 0 ⟨#[]⟩, .bool false]) (by simp [results, Tryd.results31, go_sem, y0, y1, y2]) rfl ⟨⟨_, rfl, by rw [← HR.out]; exact HRE.out⟩, ((hbw5.setCell (p := ⟨w.heap.size, 0, none⟩) (Nat.le_refl _) _).setCell (p := ⟨w.heap.size, 1, none⟩) (Nat.le_refl _) _).setCell (p := ⟨w.heap.size, 2, none⟩) (Nat.le_refl _) _⟩
        | true =>
          have cS := fun w => refshow_any (2) (1) ⟨#[]⟩ w rngA rngB hZ (checked_size hZ)
          have hS : ∀ Y : ByteArray, (⟨(showL (2) (1) (⟨#[]⟩ : ByteArray).data.toList).toArray⟩ : ByteArray) = Y → readV l (2) (1) ⟨#[]⟩ = if (Y.toList == s.toList) = true then .tuple #[V3 (2) (1) ⟨#[]⟩, .bool true] else .tuple #[V3 0 0 ⟨#[]⟩, .bool false] := by
            rintro Y rfl
            unfold readV
            have e : ((⟨(showL (2) (1) (⟨#[]⟩ : ByteArray).data.toList).toArray⟩ : ByteArray).toList == s.toList) = true ↔ showL (2) (1) (⟨#[]⟩ : ByteArray).data.toList = l := by
              rw [ByteArray.toList_eq, ByteArray.toList_eq, beq_iff_eq, HL.out]
            by_cases h : showL (2) (1) (⟨#[]⟩ : ByteArray).data.toList = l
            · rw [if_pos ⟨hZ, h⟩, if_pos (e.2 h)]
            · rw [if_neg (fun hh => h hh.2), if_neg (fun hh => h (e.1 hh))]
          obtain ⟨X, hX⟩ : ∃ X : ByteArray, (⟨(showL (2) (1) (⟨#[]⟩ : ByteArray).data.toList).toArray⟩ : ByteArray) = X := ⟨_, rfl⟩
          have HR := Lib.hid (hS X hX)
          simp only [hX] at cS
          simp only [hZ] at cC
          clear hS hX hZ r2
          go_wp2_with fail
          refine (cC _).mono ?_
          rintro e w5 ⟨rfl, hb5⟩
          have hbw5 := below_to hbw2 hb5
          have r5k := fun w1 (h : Below w5.heap.size w5 w1) => (r2k _ hb5).later (w' := w1) h
          have v5 := v2k _ hb5
          have v5k := fun w1 h => v5.later (w' := w1) h
          obtain ⟨-, z0, z1, z2, i0, i1, i2⟩ := v5
          clear cC hb5 r2k v2k x0 x1 x2 j0 j1 j2
          go_wp2_with fail
          refine (cS _).mono ?_
          rintro e w6 ⟨rfl, hb6⟩
          have hbw6 := below_to hbw5 hb6
          obtain ⟨-, y0, y1, y2, f0, f1, f2⟩ := r5k _ hb6
          obtain ⟨-, x0, x1, x2, j0, j1, j2⟩ := v5k _ hb6
          clear cS hb6 r5k v5k z0 z1 z2 i0 i1 i2 hbw5
          cases hq : (X.toList == s.toList) with
          | false =>
            have HR2 := Lib.hid (HR.out.trans (if_neg (by rw [hq]; decide)))
            go_wp2
            exact bodyPost_ret (v := .tuple #[V3 0 0 ⟨#[]⟩, .bool false]) (by simp [results, Tryd.results31, go_sem, y0, y1, y2]) rfl ⟨⟨_, rfl, by rw [← HR2.out]; exact HRE.out⟩, ((hbw6.setCell (p := ⟨w.heap.size, 0, none⟩) (Nat.le_refl _) _).setCell (p := ⟨w.heap.size, 1, none⟩) (Nat.le_refl _) _).setCell (p := ⟨w.heap.size, 2, none⟩) (Nat.le_refl _) _⟩
          | true =>
            have HR2 := Lib.hid (HR.out.trans (if_pos hq))
            go_wp2
            exact bodyPost_ret (v := .tuple #[V3 (2) (1) ⟨#[]⟩, .bool true]) (by simp [results, Tryd.results31, go_sem, y0, y1, y2]) rfl ⟨⟨_, rfl, by rw [← HR2.out]; exact HRE.out⟩, ((hbw6.setCell (p := ⟨w.heap.size, 0, none⟩) (Nat.le_refl _) _).setCell (p := ⟨w.heap.size, 1, none⟩) (Nat.le_refl _) _).setCell (p := ⟨w.heap.size, 2, none⟩) (Nat.le_refl _) _⟩
  have h2 := h
  clear h
  by_cases h : l = [102, 97, 108, 115, 101]
  · have e1 : (s.toList == [45]) = false := not_list (by rw [HL.out]; exact h1)
    have e2 : (s.toList == [116, 114, 117, 101]) = false := not_list (by rw [HL.out]; exact h2)
    have e3 : (s.toList == [102, 97, 108, 115, 101]) = true := is_list (by rw [HL.out]; exact h)
    have e4 : ((s.size : Int) == 2) = false := beq_eq_false_iff_ne.2 (by have := HSZ.out; rw [h] at this; simp at this; omega)
    have hno4 : l = [45] ∨ l = [116, 114, 117, 101] ∨ l = [102, 97, 108, 115, 101] ∨ ∃ d, l = [35, d] := .inr (.inr (.inl h))
    have hO0 := Lib.hid (show Only l 2 0 [] by rw [h]; exact (shown_truth false).only)
    have rngA : (-9223372036854775808 : Int) ≤ 0 := by decide
    have rngB : (0 : Int) ≤ 9223372036854775807 := by decide
    clear h h1 h2 hne
    go_enter Tryd.func31, Tryd.ntmps31
    go_wp2_with fail
    refine (cN _).mono ?_
    rintro e w1 ⟨⟨n, b, rfl, hN⟩, rfl⟩
    cases b with
    | true =>
      exact absurd (num_not hN hno4) id
    | false =>
      have bW := below_alloc (w.alloc (.cells #[.int .i64 0, .int .i64 0, .string ⟨#[]⟩] 23)) (.cells #[.int .i64 2, .int .i64 0, .string ⟨#[]⟩] 23)
      have hbW := below_to hb0 bW
      have r1 := r0.later bW
      have v1 := three_new (w.alloc (.cells #[.int .i64 0, .int .i64 0, .string ⟨#[]⟩] 23)) (.int .i64 2) (.int .i64 0) (.string ⟨#[]⟩) 23
      rw [hz0] at v1
      clear bW
      go_wp2_with fail
      refine (cB _).mono ?_
      rintro e w2 ⟨⟨T, b, rfl, hB⟩, hb2⟩
      cases b with
      | true =>
        exact absurd (bare_not hB hno4) id
      | false =>
        have r2 := r1.later hb2
        have v2 := v1.later hb2
        have hbw2 := below_to hbW hb2
        clear r1 v1 hbW hb2 r0 hb0 hz0 cB cN
        have hO : Only l (2) (0) (⟨#[]⟩ : ByteArray).data.toList := hO0.out
        clear hno4 hN hB
        have hRE := readEnd_of (l := l) (K := (2)) (n := (0)) (u := ⟨#[]⟩) hO rngA rngB
        have HRE := Lib.hid hRE
        clear hRE hO
        have cC := fun w => refCheck_any (2) (0) ⟨#[]⟩ w
        have hVR : ¬ w.heap.size = w.heap.size + 1 := by omega
        have v2k := fun w1 h => v2.later (w' := w1) h
        have r2k := fun w1 h => r2.later (w' := w1) h
        obtain ⟨-, x0, x1, x2, j0, j1, j2⟩ := v2
        cases hZ : checkB (2) (0) (⟨#[]⟩ : ByteArray).data.toList with
        | false =>
          have hR : readV l (2) (0) ⟨#[]⟩ = .tuple #[V3 0 0 ⟨#[]⟩, .bool false] := if_neg (fun h => by rw [hZ] at h; cases h.1)
          have HR := Lib.hid hR
          simp only [hZ] at cC
          clear hR hZ r2
          go_wp2_with fail
          refine (cC _).mono ?_
          rintro e w5 ⟨rfl, hb5⟩
          have hbw5 := below_to hbw2 hb5
          obtain ⟨-, y0, y1, y2, f0, f1, f2⟩ := r2k _ hb5
          clear cC hb5 r2k v2k x0 x1 x2 j0 j1 j2
          go_wp2
          exact bodyPost_ret (v := .tuple #[V3 0 0 ⟨#[]⟩, .bool false]) (by simp [results, Tryd.results31, go_sem, y0, y1, y2]) rfl ⟨⟨_, rfl, by rw [← HR.out]; exact HRE.out⟩, ((hbw5.setCell (p := ⟨w.heap.size, 0, none⟩) (Nat.le_refl _) _).setCell (p := ⟨w.heap.size, 1, none⟩) (Nat.le_refl _) _).setCell (p := ⟨w.heap.size, 2, none⟩) (Nat.le_refl _) _⟩
        | true =>
          have cS := fun w => refshow_any (2) (0) ⟨#[]⟩ w rngA rngB hZ (checked_size hZ)
          have hS : ∀ Y : ByteArray, (⟨(showL (2) (0) (⟨#[]⟩ : ByteArray).data.toList).toArray⟩ : ByteArray) = Y → readV l (2) (0) ⟨#[]⟩ = if (Y.toList == s.toList) = true then .tuple #[V3 (2) (0) ⟨#[]⟩, .bool true] else .tuple #[V3 0 0 ⟨#[]⟩, .bool false] := by
            rintro Y rfl
            unfold readV
            have e : ((⟨(showL (2) (0) (⟨#[]⟩ : ByteArray).data.toList).toArray⟩ : ByteArray).toList == s.toList) = true ↔ showL (2) (0) (⟨#[]⟩ : ByteArray).data.toList = l := by
              rw [ByteArray.toList_eq, ByteArray.toList_eq, beq_iff_eq, HL.out]
            by_cases h : showL (2) (0) (⟨#[]⟩ : ByteArray).data.toList = l
            · rw [if_pos ⟨hZ, h⟩, if_pos (e.2 h)]
            · rw [if_neg (fun hh => h hh.2), if_neg (fun hh => h (e.1 hh))]
          obtain ⟨X, hX⟩ : ∃ X : ByteArray, (⟨(showL (2) (0) (⟨#[]⟩ : ByteArray).data.toList).toArray⟩ : ByteArray) = X := ⟨_, rfl⟩
          have HR := Lib.hid (hS X hX)
          simp only [hX] at cS
          simp only [hZ] at cC
          clear hS hX hZ r2
          go_wp2_with fail
          refine (cC _).mono ?_
          rintro e w5 ⟨rfl, hb5⟩
          have hbw5 := below_to hbw2 hb5
          have r5k := fun w1 (h : Below w5.heap.size w5 w1) => (r2k _ hb5).later (w' := w1) h
          have v5 := v2k _ hb5
          have v5k := fun w1 h => v5.later (w' := w1) h
          obtain ⟨-, z0, z1, z2, i0, i1, i2⟩ := v5
          clear cC hb5 r2k v2k x0 x1 x2 j0 j1 j2
          go_wp2_with fail
          refine (cS _).mono ?_
          rintro e w6 ⟨rfl, hb6⟩
          have hbw6 := below_to hbw5 hb6
          obtain ⟨-, y0, y1, y2, f0, f1, f2⟩ := r5k _ hb6
          obtain ⟨-, x0, x1, x2, j0, j1, j2⟩ := v5k _ hb6
          clear cS hb6 r5k v5k z0 z1 z2 i0 i1 i2 hbw5
          cases hq : (X.toList == s.toList) with
          | false =>
            have HR2 := Lib.hid (HR.out.trans (if_neg (by rw [hq]; decide)))
            go_wp2
            exact bodyPost_ret (v := .tuple #[V3 0 0 ⟨#[]⟩, .bool false]) (by simp [results, Tryd.results31, go_sem, y0, y1, y2]) rfl ⟨⟨_, rfl, by rw [← HR2.out]; exact HRE.out⟩, ((hbw6.setCell (p := ⟨w.heap.size, 0, none⟩) (Nat.le_refl _) _).setCell (p := ⟨w.heap.size, 1, none⟩) (Nat.le_refl _) _).setCell (p := ⟨w.heap.size, 2, none⟩) (Nat.le_refl _) _⟩
          | true =>
            have HR2 := Lib.hid (HR.out.trans (if_pos hq))
            go_wp2
            exact bodyPost_ret (v := .tuple #[V3 (2) (0) ⟨#[]⟩, .bool true]) (by simp [results, Tryd.results31, go_sem, y0, y1, y2]) rfl ⟨⟨_, rfl, by rw [← HR2.out]; exact HRE.out⟩, ((hbw6.setCell (p := ⟨w.heap.size, 0, none⟩) (Nat.le_refl _) _).setCell (p := ⟨w.heap.size, 1, none⟩) (Nat.le_refl _) _).setCell (p := ⟨w.heap.size, 2, none⟩) (Nat.le_refl _) _⟩
  have h3 := h
  clear h
  have e1 : (s.toList == [45]) = false := not_list (by rw [HL.out]; exact h1)
  have e2 : (s.toList == [116, 114, 117, 101]) = false := not_list (by rw [HL.out]; exact h2)
  have e3 : (s.toList == [102, 97, 108, 115, 101]) = false := not_list (by rw [HL.out]; exact h3)
  by_cases h5 : s.size = 2
  · have hp0 : 0 < s.size := by omega
    have hp1 : 1 < s.size := by omega
    have hg0 := HG.out 0 hp0
    have hg1 := HG.out 1 hp1
    have hl2 : l = [s[0], s[1]] := by
      have h6 := HSZ.out
      rw [h5] at h6
      match l, h6, hg0, hg1 with
      | [a, b], _, g0, g1 =>
        injection g0 with g0; injection g1 with g1
        rw [g0, g1]
    have e4 : ((s.size : Int) == 2) = true := by rw [h5]; rfl
    have hp1z : (1 : Int) < (s.size : Int) := by omega
    have hp0z : (0 : Int) < (s.size : Int) := by omega
    clear hg0 hg1
    by_cases h35 : s[0].toNat = 35
    · have e5 : ((s[0].toNat : Int) == 35) = true := by rw [h35]; rfl
      have hl3 : l = [(35 : UInt8), s[1]] := by rw [hl2, show s[0] = 35 from UInt8.toNat_inj.1 h35]
      have hb8 := (s[1]).toNat_lt
      have hno4 : l = [45] ∨ l = [116, 114, 117, 101] ∨ l = [102, 97, 108, 115, 101] ∨ ∃ d, l = [35, d] := .inr (.inr (.inr ⟨_, hl3⟩))
      have hO0 := Lib.hid (show Only l 4 ((s[1].toNat : Int) - 48) [] by rw [hl3]; exact only_two _)
      have rngA : (-9223372036854775808 : Int) ≤ (s[1].toNat : Int) - 48 := by omega
      have rngB : (s[1].toNat : Int) - 48 ≤ 9223372036854775807 := by omega
      clear hl2 hl3 h35 h5 h1 h2 h3 hne
      go_enter Tryd.func31, Tryd.ntmps31
      go_wp2_with fail
      refine (cN _).mono ?_
      rintro e w1 ⟨⟨n, b, rfl, hN⟩, rfl⟩
      cases b with
      | true =>
        exact absurd (num_not hN hno4) id
      | false =>
        have bW := below_alloc (w.alloc (.cells #[.int .i64 0, .int .i64 0, .string ⟨#[]⟩] 23)) (.cells #[.int .i64 4, .int .i64 ((s[1].toNat : Int) - 48), .string ⟨#[]⟩] 23)
        have hbW := below_to hb0 bW
        have r1 := r0.later bW
        have v1 := three_new (w.alloc (.cells #[.int .i64 0, .int .i64 0, .string ⟨#[]⟩] 23)) (.int .i64 4) (.int .i64 ((s[1].toNat : Int) - 48)) (.string ⟨#[]⟩) 23
        rw [hz0] at v1
        clear bW
        go_wp2_with fail
        refine (cB _).mono ?_
        rintro e w2 ⟨⟨T, b, rfl, hB⟩, hb2⟩
        cases b with
        | true =>
          exact absurd (bare_not hB hno4) id
        | false =>
          have r2 := r1.later hb2
          have v2 := v1.later hb2
          have hbw2 := below_to hbW hb2
          clear r1 v1 hbW hb2 r0 hb0 hz0 cB cN
          have hO : Only l (4) (((s[1].toNat : Int) - 48)) (⟨#[]⟩ : ByteArray).data.toList := hO0.out
          clear hno4 hN hB
          have hRE := readEnd_of (l := l) (K := (4)) (n := (((s[1].toNat : Int) - 48))) (u := ⟨#[]⟩) hO rngA rngB
          have HRE := Lib.hid hRE
          clear hRE hO
          have cC := fun w => refCheck_any (4) (((s[1].toNat : Int) - 48)) ⟨#[]⟩ w
          have hVR : ¬ w.heap.size = w.heap.size + 1 := by omega
          have v2k := fun w1 h => v2.later (w' := w1) h
          have r2k := fun w1 h => r2.later (w' := w1) h
          obtain ⟨-, x0, x1, x2, j0, j1, j2⟩ := v2
          cases hZ : checkB (4) (((s[1].toNat : Int) - 48)) (⟨#[]⟩ : ByteArray).data.toList with
          | false =>
            have hR : readV l (4) (((s[1].toNat : Int) - 48)) ⟨#[]⟩ = .tuple #[V3 0 0 ⟨#[]⟩, .bool false] := if_neg (fun h => by rw [hZ] at h; cases h.1)
            have HR := Lib.hid hR
            simp only [hZ] at cC
            clear hR hZ r2
            go_wp2_with fail
            refine (cC _).mono ?_
            rintro e w5 ⟨rfl, hb5⟩
            have hbw5 := below_to hbw2 hb5
            obtain ⟨-, y0, y1, y2, f0, f1, f2⟩ := r2k _ hb5
            clear cC hb5 r2k v2k x0 x1 x2 j0 j1 j2
            go_wp2
            exact bodyPost_ret (v := .tuple #[V3 0 0 ⟨#[]⟩, .bool false]) (by simp [results, Tryd.results31, go_sem, y0, y1, y2]) rfl ⟨⟨_, rfl, by rw [← HR.out]; exact HRE.out⟩, ((hbw5.setCell (p := ⟨w.heap.size, 0, none⟩) (Nat.le_refl _) _).setCell (p := ⟨w.heap.size, 1, none⟩) (Nat.le_refl _) _).setCell (p := ⟨w.heap.size, 2, none⟩) (Nat.le_refl _) _⟩
          | true =>
            have cS := fun w => refshow_any (4) (((s[1].toNat : Int) - 48)) ⟨#[]⟩ w rngA rngB hZ (checked_size hZ)
            have hS : ∀ Y : ByteArray, (⟨(showL (4) (((s[1].toNat : Int) - 48)) (⟨#[]⟩ : ByteArray).data.toList).toArray⟩ : ByteArray) = Y → readV l (4) (((s[1].toNat : Int) - 48)) ⟨#[]⟩ = if (Y.toList == s.toList) = true then .tuple #[V3 (4) (((s[1].toNat : Int) - 48)) ⟨#[]⟩, .bool true] else .tuple #[V3 0 0 ⟨#[]⟩, .bool false] := by
              rintro Y rfl
              unfold readV
              have e : ((⟨(showL (4) (((s[1].toNat : Int) - 48)) (⟨#[]⟩ : ByteArray).data.toList).toArray⟩ : ByteArray).toList == s.toList) = true ↔ showL (4) (((s[1].toNat : Int) - 48)) (⟨#[]⟩ : ByteArray).data.toList = l := by
                rw [ByteArray.toList_eq, ByteArray.toList_eq, beq_iff_eq, HL.out]
              by_cases h : showL (4) (((s[1].toNat : Int) - 48)) (⟨#[]⟩ : ByteArray).data.toList = l
              · rw [if_pos ⟨hZ, h⟩, if_pos (e.2 h)]
              · rw [if_neg (fun hh => h hh.2), if_neg (fun hh => h (e.1 hh))]
            obtain ⟨X, hX⟩ : ∃ X : ByteArray, (⟨(showL (4) (((s[1].toNat : Int) - 48)) (⟨#[]⟩ : ByteArray).data.toList).toArray⟩ : ByteArray) = X := ⟨_, rfl⟩
            have HR := Lib.hid (hS X hX)
            simp only [hX] at cS
            simp only [hZ] at cC
            clear hS hX hZ r2
            go_wp2_with fail
            refine (cC _).mono ?_
            rintro e w5 ⟨rfl, hb5⟩
            have hbw5 := below_to hbw2 hb5
            have r5k := fun w1 (h : Below w5.heap.size w5 w1) => (r2k _ hb5).later (w' := w1) h
            have v5 := v2k _ hb5
            have v5k := fun w1 h => v5.later (w' := w1) h
            obtain ⟨-, z0, z1, z2, i0, i1, i2⟩ := v5
            clear cC hb5 r2k v2k x0 x1 x2 j0 j1 j2
            go_wp2_with fail
            refine (cS _).mono ?_
            rintro e w6 ⟨rfl, hb6⟩
            have hbw6 := below_to hbw5 hb6
            obtain ⟨-, y0, y1, y2, f0, f1, f2⟩ := r5k _ hb6
            obtain ⟨-, x0, x1, x2, j0, j1, j2⟩ := v5k _ hb6
            clear cS hb6 r5k v5k z0 z1 z2 i0 i1 i2 hbw5
            cases hq : (X.toList == s.toList) with
            | false =>
              have HR2 := Lib.hid (HR.out.trans (if_neg (by rw [hq]; decide)))
              go_wp2
              exact bodyPost_ret (v := .tuple #[V3 0 0 ⟨#[]⟩, .bool false]) (by simp [results, Tryd.results31, go_sem, y0, y1, y2]) rfl ⟨⟨_, rfl, by rw [← HR2.out]; exact HRE.out⟩, ((hbw6.setCell (p := ⟨w.heap.size, 0, none⟩) (Nat.le_refl _) _).setCell (p := ⟨w.heap.size, 1, none⟩) (Nat.le_refl _) _).setCell (p := ⟨w.heap.size, 2, none⟩) (Nat.le_refl _) _⟩
            | true =>
              have HR2 := Lib.hid (HR.out.trans (if_pos hq))
              go_wp2
              exact bodyPost_ret (v := .tuple #[V3 (4) (((s[1].toNat : Int) - 48)) ⟨#[]⟩, .bool true]) (by simp [results, Tryd.results31, go_sem, y0, y1, y2]) rfl ⟨⟨_, rfl, by rw [← HR2.out]; exact HRE.out⟩, ((hbw6.setCell (p := ⟨w.heap.size, 0, none⟩) (Nat.le_refl _) _).setCell (p := ⟨w.heap.size, 1, none⟩) (Nat.le_refl _) _).setCell (p := ⟨w.heap.size, 2, none⟩) (Nat.le_refl _) _⟩
    · have e5 : ((s[0].toNat : Int) == 35) = false := beq_eq_false_iff_ne.2 (by omega)
      have H4 := Lib.hid (show ∀ d, l ≠ [35, d] from fun d e => h35 (by rw [hl2] at e; injection e with e _; rw [e]; rfl))
      clear hl2 h35 h5 hne
      go_enter Tryd.func31, Tryd.ntmps31
      go_wp2_with fail
      refine (cN _).mono ?_
      rintro e w1 ⟨⟨n, b, rfl, hN⟩, rfl⟩
      cases b with
      | true =>
        have hO : Only l 1 n (⟨#[]⟩ : ByteArray).data.toList := only_number hN h2 h3
        have n0 := hN.1
        have n1 := hN.2.1
        have HN := Lib.hid hN
        clear hN h1 h2 h3
        have bW := below_alloc (w.alloc (.cells #[.int .i64 0, .int .i64 0, .string ⟨#[]⟩] 23)) (.cells #[.int .i64 1, .int .i64 n, .string ⟨#[]⟩] 23)
        have hbW := below_to hb0 bW
        have r1 := r0.later bW
        have v1 := three_new (w.alloc (.cells #[.int .i64 0, .int .i64 0, .string ⟨#[]⟩] 23)) (.int .i64 1) (.int .i64 n) (.string ⟨#[]⟩) 23
        rw [hz0] at v1
        clear bW
        go_wp2_with fail
        refine (cB _).mono ?_
        rintro e w2 ⟨⟨T, b, rfl, hB⟩, hb2⟩
        cases b with
        | true =>
          exact absurd (num_bare HN.out hB) id
        | false =>
          have r2 := r1.later hb2
          have v2 := v1.later hb2
          have hbw2 := below_to hbW hb2
          clear r1 v1 hbW hb2 r0 hb0 hz0 cB cN
          clear hB HN
          have hRE := readEnd_of (l := l) (K := 1) (n := n) (u := ⟨#[]⟩) hO n0 n1
          have HRE := Lib.hid hRE
          clear hRE hO
          have cC := fun w => refCheck_any 1 n ⟨#[]⟩ w
          have hVR : ¬ w.heap.size = w.heap.size + 1 := by omega
          have v2k := fun w1 h => v2.later (w' := w1) h
          have r2k := fun w1 h => r2.later (w' := w1) h
          obtain ⟨-, x0, x1, x2, j0, j1, j2⟩ := v2
          cases hZ : checkB 1 n (⟨#[]⟩ : ByteArray).data.toList with
          | false =>
            have hR : readV l 1 n ⟨#[]⟩ = .tuple #[V3 0 0 ⟨#[]⟩, .bool false] := if_neg (fun h => by rw [hZ] at h; cases h.1)
            have HR := Lib.hid hR
            simp only [hZ] at cC
            clear hR hZ r2
            go_wp2_with fail
            refine (cC _).mono ?_
            rintro e w5 ⟨rfl, hb5⟩
            have hbw5 := below_to hbw2 hb5
            obtain ⟨-, y0, y1, y2, f0, f1, f2⟩ := r2k _ hb5
            clear cC hb5 r2k v2k x0 x1 x2 j0 j1 j2
            go_wp2
            exact bodyPost_ret (v := .tuple #[V3 0 0 ⟨#[]⟩, .bool false]) (by simp [results, Tryd.results31, go_sem, y0, y1, y2]) rfl ⟨⟨_, rfl, by rw [← HR.out]; exact HRE.out⟩, ((hbw5.setCell (p := ⟨w.heap.size, 0, none⟩) (Nat.le_refl _) _).setCell (p := ⟨w.heap.size, 1, none⟩) (Nat.le_refl _) _).setCell (p := ⟨w.heap.size, 2, none⟩) (Nat.le_refl _) _⟩
          | true =>
            have cS := fun w => refshow_any 1 n ⟨#[]⟩ w n0 n1 hZ (checked_size hZ)
            have hS : ∀ Y : ByteArray, (⟨(showL 1 n (⟨#[]⟩ : ByteArray).data.toList).toArray⟩ : ByteArray) = Y → readV l 1 n ⟨#[]⟩ = if (Y.toList == s.toList) = true then .tuple #[V3 1 n ⟨#[]⟩, .bool true] else .tuple #[V3 0 0 ⟨#[]⟩, .bool false] := by
              rintro Y rfl
              unfold readV
              have e : ((⟨(showL 1 n (⟨#[]⟩ : ByteArray).data.toList).toArray⟩ : ByteArray).toList == s.toList) = true ↔ showL 1 n (⟨#[]⟩ : ByteArray).data.toList = l := by
                rw [ByteArray.toList_eq, ByteArray.toList_eq, beq_iff_eq, HL.out]
              by_cases h : showL 1 n (⟨#[]⟩ : ByteArray).data.toList = l
              · rw [if_pos ⟨hZ, h⟩, if_pos (e.2 h)]
              · rw [if_neg (fun hh => h hh.2), if_neg (fun hh => h (e.1 hh))]
            obtain ⟨X, hX⟩ : ∃ X : ByteArray, (⟨(showL 1 n (⟨#[]⟩ : ByteArray).data.toList).toArray⟩ : ByteArray) = X := ⟨_, rfl⟩
            have HR := Lib.hid (hS X hX)
            simp only [hX] at cS
            simp only [hZ] at cC
            clear hS hX hZ r2
            go_wp2_with fail
            refine (cC _).mono ?_
            rintro e w5 ⟨rfl, hb5⟩
            have hbw5 := below_to hbw2 hb5
            have r5k := fun w1 (h : Below w5.heap.size w5 w1) => (r2k _ hb5).later (w' := w1) h
            have v5 := v2k _ hb5
            have v5k := fun w1 h => v5.later (w' := w1) h
            obtain ⟨-, z0, z1, z2, i0, i1, i2⟩ := v5
            clear cC hb5 r2k v2k x0 x1 x2 j0 j1 j2
            go_wp2_with fail
            refine (cS _).mono ?_
            rintro e w6 ⟨rfl, hb6⟩
            have hbw6 := below_to hbw5 hb6
            obtain ⟨-, y0, y1, y2, f0, f1, f2⟩ := r5k _ hb6
            obtain ⟨-, x0, x1, x2, j0, j1, j2⟩ := v5k _ hb6
            clear cS hb6 r5k v5k z0 z1 z2 i0 i1 i2 hbw5
            cases hq : (X.toList == s.toList) with
            | false =>
              have HR2 := Lib.hid (HR.out.trans (if_neg (by rw [hq]; decide)))
              go_wp2
              exact bodyPost_ret (v := .tuple #[V3 0 0 ⟨#[]⟩, .bool false]) (by simp [results, Tryd.results31, go_sem, y0, y1, y2]) rfl ⟨⟨_, rfl, by rw [← HR2.out]; exact HRE.out⟩, ((hbw6.setCell (p := ⟨w.heap.size, 0, none⟩) (Nat.le_refl _) _).setCell (p := ⟨w.heap.size, 1, none⟩) (Nat.le_refl _) _).setCell (p := ⟨w.heap.size, 2, none⟩) (Nat.le_refl _) _⟩
            | true =>
              have HR2 := Lib.hid (HR.out.trans (if_pos hq))
              go_wp2
              exact bodyPost_ret (v := .tuple #[V3 1 n ⟨#[]⟩, .bool true]) (by simp [results, Tryd.results31, go_sem, y0, y1, y2]) rfl ⟨⟨_, rfl, by rw [← HR2.out]; exact HRE.out⟩, ((hbw6.setCell (p := ⟨w.heap.size, 0, none⟩) (Nat.le_refl _) _).setCell (p := ⟨w.heap.size, 1, none⟩) (Nat.le_refl _) _).setCell (p := ⟨w.heap.size, 2, none⟩) (Nat.le_refl _) _⟩
      | false =>
        have HN := Lib.hid hN
        have H1 := Lib.hid h1
        have H2 := Lib.hid h2
        have H3 := Lib.hid h3
        clear hN h1 h2 h3
        have bW := below_alloc (w.alloc (.cells #[.int .i64 0, .int .i64 0, .string ⟨#[]⟩] 23)) (.cells #[.int .i64 0, .int .i64 0, .string ⟨#[]⟩] 23)
        have hbW := below_to hb0 bW
        have r1 := r0.later bW
        have v1 := three_new (w.alloc (.cells #[.int .i64 0, .int .i64 0, .string ⟨#[]⟩] 23)) (.int .i64 0) (.int .i64 0) (.string ⟨#[]⟩) 23
        rw [hz0] at v1
        clear bW
        go_wp2_with fail
        refine (cB _).mono ?_
        rintro e w2 ⟨⟨T, b, rfl, hB⟩, hb2⟩
        cases b with
        | true =>
          have hTz : T.size ≤ l.length := hB.1
          have r2 := (r1.later hb2).other_set (q := w.heap.size + 1) (by omega) (.int .i64 3) (.int .i64 0) (.string T)
          have v2 := (v1.later hb2).set (.int .i64 3) (.int .i64 0) (.string T)
          have hbw2 := (((below_to hbW hb2).setCell (p := ⟨w.heap.size + 1, 0, none⟩) (Nat.le_succ _) (.int .i64 3)).setCell (p := ⟨w.heap.size + 1, 1, none⟩) (Nat.le_succ _) (.int .i64 0)).setCell (p := ⟨w.heap.size + 1, 2, none⟩) (Nat.le_succ _) (.string T)
          have hf := v1.later hb2
          obtain ⟨hlt9, g90, g91, g92, f90, f91, f92⟩ := hf
          clear r1 v1 hbW hb2 r0 hb0 hz0 cB cN
          have hO : Only l 3 0 T.data.toList := only_bare hB
          clear hB HN H1 H2 H3
          have hRE := readEnd_of (l := l) (K := 3) (n := 0) (u := T) hO (by decide) (by decide)
          have HRE := Lib.hid hRE
          clear hRE hO
          have cC := fun w => refCheck_any 3 0 T w
          have hVR : ¬ w.heap.size = w.heap.size + 1 := by omega
          have v2k := fun w1 h => v2.later (w' := w1) h
          have r2k := fun w1 h => r2.later (w' := w1) h
          obtain ⟨-, x0, x1, x2, j0, j1, j2⟩ := v2
          cases hZ : checkB 3 0 (T : ByteArray).data.toList with
          | false =>
            have hR : readV l 3 0 T = .tuple #[V3 0 0 ⟨#[]⟩, .bool false] := if_neg (fun h => by rw [hZ] at h; cases h.1)
            have HR := Lib.hid hR
            simp only [hZ] at cC
            clear hR hZ r2
            go_wp2_with fail
            refine (cC _).mono ?_
            rintro e w5 ⟨rfl, hb5⟩
            have hbw5 := below_to hbw2 hb5
            obtain ⟨-, y0, y1, y2, f0, f1, f2⟩ := r2k _ hb5
            clear cC hb5 r2k v2k x0 x1 x2 j0 j1 j2
            go_wp2
            exact bodyPost_ret (v := .tuple #[V3 0 0 ⟨#[]⟩, .bool false]) (by simp [results, Tryd.results31, go_sem, y0, y1, y2]) rfl ⟨⟨_, rfl, by rw [← HR.out]; exact HRE.out⟩, ((hbw5.setCell (p := ⟨w.heap.size, 0, none⟩) (Nat.le_refl _) _).setCell (p := ⟨w.heap.size, 1, none⟩) (Nat.le_refl _) _).setCell (p := ⟨w.heap.size, 2, none⟩) (Nat.le_refl _) _⟩
          | true =>
            have cS := fun w => refshow_any 3 0 T w (by decide) (by decide) hZ (checked_size hZ)
            have hS : ∀ Y : ByteArray, (⟨(showL 3 0 (T : ByteArray).data.toList).toArray⟩ : ByteArray) = Y → readV l 3 0 T = if (Y.toList == s.toList) = true then .tuple #[V3 3 0 T, .bool true] else .tuple #[V3 0 0 ⟨#[]⟩, .bool false] := by
              rintro Y rfl
              unfold readV
              have e : ((⟨(showL 3 0 (T : ByteArray).data.toList).toArray⟩ : ByteArray).toList == s.toList) = true ↔ showL 3 0 (T : ByteArray).data.toList = l := by
                rw [ByteArray.toList_eq, ByteArray.toList_eq, beq_iff_eq, HL.out]
              by_cases h : showL 3 0 (T : ByteArray).data.toList = l
              · rw [if_pos ⟨hZ, h⟩, if_pos (e.2 h)]
              · rw [if_neg (fun hh => h hh.2), if_neg (fun hh => h (e.1 hh))]
            obtain ⟨X, hX⟩ : ∃ X : ByteArray, (⟨(showL 3 0 (T : ByteArray).data.toList).toArray⟩ : ByteArray) = X := ⟨_, rfl⟩
            have HR := Lib.hid (hS X hX)
            simp only [hX] at cS
            simp only [hZ] at cC
            clear hS hX hZ r2
            go_wp2_with fail
            refine (cC _).mono ?_
            rintro e w5 ⟨rfl, hb5⟩
            have hbw5 := below_to hbw2 hb5
            have r5k := fun w1 (h : Below w5.heap.size w5 w1) => (r2k _ hb5).later (w' := w1) h
            have v5 := v2k _ hb5
            have v5k := fun w1 h => v5.later (w' := w1) h
            obtain ⟨-, z0, z1, z2, i0, i1, i2⟩ := v5
            clear cC hb5 r2k v2k x0 x1 x2 j0 j1 j2
            go_wp2_with fail
            refine (cS _).mono ?_
            rintro e w6 ⟨rfl, hb6⟩
            have hbw6 := below_to hbw5 hb6
            obtain ⟨-, y0, y1, y2, f0, f1, f2⟩ := r5k _ hb6
            obtain ⟨-, x0, x1, x2, j0, j1, j2⟩ := v5k _ hb6
            clear cS hb6 r5k v5k z0 z1 z2 i0 i1 i2 hbw5
            cases hq : (X.toList == s.toList) with
            | false =>
              have HR2 := Lib.hid (HR.out.trans (if_neg (by rw [hq]; decide)))
              go_wp2
              exact bodyPost_ret (v := .tuple #[V3 0 0 ⟨#[]⟩, .bool false]) (by simp [results, Tryd.results31, go_sem, y0, y1, y2]) rfl ⟨⟨_, rfl, by rw [← HR2.out]; exact HRE.out⟩, ((hbw6.setCell (p := ⟨w.heap.size, 0, none⟩) (Nat.le_refl _) _).setCell (p := ⟨w.heap.size, 1, none⟩) (Nat.le_refl _) _).setCell (p := ⟨w.heap.size, 2, none⟩) (Nat.le_refl _) _⟩
            | true =>
              have HR2 := Lib.hid (HR.out.trans (if_pos hq))
              go_wp2
              exact bodyPost_ret (v := .tuple #[V3 3 0 T, .bool true]) (by simp [results, Tryd.results31, go_sem, y0, y1, y2]) rfl ⟨⟨_, rfl, by rw [← HR2.out]; exact HRE.out⟩, ((hbw6.setCell (p := ⟨w.heap.size, 0, none⟩) (Nat.le_refl _) _).setCell (p := ⟨w.heap.size, 1, none⟩) (Nat.le_refl _) _).setCell (p := ⟨w.heap.size, 2, none⟩) (Nat.le_refl _) _⟩
        | false =>
          have hno := none_shown (n := n) (T := T) H1.out H2.out H3.out H4.out HN.out hB
          have r2 := r1.later hb2
          have v2 := v1.later hb2
          have hbw2 := below_to hbW hb2
          clear r1 v1 hbW hb2 r0 hb0 hz0 cB cN
          clear hB HN H1 H2 H3
          have HNO := Lib.hid hno
          clear hno
          obtain ⟨-, y0, y1, y2, f0, f1, f2⟩ := r2
          go_wp2
          exact bodyPost_ret (v := .tuple #[V3 0 0 ⟨#[]⟩, .bool false]) (by simp [results, Tryd.results31, go_sem, y0, y1, y2]) rfl ⟨⟨_, rfl, .inr ⟨HNO.out, rfl⟩⟩, ((hbw2.setCell (p := ⟨w.heap.size, 0, none⟩) (Nat.le_refl _) _).setCell (p := ⟨w.heap.size, 1, none⟩) (Nat.le_refl _) _).setCell (p := ⟨w.heap.size, 2, none⟩) (Nat.le_refl _) _⟩
  · have e4 : ((s.size : Int) == 2) = false := beq_eq_false_iff_ne.2 (by omega)
    have H4 := Lib.hid (show ∀ d, l ≠ [35, d] from fun d e => h5 (by rw [← HSZ.out, e]; rfl))
    clear h5 hne
    go_enter Tryd.func31, Tryd.ntmps31
    go_wp2_with fail
    refine (cN _).mono ?_
    rintro e w1 ⟨⟨n, b, rfl, hN⟩, rfl⟩
    cases b with
    | true =>
      have hO : Only l 1 n (⟨#[]⟩ : ByteArray).data.toList := only_number hN h2 h3
      have n0 := hN.1
      have n1 := hN.2.1
      have HN := Lib.hid hN
      clear hN h1 h2 h3
      have bW := below_alloc (w.alloc (.cells #[.int .i64 0, .int .i64 0, .string ⟨#[]⟩] 23)) (.cells #[.int .i64 1, .int .i64 n, .string ⟨#[]⟩] 23)
      have hbW := below_to hb0 bW
      have r1 := r0.later bW
      have v1 := three_new (w.alloc (.cells #[.int .i64 0, .int .i64 0, .string ⟨#[]⟩] 23)) (.int .i64 1) (.int .i64 n) (.string ⟨#[]⟩) 23
      rw [hz0] at v1
      clear bW
      go_wp2_with fail
      refine (cB _).mono ?_
      rintro e w2 ⟨⟨T, b, rfl, hB⟩, hb2⟩
      cases b with
      | true =>
        exact absurd (num_bare HN.out hB) id
      | false =>
        have r2 := r1.later hb2
        have v2 := v1.later hb2
        have hbw2 := below_to hbW hb2
        clear r1 v1 hbW hb2 r0 hb0 hz0 cB cN
        clear hB HN
        have hRE := readEnd_of (l := l) (K := 1) (n := n) (u := ⟨#[]⟩) hO n0 n1
        have HRE := Lib.hid hRE
        clear hRE hO
        have cC := fun w => refCheck_any 1 n ⟨#[]⟩ w
        have hVR : ¬ w.heap.size = w.heap.size + 1 := by omega
        have v2k := fun w1 h => v2.later (w' := w1) h
        have r2k := fun w1 h => r2.later (w' := w1) h
        obtain ⟨-, x0, x1, x2, j0, j1, j2⟩ := v2
        cases hZ : checkB 1 n (⟨#[]⟩ : ByteArray).data.toList with
        | false =>
          have hR : readV l 1 n ⟨#[]⟩ = .tuple #[V3 0 0 ⟨#[]⟩, .bool false] := if_neg (fun h => by rw [hZ] at h; cases h.1)
          have HR := Lib.hid hR
          simp only [hZ] at cC
          clear hR hZ r2
          go_wp2_with fail
          refine (cC _).mono ?_
          rintro e w5 ⟨rfl, hb5⟩
          have hbw5 := below_to hbw2 hb5
          obtain ⟨-, y0, y1, y2, f0, f1, f2⟩ := r2k _ hb5
          clear cC hb5 r2k v2k x0 x1 x2 j0 j1 j2
          go_wp2
          exact bodyPost_ret (v := .tuple #[V3 0 0 ⟨#[]⟩, .bool false]) (by simp [results, Tryd.results31, go_sem, y0, y1, y2]) rfl ⟨⟨_, rfl, by rw [← HR.out]; exact HRE.out⟩, ((hbw5.setCell (p := ⟨w.heap.size, 0, none⟩) (Nat.le_refl _) _).setCell (p := ⟨w.heap.size, 1, none⟩) (Nat.le_refl _) _).setCell (p := ⟨w.heap.size, 2, none⟩) (Nat.le_refl _) _⟩
        | true =>
          have cS := fun w => refshow_any 1 n ⟨#[]⟩ w n0 n1 hZ (checked_size hZ)
          have hS : ∀ Y : ByteArray, (⟨(showL 1 n (⟨#[]⟩ : ByteArray).data.toList).toArray⟩ : ByteArray) = Y → readV l 1 n ⟨#[]⟩ = if (Y.toList == s.toList) = true then .tuple #[V3 1 n ⟨#[]⟩, .bool true] else .tuple #[V3 0 0 ⟨#[]⟩, .bool false] := by
            rintro Y rfl
            unfold readV
            have e : ((⟨(showL 1 n (⟨#[]⟩ : ByteArray).data.toList).toArray⟩ : ByteArray).toList == s.toList) = true ↔ showL 1 n (⟨#[]⟩ : ByteArray).data.toList = l := by
              rw [ByteArray.toList_eq, ByteArray.toList_eq, beq_iff_eq, HL.out]
            by_cases h : showL 1 n (⟨#[]⟩ : ByteArray).data.toList = l
            · rw [if_pos ⟨hZ, h⟩, if_pos (e.2 h)]
            · rw [if_neg (fun hh => h hh.2), if_neg (fun hh => h (e.1 hh))]
          obtain ⟨X, hX⟩ : ∃ X : ByteArray, (⟨(showL 1 n (⟨#[]⟩ : ByteArray).data.toList).toArray⟩ : ByteArray) = X := ⟨_, rfl⟩
          have HR := Lib.hid (hS X hX)
          simp only [hX] at cS
          simp only [hZ] at cC
          clear hS hX hZ r2
          go_wp2_with fail
          refine (cC _).mono ?_
          rintro e w5 ⟨rfl, hb5⟩
          have hbw5 := below_to hbw2 hb5
          have r5k := fun w1 (h : Below w5.heap.size w5 w1) => (r2k _ hb5).later (w' := w1) h
          have v5 := v2k _ hb5
          have v5k := fun w1 h => v5.later (w' := w1) h
          obtain ⟨-, z0, z1, z2, i0, i1, i2⟩ := v5
          clear cC hb5 r2k v2k x0 x1 x2 j0 j1 j2
          go_wp2_with fail
          refine (cS _).mono ?_
          rintro e w6 ⟨rfl, hb6⟩
          have hbw6 := below_to hbw5 hb6
          obtain ⟨-, y0, y1, y2, f0, f1, f2⟩ := r5k _ hb6
          obtain ⟨-, x0, x1, x2, j0, j1, j2⟩ := v5k _ hb6
          clear cS hb6 r5k v5k z0 z1 z2 i0 i1 i2 hbw5
          cases hq : (X.toList == s.toList) with
          | false =>
            have HR2 := Lib.hid (HR.out.trans (if_neg (by rw [hq]; decide)))
            go_wp2
            exact bodyPost_ret (v := .tuple #[V3 0 0 ⟨#[]⟩, .bool false]) (by simp [results, Tryd.results31, go_sem, y0, y1, y2]) rfl ⟨⟨_, rfl, by rw [← HR2.out]; exact HRE.out⟩, ((hbw6.setCell (p := ⟨w.heap.size, 0, none⟩) (Nat.le_refl _) _).setCell (p := ⟨w.heap.size, 1, none⟩) (Nat.le_refl _) _).setCell (p := ⟨w.heap.size, 2, none⟩) (Nat.le_refl _) _⟩
          | true =>
            have HR2 := Lib.hid (HR.out.trans (if_pos hq))
            go_wp2
            exact bodyPost_ret (v := .tuple #[V3 1 n ⟨#[]⟩, .bool true]) (by simp [results, Tryd.results31, go_sem, y0, y1, y2]) rfl ⟨⟨_, rfl, by rw [← HR2.out]; exact HRE.out⟩, ((hbw6.setCell (p := ⟨w.heap.size, 0, none⟩) (Nat.le_refl _) _).setCell (p := ⟨w.heap.size, 1, none⟩) (Nat.le_refl _) _).setCell (p := ⟨w.heap.size, 2, none⟩) (Nat.le_refl _) _⟩
    | false =>
      have HN := Lib.hid hN
      have H1 := Lib.hid h1
      have H2 := Lib.hid h2
      have H3 := Lib.hid h3
      clear hN h1 h2 h3
      have bW := below_alloc (w.alloc (.cells #[.int .i64 0, .int .i64 0, .string ⟨#[]⟩] 23)) (.cells #[.int .i64 0, .int .i64 0, .string ⟨#[]⟩] 23)
      have hbW := below_to hb0 bW
      have r1 := r0.later bW
      have v1 := three_new (w.alloc (.cells #[.int .i64 0, .int .i64 0, .string ⟨#[]⟩] 23)) (.int .i64 0) (.int .i64 0) (.string ⟨#[]⟩) 23
      rw [hz0] at v1
      clear bW
      go_wp2_with fail
      refine (cB _).mono ?_
      rintro e w2 ⟨⟨T, b, rfl, hB⟩, hb2⟩
      cases b with
      | true =>
        have hTz : T.size ≤ l.length := hB.1
        have r2 := (r1.later hb2).other_set (q := w.heap.size + 1) (by omega) (.int .i64 3) (.int .i64 0) (.string T)
        have v2 := (v1.later hb2).set (.int .i64 3) (.int .i64 0) (.string T)
        have hbw2 := (((below_to hbW hb2).setCell (p := ⟨w.heap.size + 1, 0, none⟩) (Nat.le_succ _) (.int .i64 3)).setCell (p := ⟨w.heap.size + 1, 1, none⟩) (Nat.le_succ _) (.int .i64 0)).setCell (p := ⟨w.heap.size + 1, 2, none⟩) (Nat.le_succ _) (.string T)
        have hf := v1.later hb2
        obtain ⟨hlt9, g90, g91, g92, f90, f91, f92⟩ := hf
        clear r1 v1 hbW hb2 r0 hb0 hz0 cB cN
        have hO : Only l 3 0 T.data.toList := only_bare hB
        clear hB HN H1 H2 H3
        have hRE := readEnd_of (l := l) (K := 3) (n := 0) (u := T) hO (by decide) (by decide)
        have HRE := Lib.hid hRE
        clear hRE hO
        have cC := fun w => refCheck_any 3 0 T w
        have hVR : ¬ w.heap.size = w.heap.size + 1 := by omega
        have v2k := fun w1 h => v2.later (w' := w1) h
        have r2k := fun w1 h => r2.later (w' := w1) h
        obtain ⟨-, x0, x1, x2, j0, j1, j2⟩ := v2
        cases hZ : checkB 3 0 (T : ByteArray).data.toList with
        | false =>
          have hR : readV l 3 0 T = .tuple #[V3 0 0 ⟨#[]⟩, .bool false] := if_neg (fun h => by rw [hZ] at h; cases h.1)
          have HR := Lib.hid hR
          simp only [hZ] at cC
          clear hR hZ r2
          go_wp2_with fail
          refine (cC _).mono ?_
          rintro e w5 ⟨rfl, hb5⟩
          have hbw5 := below_to hbw2 hb5
          obtain ⟨-, y0, y1, y2, f0, f1, f2⟩ := r2k _ hb5
          clear cC hb5 r2k v2k x0 x1 x2 j0 j1 j2
          go_wp2
          exact bodyPost_ret (v := .tuple #[V3 0 0 ⟨#[]⟩, .bool false]) (by simp [results, Tryd.results31, go_sem, y0, y1, y2]) rfl ⟨⟨_, rfl, by rw [← HR.out]; exact HRE.out⟩, ((hbw5.setCell (p := ⟨w.heap.size, 0, none⟩) (Nat.le_refl _) _).setCell (p := ⟨w.heap.size, 1, none⟩) (Nat.le_refl _) _).setCell (p := ⟨w.heap.size, 2, none⟩) (Nat.le_refl _) _⟩
        | true =>
          have cS := fun w => refshow_any 3 0 T w (by decide) (by decide) hZ (checked_size hZ)
          have hS : ∀ Y : ByteArray, (⟨(showL 3 0 (T : ByteArray).data.toList).toArray⟩ : ByteArray) = Y → readV l 3 0 T = if (Y.toList == s.toList) = true then .tuple #[V3 3 0 T, .bool true] else .tuple #[V3 0 0 ⟨#[]⟩, .bool false] := by
            rintro Y rfl
            unfold readV
            have e : ((⟨(showL 3 0 (T : ByteArray).data.toList).toArray⟩ : ByteArray).toList == s.toList) = true ↔ showL 3 0 (T : ByteArray).data.toList = l := by
              rw [ByteArray.toList_eq, ByteArray.toList_eq, beq_iff_eq, HL.out]
            by_cases h : showL 3 0 (T : ByteArray).data.toList = l
            · rw [if_pos ⟨hZ, h⟩, if_pos (e.2 h)]
            · rw [if_neg (fun hh => h hh.2), if_neg (fun hh => h (e.1 hh))]
          obtain ⟨X, hX⟩ : ∃ X : ByteArray, (⟨(showL 3 0 (T : ByteArray).data.toList).toArray⟩ : ByteArray) = X := ⟨_, rfl⟩
          have HR := Lib.hid (hS X hX)
          simp only [hX] at cS
          simp only [hZ] at cC
          clear hS hX hZ r2
          go_wp2_with fail
          refine (cC _).mono ?_
          rintro e w5 ⟨rfl, hb5⟩
          have hbw5 := below_to hbw2 hb5
          have r5k := fun w1 (h : Below w5.heap.size w5 w1) => (r2k _ hb5).later (w' := w1) h
          have v5 := v2k _ hb5
          have v5k := fun w1 h => v5.later (w' := w1) h
          obtain ⟨-, z0, z1, z2, i0, i1, i2⟩ := v5
          clear cC hb5 r2k v2k x0 x1 x2 j0 j1 j2
          go_wp2_with fail
          refine (cS _).mono ?_
          rintro e w6 ⟨rfl, hb6⟩
          have hbw6 := below_to hbw5 hb6
          obtain ⟨-, y0, y1, y2, f0, f1, f2⟩ := r5k _ hb6
          obtain ⟨-, x0, x1, x2, j0, j1, j2⟩ := v5k _ hb6
          clear cS hb6 r5k v5k z0 z1 z2 i0 i1 i2 hbw5
          cases hq : (X.toList == s.toList) with
          | false =>
            have HR2 := Lib.hid (HR.out.trans (if_neg (by rw [hq]; decide)))
            go_wp2
            exact bodyPost_ret (v := .tuple #[V3 0 0 ⟨#[]⟩, .bool false]) (by simp [results, Tryd.results31, go_sem, y0, y1, y2]) rfl ⟨⟨_, rfl, by rw [← HR2.out]; exact HRE.out⟩, ((hbw6.setCell (p := ⟨w.heap.size, 0, none⟩) (Nat.le_refl _) _).setCell (p := ⟨w.heap.size, 1, none⟩) (Nat.le_refl _) _).setCell (p := ⟨w.heap.size, 2, none⟩) (Nat.le_refl _) _⟩
          | true =>
            have HR2 := Lib.hid (HR.out.trans (if_pos hq))
            go_wp2
            exact bodyPost_ret (v := .tuple #[V3 3 0 T, .bool true]) (by simp [results, Tryd.results31, go_sem, y0, y1, y2]) rfl ⟨⟨_, rfl, by rw [← HR2.out]; exact HRE.out⟩, ((hbw6.setCell (p := ⟨w.heap.size, 0, none⟩) (Nat.le_refl _) _).setCell (p := ⟨w.heap.size, 1, none⟩) (Nat.le_refl _) _).setCell (p := ⟨w.heap.size, 2, none⟩) (Nat.le_refl _) _⟩
      | false =>
        have hno := none_shown (n := n) (T := T) H1.out H2.out H3.out H4.out HN.out hB
        have r2 := r1.later hb2
        have v2 := v1.later hb2
        have hbw2 := below_to hbW hb2
        clear r1 v1 hbW hb2 r0 hb0 hz0 cB cN
        clear hB HN H1 H2 H3
        have HNO := Lib.hid hno
        clear hno
        obtain ⟨-, y0, y1, y2, f0, f1, f2⟩ := r2
        go_wp2
        exact bodyPost_ret (v := .tuple #[V3 0 0 ⟨#[]⟩, .bool false]) (by simp [results, Tryd.results31, go_sem, y0, y1, y2]) rfl ⟨⟨_, rfl, .inr ⟨HNO.out, rfl⟩⟩, ((hbw2.setCell (p := ⟨w.heap.size, 0, none⟩) (Nat.le_refl _) _).setCell (p := ⟨w.heap.size, 1, none⟩) (Nat.le_refl _) _).setCell (p := ⟨w.heap.size, 2, none⟩) (Nat.le_refl _) _⟩
end Go.Proofs.YtfcigknalnmhcaaDoor
