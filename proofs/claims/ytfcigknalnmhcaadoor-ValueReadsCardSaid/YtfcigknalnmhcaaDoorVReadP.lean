/- The contract of value.Read, by what the text looks like. -/
import Derived.Test.YtfcigknalnmhcaaDoorVMeant
import Derived.Test.YtfcigknalnmhcaaDoorVEq
import Derived.Lib.ItoaLen
namespace Go.Proofs.YtfcigknalnmhcaaDoor
open Go.RowKit Go.Lib

/-- What Read makes of what a text looks like. -/
def readV (l : List UInt8) (K n : Int) (u : ByteArray) : Value := if checkB K n u.data.toList = true ∧ showL K n u.data.toList = l then .tuple #[V3 K n u, .bool true] else .tuple #[V3 0 0 ⟨#[]⟩, .bool false]
theorem read_by (t : ByteArray) (w : World) (Mn : Int → Int → ByteArray → Prop) (hM : ∀ K n u, Mn K n u → u.size ≤ 1099511627776 ∧ -9223372036854775808 ≤ n ∧ n ≤ 9223372036854775807) (hE : Env w)
    (cM : ∀ w', Below w.heap.size w w' → Calls Tryd.prog 57 #[.string t] w' fun e w2 => (∃ K n u, e = .returned (V3 K n u) ∧ Mn K n u) ∧ Below w'.heap.size w' w2) :
    Calls Tryd.prog 29 #[.string t] w fun e w' => (∃ K n u, Mn K n u ∧ e = .returned (readV t.data.toList K n u)) ∧ Below w.heap.size w w' := by
  have hb0 := below_alloc w (.cells #[.int .i64 0, .int .i64 0, .string ⟨#[]⟩] 23)
  have r0 := three_new w (.int .i64 0) (.int .i64 0) (.string ⟨#[]⟩) 23
  have hE0 := hE.later hb0
  have c1 := cM _ hb0
  clear cM
  go_enter Tryd.func29, Tryd.ntmps29
  go_wp2_with fail
  refine c1.mono ?_
  rintro e w1 ⟨⟨K, n, u, rfl, hMn⟩, hb1⟩
  obtain ⟨hu, n0, n1⟩ := hM K n u hMn
  have hbw1 := below_to hb0 hb1
  have hE1 := hE0.later hb1
  have r1 := r0.later hb1
  clear r0 hE0 hb1 hb0 c1
  have hb2 := below_alloc w1 (.cells #[.int .i64 K, .int .i64 n, .string u] 23)
  have v2 := three_new w1 (.int .i64 K) (.int .i64 n) (.string u) 23
  have r2 := r1.later hb2
  have hbw2 := below_to hbw1 hb2
  have hE2 := hE1.later hb2
  have cC := check_any K n u _ (by omega) hE2.tabs
  have hVR : ¬ w.heap.size = w1.heap.size := by have := r1.lt; omega
  clear r1 hbw1 hb2 hE1
  obtain ⟨Z, hZ⟩ : ∃ Z, checkB K n u.data.toList = Z := ⟨_, rfl⟩
  rw [hZ] at cC
  cases Z with
  | false =>
    have hR : readV t.data.toList K n u = .tuple #[V3 0 0 ⟨#[]⟩, .bool false] := if_neg (fun h => by rw [hZ] at h; cases h.1)
    have HR := Lib.hid hR
    clear hR hZ
    go_wp2_with fail
    refine cC.mono ?_
    rintro e w3 ⟨rfl, hb3⟩
    have hbw3 := below_to hbw2 hb3
    obtain ⟨-, y0, y1, y2, f0, f1, f2⟩ := r2.later hb3
    clear r2 v2 cC hb3 hE2
    go_wp2
    exact bodyPost_ret (v := .tuple #[V3 0 0 ⟨#[]⟩, .bool false]) (by simp [results, Tryd.results29, go_sem, y0, y1, y2]) rfl ⟨⟨K, n, u, hMn, congrArg Ending.returned HR.out.symm⟩, ((hbw3.setCell (p := ⟨w.heap.size, 0, none⟩) (Nat.le_refl _) _).setCell (p := ⟨w.heap.size, 1, none⟩) (Nat.le_refl _) _).setCell (p := ⟨w.heap.size, 2, none⟩) (Nat.le_refl _) _⟩
  | true =>
    have hS : ∀ T : ByteArray, (⟨(showL K n u.data.toList).toArray⟩ : ByteArray) = T → readV t.data.toList K n u = if (T.toList == t.toList) = true then .tuple #[V3 K n u, .bool true] else .tuple #[V3 0 0 ⟨#[]⟩, .bool false] := by
      rintro T rfl
      unfold readV
      have e : ((⟨(showL K n u.data.toList).toArray⟩ : ByteArray).toList == t.toList) = true ↔ showL K n u.data.toList = t.data.toList := by
        rw [ByteArray.toList_eq, ByteArray.toList_eq, beq_iff_eq]
      by_cases h : showL K n u.data.toList = t.data.toList
      · rw [if_pos ⟨hZ, h⟩, if_pos (e.2 h)]
      · rw [if_neg (fun hh => h hh.2), if_neg (fun hh => h (e.1 hh))]
    have cS := fun w1 h => show_any K n u w1 n0 n1 hu h
    obtain ⟨T, hT⟩ : ∃ T : ByteArray, (⟨(showL K n u.data.toList).toArray⟩ : ByteArray) = T := ⟨_, rfl⟩
    have HR := Lib.hid (hS T hT)
    simp only [hT] at cS
    clear hS hT hZ
    go_wp2_with fail
    refine cC.mono ?_
    rintro e w3 ⟨rfl, hb3⟩
    have hbw3 := below_to hbw2 hb3
    have hE3 := hE2.later hb3
    have r3 := r2.later hb3
    have v3 := v2.later hb3
    have v3k := v3
    obtain ⟨-, z0, z1, z2, i0, i1, i2⟩ := v3
    clear r2 v2 cC hb3 hE2 hbw2
    go_wp2_with fail
    refine (cS _ hE3).mono ?_
    rintro e w4 ⟨rfl, hb4⟩
    have hbw4 := below_to hbw3 hb4
    obtain ⟨-, y0, y1, y2, f0, f1, f2⟩ := r3.later hb4
    obtain ⟨-, x0, x1, x2, j0, j1, j2⟩ := v3k.later hb4
    clear r3 v3k z0 z1 z2 i0 i1 i2 cS hE3 hb4 hbw3
    cases hq : (T.toList == t.toList) with
    | false =>
      have HR2 := Lib.hid (HR.out.trans (if_neg (by rw [hq]; decide)))
      go_wp2
      exact bodyPost_ret (v := .tuple #[V3 0 0 ⟨#[]⟩, .bool false]) (by simp [results, Tryd.results29, go_sem, y0, y1, y2]) rfl ⟨⟨K, n, u, hMn, congrArg Ending.returned HR2.out.symm⟩, ((hbw4.setCell (p := ⟨w.heap.size, 0, none⟩) (Nat.le_refl _) _).setCell (p := ⟨w.heap.size, 1, none⟩) (Nat.le_refl _) _).setCell (p := ⟨w.heap.size, 2, none⟩) (Nat.le_refl _) _⟩
    | true =>
      have HR2 := Lib.hid (HR.out.trans (if_pos hq))
      go_wp2
      exact bodyPost_ret (v := .tuple #[V3 K n u, .bool true]) (by simp [results, Tryd.results29, go_sem, y0, y1, y2]) rfl ⟨⟨K, n, u, hMn, congrArg Ending.returned HR2.out.symm⟩, ((hbw4.setCell (p := ⟨w.heap.size, 0, none⟩) (Nat.le_refl _) _).setCell (p := ⟨w.heap.size, 1, none⟩) (Nat.le_refl _) _).setCell (p := ⟨w.heap.size, 2, none⟩) (Nat.le_refl _) _⟩
/-- A number's own digits are read as that number; with a digit too many ahead of them they are none. -/
theorem pre_itoa (n : Int) (p : UInt8) (hp : p = 34 ∨ p = 35) : hasPrefix (itoa n) [p] = false := by
  obtain ⟨c, r, hc, h⟩ := itoa_head n
  rw [hc]
  have : c ≠ p := by
    rintro rfl
    rcases hp with rfl | rfl
    · rcases h with ⟨h, -⟩ | ⟨h, -, -⟩ <;> revert h <;> decide
    · rcases h with ⟨h, -⟩ | ⟨h, -, -⟩ <;> revert h <;> decide
  simp [hasPrefix, List.isPrefixOf, Ne.symm this]
theorem not_word (n : Int) (l : List UInt8) (h : l = [45] ∨ l = [116, 114, 117, 101] ∨ l = [102, 97, 108, 115, 101]) : itoa n ≠ l := by
  obtain ⟨c, r, hc, hh⟩ := itoa_head n
  rw [hc]
  rcases h with rfl | rfl | rfl
  · intro e
    simp only [List.cons.injEq] at e
    rcases hh with ⟨_, _, h⟩ | ⟨h, _, _⟩
    · exact h e.2
    · rw [e.1] at h; exact absurd h (by decide)
  · intro e
    simp only [List.cons.injEq] at e
    rcases hh with ⟨h, _⟩ | ⟨_, h, _⟩ <;> (rw [e.1] at h; exact absurd h (by decide))
  · intro e
    simp only [List.cons.injEq] at e
    rcases hh with ⟨h, _⟩ | ⟨_, h, _⟩ <;> (rw [e.1] at h; exact absurd h (by decide))
theorem read_number (n : Int) (n0 : -9223372036854775808 ≤ n) (n1 : n ≤ 9223372036854775807) (w : World) (hE : Env7 w) :
    Calls Tryd.prog 29 #[.string ⟨(itoa n).toArray⟩] w fun e w' => e = .returned (.tuple #[V3 1 n ⟨#[]⟩, .bool true]) ∧ Below w.heap.size w w' := by
  have hz : (⟨(itoa n).toArray⟩ : ByteArray).size ≤ 1099511627776 := by
    have := itoa_length_le n n0 n1
    show (itoa n).toArray.size ≤ _
    rw [List.size_toArray]; omega
  have hd : (⟨(itoa n).toArray⟩ : ByteArray).data.toList = itoa n := by simp
  refine (read_by _ w (fun K m u => K = 1 ∧ u = ⟨#[]⟩ ∧ m = n) ?_ hE.env ?_).mono ?_
  · rintro K m u ⟨-, rfl, rfl⟩
    exact ⟨by decide, n0, n1⟩
  · intro w' hb
    refine (meant_num _ w' hz (hE.errs.later hb) ?_ ?_ ?_ ?_ ?_).mono ?_
    · rw [hd]; exact not_word n _ (.inl rfl)
    · rw [hd]; exact not_word n _ (.inr (.inl rfl))
    · rw [hd]; exact not_word n _ (.inr (.inr rfl))
    · rw [hd]; exact pre_itoa n _ (.inl rfl)
    · rw [hd]; exact pre_itoa n _ (.inr rfl)
    · rintro e w2 ⟨⟨m, rfl, -, -, hm⟩, hb2⟩
      exact ⟨⟨1, m, _, rfl, rfl, rfl, hm n n0 n1 hd⟩, hb2⟩
  · rintro e w' ⟨⟨K, m, u, ⟨rfl, rfl, rfl⟩, rfl⟩, hb⟩
    refine ⟨congrArg Ending.returned (if_pos ⟨rfl, ?_⟩), hb⟩
    rw [hd]; rfl
theorem read_long (n : Int) (n0 : -9223372036854775808 ≤ n) (n1 : n ≤ 9223372036854775807) (w : World) (hE : Env7 w) :
    Calls Tryd.prog 29 #[.string ⟨(48 :: itoa n).toArray⟩] w fun e w' => e = .returned (.tuple #[V3 0 0 ⟨#[]⟩, .bool false]) ∧ Below w.heap.size w w' := by
  have hz : (⟨(48 :: itoa n).toArray⟩ : ByteArray).size ≤ 1099511627776 := by
    have := itoa_length_le n n0 n1
    show (48 :: itoa n).toArray.size ≤ _
    rw [List.size_toArray, List.length_cons]; omega
  have hd : (⟨(48 :: itoa n).toArray⟩ : ByteArray).data.toList = 48 :: itoa n := by simp
  refine (read_by _ w (fun K m u => K = 1 ∧ u = ⟨#[]⟩ ∧ -9223372036854775808 ≤ m ∧ m ≤ 9223372036854775807) ?_ hE.env ?_).mono ?_
  · rintro K m u ⟨-, rfl, h⟩
    exact ⟨by decide, h⟩
  · intro w' hb
    refine (meant_num _ w' hz (hE.errs.later hb) ?_ ?_ ?_ ?_ ?_).mono ?_
    · rw [hd]; intro e; injection e with e; exact absurd e (by decide)
    · rw [hd]; intro e; injection e with e; exact absurd e (by decide)
    · rw [hd]; intro e; injection e with e; exact absurd e (by decide)
    · rw [hd]; rfl
    · rw [hd]; rfl
    · rintro e w2 ⟨⟨m, rfl, h1, h2, -⟩, hb2⟩
      exact ⟨⟨1, m, _, rfl, rfl, rfl, h1, h2⟩, hb2⟩
  · rintro e w' ⟨⟨K, m, u, ⟨rfl, rfl, h1, h2⟩, rfl⟩, hb⟩
    refine ⟨congrArg Ending.returned (if_neg ?_), hb⟩
    rintro ⟨-, h⟩
    rw [hd, show showL 1 m (⟨#[]⟩ : ByteArray).data.toList = itoa m from rfl] at h
    unfold itoa at h
    by_cases hm : m < 0
    · rw [if_pos hm] at h; injection h with h; exact absurd h (by decide)
    · rw [if_neg hm] at h
      have := decDigits_zero _ _ h
      rw [this] at h
      have h2 : itoa n = [] := by
        have h3 : decDigits 0 = [48] := by decide +kernel
        rw [h3] at h; injection h with _ h; exact h.symm
      obtain ⟨c, r, hc, -⟩ := itoa_head n
      rw [hc] at h2; cases h2
end Go.Proofs.YtfcigknalnmhcaaDoor
