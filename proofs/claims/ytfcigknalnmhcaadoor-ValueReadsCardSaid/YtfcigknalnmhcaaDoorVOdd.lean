/- The contracts of the laws' own odd and plain: boxes by a number, and the values that they are. -/
import Derived.Test.YtfcigknalnmhcaaDoorVEq
import Derived.Test.YtfcigknalnmhcaaDoorVRefCheck
import Derived.Test.YtfcigknalnmhcaaDoorBytes
namespace Go.Proofs.YtfcigknalnmhcaaDoor
open Go.RowKit

/-- How many kinds of boxes there are is eleven; the j-th of them. -/
inductive Odd (n : Int) (s : ByteArray) : Nat → Value → Prop where
  | nil : Odd n s 0 .nilIface
  | num : Odd n s 1 (.iface 2 (.int .i64 n))
  | truth : Odd n s 2 (.iface 4 (.bool (n.tmod 2 == 0)))
  | text : Odd n s 3 (.iface 9 (.string s))
  | bad : Odd n s 4 (.iface 23 (V3 4 n ⟨#[]⟩))
  | int : Odd n s 5 (.iface 23 (V3 1 n ⟨#[]⟩))
  | other (j : Nat) (u : TypeId) (v : Value) (hj : 6 ≤ j) (h1 : u ≠ 2) (h2 : u ≠ 4) (h3 : u ≠ 9) (h4 : u ≠ 23) : Odd n s j (.iface u v)
theorem Odd.iface {n : Int} {s : ByteArray} {j : Nat} {x : Value} (h : Odd n s j x) : x = .nilIface ∨ ∃ u v, x = .iface u v := by
  cases h <;> first | exact .inl rfl | exact .inr ⟨_, _, rfl⟩

set_option maxHeartbeats 2000000 in
set_option maxRecDepth 100000 in
theorem odd_any (k n : Int) (s : ByteArray) (w : World) (h0 : -9223372036854775808 ≤ k) (h1 : k ≤ 9223372036854775807) :
    Calls Tryd.prog 21 #[.int .i64 k, .int .i64 n, .string s] w fun e w' => (∃ x, e = .returned x ∧ Odd n s (placeZ k 11).toNat x) ∧ Below w.heap.size w w' := by
  have cP := place_any k 11 w h0 h1 (by decide) (by decide)
  have hlo := placeZ_lo k 11 (by decide)
  generalize placeZ k 11 = j at cP hlo ⊢
  obtain ⟨j, rfl⟩ := Int.eq_ofNat_of_zero_le hlo
  rw [Int.toNat_natCast]
  obtain ⟨cap, o, hcv⟩ : ∃ cap o, (convert 9 48 (.string s)).run Tryd.prog w = .ok (.slice (some ⟨w.heap.size, 0, none⟩) s.size cap) (w.alloc o).drew := ⟨_, _, run_bytes_of_string (P := Tryd.prog) w 9 48 5 s Tryd.underlying9 Tryd.underlying48 Tryd.underlying5⟩
  go_enter Tryd.func21, Tryd.ntmps21
  go_wp2_with fail
  refine cP.mono ?_
  rintro e w1 ⟨rfl, rfl⟩
  clear cP
  go_wp2_with fail
  all_goals simp only [beq_iff_eq, beq_eq_false_iff_ne, ne_eq] at *
  all_goals go_ret
  · obtain rfl : j = 0 := by omega
    exact ⟨⟨_, rfl, Odd.nil⟩, Below.refl _ _⟩
  · obtain rfl : j = 1 := by omega
    exact ⟨⟨_, rfl, Odd.num⟩, Below.refl _ _⟩
  · obtain rfl : j = 2 := by omega
    exact ⟨⟨_, rfl, Odd.truth⟩, Below.refl _ _⟩
  · obtain rfl : j = 3 := by omega
    exact ⟨⟨_, rfl, Odd.text⟩, Below.refl _ _⟩
  · obtain rfl : j = 4 := by omega
    exact ⟨⟨_, rfl, Odd.bad⟩, Below.refl _ _⟩
  · obtain rfl : j = 5 := by omega
    exact ⟨⟨_, rfl, Odd.int⟩, Below.refl _ _⟩
  · exact ⟨⟨_, rfl, Odd.other j _ _ (by omega) (by decide) (by decide) (by decide) (by decide)⟩, Below.refl _ _⟩
  · exact ⟨⟨_, rfl, Odd.other j _ _ (by omega) (by decide) (by decide) (by decide) (by decide)⟩, below_alloc _ _⟩
  · exact ⟨⟨_, rfl, Odd.other j _ _ (by omega) (by decide) (by decide) (by decide) (by decide)⟩, (below_alloc _ _).drew⟩
  · exact ⟨⟨_, rfl, Odd.other j _ _ (by omega) (by decide) (by decide) (by decide) (by decide)⟩, Below.refl _ _⟩
  · exact ⟨⟨_, rfl, Odd.other j _ _ (by omega) (by decide) (by decide) (by decide) (by decide)⟩, Below.refl _ _⟩

/-- What the j-th box is as a value. -/
inductive Plain (n : Int) (s : ByteArray) : Nat → Int → Int → ByteArray → Bool → Prop where
  | nil : Plain n s 0 0 0 ⟨#[]⟩ true
  | num : Plain n s 1 1 n ⟨#[]⟩ true
  | truth : Plain n s 2 2 (b01 (n.tmod 2 == 0)) ⟨#[]⟩ true
  | text (h : checkB 3 0 s.data.toList = true) : Plain n s 3 3 0 s true
  | notext (h : checkB 3 0 s.data.toList = false) : Plain n s 3 0 0 ⟨#[]⟩ false
  | bad (h : checkB 4 n [] = true) : Plain n s 4 4 n ⟨#[]⟩ true
  | nobad (h : checkB 4 n [] = false) : Plain n s 4 0 0 ⟨#[]⟩ false
  | other (j : Nat) (hj : 5 ≤ j) : Plain n s j 0 0 ⟨#[]⟩ false
theorem odd_plain {n : Int} {s : ByteArray} {j : Nat} {x : Value} {K m : Int} {t : ByteArray} {b : Bool} (h : Odd n s j x) (g : Plain n s j K m t b) (hs : s.size ≤ 5000) :
    (b = true ∧ Is x K m t) ∨ (b = false ∧ IsNot x ∧ K = 0 ∧ m = 0 ∧ t = ⟨#[]⟩) := by
  cases g with
  | nil => cases h with
    | nil => exact .inl ⟨rfl, Opens.nil, by decide, by decide⟩
    | other _ _ _ hj => omega
  | num => cases h with
    | num => exact .inl ⟨rfl, Opens.num n, by simp [checkB], by decide⟩
    | other _ _ _ hj => omega
  | truth => cases h with
    | truth =>
      refine .inl ⟨rfl, Opens.truth _, ?_, by decide⟩
      cases (n.tmod 2 == 0) <;> decide
    | other _ _ _ hj => omega
  | text hc => cases h with
    | text => exact .inl ⟨rfl, Opens.text s, hc, by omega⟩
    | other _ _ _ hj => omega
  | notext hc => cases h with
    | text => exact .inr ⟨rfl, ⟨3, 0, s, true, Opens.text s, by omega, .inr hc⟩, rfl, rfl, rfl⟩
    | other _ _ _ hj => omega
  | bad hc => cases h with
    | bad => exact .inl ⟨rfl, Opens.val 4 n ⟨#[]⟩, hc, by decide⟩
    | other _ _ _ hj => omega
  | nobad hc => cases h with
    | bad => exact .inr ⟨rfl, ⟨4, n, ⟨#[]⟩, true, Opens.val 4 n ⟨#[]⟩, by decide, .inr hc⟩, rfl, rfl, rfl⟩
    | other _ _ _ hj => omega
  | other hj => cases h with
    | nil => omega
    | num => omega
    | truth => omega
    | text => omega
    | bad => omega
    | int => exact .inr ⟨rfl, ⟨1, n, ⟨#[]⟩, false, Opens.val 1 n ⟨#[]⟩, by decide, .inl rfl⟩, rfl, rfl, rfl⟩
    | other _ u v _ h1 h2 h3 h4 => exact .inr ⟨rfl, ⟨0, 0, ⟨#[]⟩, false, Opens.other u v h1 h2 h3 h4, by decide, .inl rfl⟩, rfl, rfl, rfl⟩

set_option maxHeartbeats 2000000 in
set_option maxRecDepth 100000 in
theorem plain_any (k n : Int) (s : ByteArray) (w : World) (h0 : -9223372036854775808 ≤ k) (h1 : k ≤ 9223372036854775807) :
    Calls Tryd.prog 22 #[.int .i64 k, .int .i64 n, .string s] w fun e w' => (∃ K m t b, e = .returned (.tuple #[V3 K m t, .bool b]) ∧ Plain n s (placeZ k 11).toNat K m t b) ∧ Below w.heap.size w w' := by
  have cP := fun w => place_any k 11 w h0 h1 (by decide) (by decide)
  have hlo := placeZ_lo k 11 (by decide)
  generalize placeZ k 11 = j at cP hlo ⊢
  obtain ⟨j, rfl⟩ := Int.eq_ofNat_of_zero_le hlo
  rw [Int.toNat_natCast]
  go_enter Tryd.func22, Tryd.ntmps22
  go_wp2_with fail
  refine (cP _).mono ?_
  rintro e w1 ⟨rfl, rfl⟩
  clear cP
  go_wp2_with fail
  all_goals simp only [beq_iff_eq, beq_eq_false_iff_ne, ne_eq] at *
  · obtain rfl : j = 0 := by omega
    exact bodyPost_ret (v := .tuple #[V3 0 0 ⟨#[]⟩, .bool true]) (by simp [results, Tryd.results22, go_sem]) rfl ⟨⟨_, _, _, _, rfl, Plain.nil⟩, (below_alloc _ _).alloc (by simp) _⟩
  · obtain rfl : j = 1 := by omega
    exact bodyPost_ret (v := .tuple #[V3 1 n ⟨#[]⟩, .bool true]) (by simp [results, Tryd.results22, go_sem]) rfl ⟨⟨_, _, _, _, rfl, Plain.num⟩, (below_alloc _ _).alloc (by simp) _⟩
  · obtain rfl : j = 2 := by omega
    have hz : n.tmod 2 = 0 := by assumption
    have hp : Plain n s 2 2 1 ⟨#[]⟩ true := by
      have := Plain.truth (n := n) (s := s)
      rw [hz] at this; exact this
    exact bodyPost_ret (v := .tuple #[V3 2 1 ⟨#[]⟩, .bool true]) (by simp [results, Tryd.results22, go_sem]) rfl ⟨⟨_, _, _, _, rfl, hp⟩, (below_alloc _ _).alloc (by simp) _⟩
  · obtain rfl : j = 2 := by omega
    have hz : ¬ n.tmod 2 = 0 := by assumption
    have hp : Plain n s 2 2 0 ⟨#[]⟩ true := by
      have := Plain.truth (n := n) (s := s)
      rw [beq_eq_false_iff_ne.2 hz] at this; exact this
    exact bodyPost_ret (v := .tuple #[V3 2 0 ⟨#[]⟩, .bool true]) (by simp [results, Tryd.results22, go_sem]) rfl ⟨⟨_, _, _, _, rfl, hp⟩, (below_alloc _ _).alloc (by simp) _⟩
  · obtain rfl : j = 3 := by omega
    have hb0 : Below w.heap.size w ((w.alloc (.cells #[.int .i64 0, .int .i64 0, .string ⟨#[]⟩] 23)).alloc (.cells #[.int .i64 3, .int .i64 0, .string s] 23)) := (below_alloc w _).alloc (by simp) _
    have t6 := (three_new w (.int .i64 0) (.int .i64 0) (.string ⟨#[]⟩) 23).alloc (.cells #[.int .i64 3, .int .i64 0, .string s] 23)
    have t8 := three_new (w.alloc (.cells #[.int .i64 0, .int .i64 0, .string ⟨#[]⟩] 23)) (.int .i64 3) (.int .i64 0) (.string s) 23
    rw [alloc_size] at t8
    have cR := fun w1 => refCheck_any 3 0 s w1
    have hne : ¬ w.heap.size + 1 = w.heap.size := by omega
    have hne2 : ¬ w.heap.size = w.heap.size + 1 := by omega
    cases hck : checkB 3 0 s.data.toList
    all_goals
      simp only [hck] at cR
      have HCK := Lib.hid hck
      clear hck
      refine (cR _).mono ?_
      rintro e w2 ⟨rfl, hy⟩
      have hb2 := below_to hb0 hy
      obtain ⟨z6, e0, e1, e2, g0, g1, g2⟩ := t6.later hy
      obtain ⟨z8, d0, d1, d2, i0, i1, i2⟩ := t8.later hy
      clear t6 t8 hy hb0 cR
      go_wp2
    · exact bodyPost_ret (v := .tuple #[V3 0 0 ⟨#[]⟩, .bool false]) (by simp [results, Tryd.results22, go_sem, e0, e1, e2]) rfl ⟨⟨_, _, _, _, rfl, Plain.notext HCK.out⟩, ((hb2.setCell (p := ⟨w.heap.size, 0, none⟩) (Nat.le_refl _) _).setCell (p := ⟨w.heap.size, 1, none⟩) (Nat.le_refl _) _).setCell (p := ⟨w.heap.size, 2, none⟩) (Nat.le_refl _) _⟩
    · exact bodyPost_ret (v := .tuple #[V3 3 0 s, .bool true]) (by simp [results, Tryd.results22, go_sem, e0, e1, e2]) rfl ⟨⟨_, _, _, _, rfl, Plain.text HCK.out⟩, ((hb2.setCell (p := ⟨w.heap.size, 0, none⟩) (Nat.le_refl _) _).setCell (p := ⟨w.heap.size, 1, none⟩) (Nat.le_refl _) _).setCell (p := ⟨w.heap.size, 2, none⟩) (Nat.le_refl _) _⟩
  · obtain rfl : j = 4 := by omega
    have hb0 : Below w.heap.size w ((w.alloc (.cells #[.int .i64 0, .int .i64 0, .string ⟨#[]⟩] 23)).alloc (.cells #[.int .i64 4, .int .i64 n, .string (⟨#[]⟩ : ByteArray)] 23)) := (below_alloc w _).alloc (by simp) _
    have t6 := (three_new w (.int .i64 0) (.int .i64 0) (.string ⟨#[]⟩) 23).alloc (.cells #[.int .i64 4, .int .i64 n, .string (⟨#[]⟩ : ByteArray)] 23)
    have t8 := three_new (w.alloc (.cells #[.int .i64 0, .int .i64 0, .string ⟨#[]⟩] 23)) (.int .i64 4) (.int .i64 n) (.string (⟨#[]⟩ : ByteArray)) 23
    rw [alloc_size] at t8
    have cR := fun w1 => refCheck_any 4 n (⟨#[]⟩ : ByteArray) w1
    have hne : ¬ w.heap.size + 1 = w.heap.size := by omega
    have hne2 : ¬ w.heap.size = w.heap.size + 1 := by omega
    cases hck : checkB 4 n []
    all_goals
      simp only [hck] at cR
      have HCK := Lib.hid hck
      clear hck
      refine (cR _).mono ?_
      rintro e w2 ⟨rfl, hy⟩
      have hb2 := below_to hb0 hy
      obtain ⟨z6, e0, e1, e2, g0, g1, g2⟩ := t6.later hy
      obtain ⟨z8, d0, d1, d2, i0, i1, i2⟩ := t8.later hy
      clear t6 t8 hy hb0 cR
      go_wp2
    · exact bodyPost_ret (v := .tuple #[V3 0 0 ⟨#[]⟩, .bool false]) (by simp [results, Tryd.results22, go_sem, e0, e1, e2]) rfl ⟨⟨_, _, _, _, rfl, Plain.nobad HCK.out⟩, ((hb2.setCell (p := ⟨w.heap.size, 0, none⟩) (Nat.le_refl _) _).setCell (p := ⟨w.heap.size, 1, none⟩) (Nat.le_refl _) _).setCell (p := ⟨w.heap.size, 2, none⟩) (Nat.le_refl _) _⟩
    · exact bodyPost_ret (v := .tuple #[V3 4 n (⟨#[]⟩ : ByteArray), .bool true]) (by simp [results, Tryd.results22, go_sem, e0, e1, e2]) rfl ⟨⟨_, _, _, _, rfl, Plain.bad HCK.out⟩, ((hb2.setCell (p := ⟨w.heap.size, 0, none⟩) (Nat.le_refl _) _).setCell (p := ⟨w.heap.size, 1, none⟩) (Nat.le_refl _) _).setCell (p := ⟨w.heap.size, 2, none⟩) (Nat.le_refl _) _⟩
  · exact bodyPost_ret (v := .tuple #[V3 0 0 ⟨#[]⟩, .bool false]) (by simp [results, Tryd.results22, go_sem]) rfl ⟨⟨_, _, _, _, rfl, Plain.other j (by omega)⟩, (below_alloc _ _).alloc (by simp) _⟩
end Go.Proofs.YtfcigknalnmhcaaDoor
