/- eval's names: slices.Index over texts, known.name. -/
import Derived.Test.YtaaibciacipelaaGreatDoorMEvQ
import Derived.Test.YtaaibciacipelaaGreatDoorGB
import Derived.Test.YtaaibciacipelaaGreatDoorGI
import Derived.Deep.LoopGhost
import Derived.WalkMore
namespace Go.Proofs.YtaaibciacipelaaGreatDoor
open Go.RowKit

/-- Where a name stands first, or -1. -/
def IxAt (N : List ByteArray) (s : ByteArray) (i : Int) : Prop := (i = -1 ∧ ∀ j : Nat, N[j]? ≠ some s) ∨ ∃ k : Nat, i = (k : Int) ∧ N[k]? = some s ∧ ∀ j : Nat, j < k → N[j]? ≠ some s
theorem nameV_none {N : List ByteArray} {V : List Va} {s : ByteArray} (h : ∀ j : Nat, N[j]? ≠ some s) : nameV N V s = blankV := by
  induction N generalizing V with
  | nil => rfl
  | cons n N ih =>
    cases V with
    | nil => rfl
    | cons v V =>
      rw [nameV, if_neg (by intro e; exact h 0 (by simp [e]))]
      exact ih (fun j => by have := h (j + 1); simpa using this)
theorem nameV_at {N : List ByteArray} {V : List Va} {s : ByteArray} {k : Nat} {v : Va} (hk : N[k]? = some s) (hf : ∀ j : Nat, j < k → N[j]? ≠ some s) (hv : V[k]? = some v) : nameV N V s = if checkB v.k v.n v.s then v else blankV := by
  induction k generalizing N V with
  | zero =>
    cases N with
    | nil => simp at hk
    | cons n N =>
      cases V with
      | nil => simp at hv
      | cons u V =>
        simp at hk hv
        subst hk; subst hv
        rw [nameV, if_pos rfl]
  | succ k ih =>
    cases N with
    | nil => simp at hk
    | cons n N =>
      cases V with
      | nil => simp at hv
      | cons u V =>
        simp at hk hv
        rw [nameV, if_neg (by intro e; exact hf 0 (by omega) (by simp [e]))]
        exact ih hk (fun j hj => by have := hf (j + 1) (by omega); simpa using this) hv
theorem nameV_short {N : List ByteArray} {V : List Va} {s : ByteArray} {k : Nat} (hf : ∀ j : Nat, j < k → N[j]? ≠ some s) (hv : V.length ≤ k) : nameV N V s = blankV := by
  induction k generalizing N V with
  | zero =>
    have : V = [] := List.length_eq_zero_iff.1 (by omega)
    subst this
    cases N <;> rfl
  | succ k ih =>
    cases N with
    | nil => rfl
    | cons n N =>
      cases V with
      | nil => rfl
      | cons u V =>
        simp at hv
        rw [nameV, if_neg (by intro e; exact hf 0 (by omega) (by simp [e]))]
        exact ih (fun j hj => by have := hf (j + 1) (by omega); simpa using this) hv
set_option maxHeartbeats 2000000 in
set_option maxRecDepth 100000 in
theorem index_any (N : List ByteArray) (A : Option Addr) (cA : Nat) (s : ByteArray) (w : World) (hN : Ts w A N) (lN : N.length ≤ 4611686018427387904) :
    Calls Tryz.prog 90 #[.slice A N.length cA, .string s] w fun e w' => (∃ i, e = .returned (.int .i64 i) ∧ IxAt N s i) ∧ Below w.heap.size w w' := by
  have HN := Lib.hid hN
  clear hN
  go_enter Tryz.func90, Tryz.ntmps90
  go_wp2_with fail
  go_loopg [8] (N.length) (fun n s8 wr => ∃ k : Nat, k + n = N.length ∧ s8 = .int .i64 (k : Int) ∧ Hid (Below w.heap.size w wr ∧ ∀ j : Nat, j < k → N[j]? ≠ some s))
  case atStart => exact ⟨0, by omega, rfl, Lib.hid ⟨Below.refl _ _, fun j hj => absurd hj (by omega)⟩⟩
  case round =>
    obtain ⟨k, hkn, rfl, HW⟩ := hrel
    have HKN := Lib.hid hkn
    by_cases hk : k < N.length
    · have hkz : (k : Int) < (N.length : Int) := by omega
      obtain ⟨ba, oa, rfl, hca⟩ := (HN.out.below HW.out.1) (by omega)
      have hcell := hca k hk
      obtain ⟨nm, hnm⟩ : ∃ nm, N[k]? = some nm := ⟨_, List.getElem?_eq_getElem hk⟩
      rw [List.getD_eq_getElem?_getD, hnm] at hcell
      have hcell2 : wr.cell? ⟨ba, oa + k, none⟩ = some (.string nm) := hcell
      have HM := Lib.hid hnm
      clear hca hcell hkn hnm
      by_cases hn : s = nm
      · subst hn
        have hnn : (s.toList == s.toList) = true := by simp
        go_wp2_with fail
        go_ret
        exact ⟨⟨(k : Int), rfl, .inr ⟨k, rfl, HM.out, HW.out.2⟩⟩, HW.out.1⟩
      · have hnn : (s.toList == nm.toList) = false := txt_ne hn
        have hnx : ∀ j : Nat, j < k + 1 → N[j]? ≠ some s := by
          intro j hj hd
          rcases Nat.lt_or_eq_of_le (Nat.le_of_lt_succ hj) with h | h
          · exact HW.out.2 j h hd
          · subst h
            rw [HM.out] at hd
            exact hn (Option.some.inj hd).symm
        have HNX := Lib.hid hnx
        clear hnx
        go_wp2_with fail
        go_roundg (N.length - (k + 1))
        case measure => have := HKN.out; omega
        case rel => exact ⟨k + 1, by have := HKN.out; omega, by go_num, Lib.hid ⟨HW.out.1, HNX.out⟩⟩
    · have hkz : ¬ (k : Int) < (N.length : Int) := by omega
      have hnx : ∀ j : Nat, N[j]? ≠ some s := by
        intro j hd
        have := (List.getElem?_eq_some_iff.1 hd).1
        exact HW.out.2 j (by omega) hd
      have HNX := Lib.hid hnx
      clear hnx
      go_wp2_with fail
      go_ret
      exact ⟨⟨-1, rfl, .inl ⟨rfl, HNX.out⟩⟩, HW.out.1⟩
/-- Values, three cells each. -/
def Vs (w : World) (B : Option Addr) (V : List Va) : Prop := 0 < V.length → ∃ g o, B = some ⟨g, o, none⟩ ∧ ∀ (k : Nat) v, V[k]? = some v → w.cell? ⟨g, o + k * 3, none⟩ = some (.int .i64 v.k) ∧ w.cell? ⟨g, o + k * 3 + 1, none⟩ = some (.int .i64 v.n) ∧ w.cell? ⟨g, o + k * 3 + 2, none⟩ = some (.string ⟨v.s.toArray⟩)
theorem Vs.below {w w' : World} {B : Option Addr} {V : List Va} (h : Vs w B V) (hb : Below w.heap.size w w') : Vs w' B V := by
  intro hl
  obtain ⟨g, o, rfl, hc⟩ := h hl
  refine ⟨g, o, rfl, fun k v hk => ?_⟩
  obtain ⟨h0, h1, h2⟩ := hc k v hk
  have hg := World.block_lt_of_cell? w _ h0
  exact ⟨(hb.cell (p := ⟨g, o + k * 3, none⟩) hg).trans h0, (hb.cell (p := ⟨g, o + k * 3 + 1, none⟩) hg).trans h1, (hb.cell (p := ⟨g, o + k * 3 + 2, none⟩) hg).trans h2⟩
theorem box_bx (v : Va) : boxV v.k v.n ⟨v.s.toArray⟩ = bxV (if checkB v.k v.n v.s then v else blankV) := by
  unfold boxV
  by_cases h : checkB v.k v.n v.s = true
  · rw [if_pos h, if_pos h]
    unfold bxV
    by_cases h4 : v.k = 4
    · have hs : v.s = [] := by
        rcases check_kind h with h | h | h | h | h
        · exact absurd h.1 (by omega)
        · exact absurd h.1 (by omega)
        · exact absurd h.1 (by omega)
        · exact absurd h.1 (by omega)
        · simp [*] at h ⊢
      simp [h4, hs]
    · simp [h4]
  · rw [if_neg h, if_neg h]
    rfl
set_option maxHeartbeats 2000000 in
set_option maxRecDepth 100000 in
theorem evname_any (N : List ByteArray) (V : List Va) (A B : Option Addr) (cA cB : Nat) (s : ByteArray) (w : World) (hN : Ts w A N) (hV : Vs w B V) (lN : N.length ≤ 4611686018427387904) (lV : V.length ≤ 4611686018427387904) (hs : ∀ v ∈ V, v.s.length < 9223372036854775807) (hT : Tabs w) :
    Calls Tryz.prog 51 #[KE A N.length cA B V.length cB, .string s] w (Comes w (nameV N V s)) := by
  have hb1 := below_alloc w (.cells #[.slice A N.length cA, .slice B V.length cB] 64)
  have hs1 := alloc_size w (.cells #[.slice A N.length cA, .slice B V.length cB] 64)
  have k0 : (w.alloc (.cells #[.slice A N.length cA, .slice B V.length cB] 64)).cell? ⟨w.heap.size, 0, none⟩ = some (.slice A N.length cA) := by rw [cells_of_alloc]; rfl
  have k1 : (w.alloc (.cells #[.slice A N.length cA, .slice B V.length cB] 64)).cell? ⟨w.heap.size, 1, none⟩ = some (.slice B V.length cB) := by rw [cells_of_alloc]; rfl
  obtain ⟨w1, hw1⟩ : ∃ w1, w.alloc (.cells #[.slice A N.length cA, .slice B V.length cB] 64) = w1 := ⟨_, rfl⟩
  rw [hw1] at hb1 hs1 k0 k1
  have cI := index_any N A cA s w1 (hN.below hb1) lN
  have g0 : w.heap.size < w1.heap.size := by omega
  have HB := Lib.hid hb1
  have HT := Lib.hid (hT.later hb1)
  have HV := Lib.hid (hV.below hb1)
  clear hb1 hs1 hT hV hN
  go_enter Tryz.func51, Tryz.ntmps51
  go_wp2_with fail
  refine cI.mono ?_
  rintro e w2 ⟨⟨i, rfl, hi⟩, hb2⟩
  have k0 := (hb2.cell (p := ⟨w.heap.size, 0, none⟩) g0).trans k0
  have k1 := (hb2.cell (p := ⟨w.heap.size, 1, none⟩) g0).trans k1
  have HB2 := Lib.hid (below_to HB.out hb2)
  have HT2 := Lib.hid (HT.out.later hb2)
  have HV2 := Lib.hid (HV.out.below hb2)
  clear hb2 g0 hw1
  rcases hi with ⟨rfl, hno⟩ | ⟨k, rfl, hat, hf⟩
  · have H0 := Lib.hid (nameV_none (V := V) hno)
    clear hno
    go_wp2_with fail
    go_ret
    exact ⟨by rw [H0.out]; rfl, HB2.out⟩
  · have hkz : ¬ (k : Int) < 0 := by omega
    by_cases hk : k < V.length
    · have hkl : ¬ ((V.length : Int) ≤ (k : Int)) := by omega
      have hkl2 : (k : Int) < (V.length : Int) := by omega
      obtain ⟨g, o, rfl, hc⟩ := HV2.out (by omega)
      obtain ⟨v, hv⟩ : ∃ v, V[k]? = some v := ⟨_, List.getElem?_eq_getElem hk⟩
      obtain ⟨c0, c1, c2⟩ := hc k v hv
      have cX := box_any v.k v.n ⟨v.s.toArray⟩ w2 (by show v.s.toArray.size < _; rw [List.size_toArray]; exact hs v (List.mem_of_getElem? hv)) HT2.out
      have HM := Lib.hid (nameV_at hat hf hv)
      clear hc hat hf hv hs
      go_wp2_with fail
      refine cX.mono ?_
      rintro e w3 ⟨rfl, hb3⟩
      go_wp2_with fail
      go_ret
      exact ⟨by rw [HM.out, ← box_bx]; rfl, below_to HB2.out hb3⟩
    · have hkl : ((V.length : Int) ≤ (k : Int)) := by omega
      have H0 := Lib.hid (nameV_short hf (by omega : V.length ≤ k))
      clear hat hf hs
      go_wp2_with fail
      go_ret
      exact ⟨by rw [H0.out]; rfl, HB2.out⟩
end Go.Proofs.YtaaibciacipelaaGreatDoor
