/- Plain mathematics: a text's pieces, as the model's own decoding finds them, and what follows of cutting, turning round, folding. No program stands in this text. -/
import Derived.Lib.TrimUEq
import Derived.Lib.MapLaws
import Derived.Lib.ValidLaws
import Derived.Lib.RuneBytes
import Derived.Lib.RuneCount
namespace Go.Proofs.YtbeeeakcjeibgaaDoor
open Go.Lib

/-- A piece: its rune, its bytes. -/
abbrev Pc := Nat × List UInt8
def pcsF : Nat → List UInt8 → List Pc
  | 0, _ => []
  | f + 1, l => if l = [] then [] else ((decodeL l).1, l.take (decodeL l).2) :: pcsF f (l.drop (decodeL l).2)
def pcs (l : List UInt8) : List Pc := pcsF l.length l

theorem pcsF_fuel : ∀ (n m : Nat) (l : List UInt8), l.length ≤ n → l.length ≤ m → pcsF n l = pcsF m l
  | 0, 0, _, _, _ => rfl
  | 0, m + 1, l, hn, _ => by
    have : l = [] := List.eq_nil_of_length_eq_zero (by omega)
    subst this; simp [pcsF]
  | n + 1, 0, l, _, hm => by
    have : l = [] := List.eq_nil_of_length_eq_zero (by omega)
    subst this; simp [pcsF]
  | n + 1, m + 1, l, hn, hm => by
    unfold pcsF
    by_cases hne : l = []
    · simp [hne]
    · have hw := decodeL_width l
      rw [if_neg hne, if_neg hne, pcsF_fuel n m (l.drop (decodeL l).2) (by rw [List.length_drop]; omega) (by rw [List.length_drop]; omega)]
theorem pcs_nil : pcs [] = [] := rfl
theorem pcs_step (l : List UInt8) (hne : l ≠ []) : pcs l = ((decodeL l).1, l.take (decodeL l).2) :: pcs (l.drop (decodeL l).2) := by
  have hl : 0 < l.length := List.length_pos_iff.2 hne
  have hw := decodeL_width l
  obtain ⟨n, hn⟩ : ∃ n, l.length = n + 1 := ⟨l.length - 1, by omega⟩
  unfold pcs
  rw [hn]
  show (if l = [] then [] else _) = _
  rw [if_neg hne, pcsF_fuel n (l.drop (decodeL l).2).length _ (by rw [List.length_drop]; omega) (Nat.le_refl _)]

/-- Going through a text from its beginning: an induction. -/
theorem pcs_induct {Q : List UInt8 → Prop} (h0 : Q []) (h1 : ∀ l, l ≠ [] → Q (l.drop (decodeL l).2) → Q l) (l : List UInt8) : Q l := by
  obtain ⟨n, hn⟩ : ∃ n, l.length ≤ n := ⟨_, Nat.le_refl _⟩
  induction n generalizing l with
  | zero =>
    have : l = [] := List.eq_nil_of_length_eq_zero (by omega)
    subst this; exact h0
  | succ n ih =>
    by_cases hne : l = []
    · subst hne; exact h0
    · have hw := decodeL_width l
      have hl : 0 < l.length := List.length_pos_iff.2 hne
      exact h1 l hne (ih _ (by rw [List.length_drop]; omega))

/-- All bytes of some pieces, one behind the other. -/
def flat (p : List Pc) : List UInt8 := p.flatMap (·.2)
theorem flat_nil : flat [] = [] := rfl
theorem flat_cons (x : Pc) (p : List Pc) : flat (x :: p) = x.2 ++ flat p := by simp [flat]
theorem flat_append (p q : List Pc) : flat (p ++ q) = flat p ++ flat q := by simp [flat]
theorem flat_pcs (l : List UInt8) : flat (pcs l) = l := by
  induction l using pcs_induct with
  | h0 => rfl
  | h1 l hne ih => rw [pcs_step l hne, flat_cons, ih]; exact List.take_append_drop _ _

/-- A piece is a byte that is none. -/
def bad (x : Pc) : Prop := x.1 = 65533 ∧ x.2.length = 1
instance (x : Pc) : Decidable (bad x) := by unfold bad; infer_instance

def runesL (l : List UInt8) : List Nat := (pcs l).map (·.1)
def countL (l : List UInt8) : Nat := (pcs l).length
def cutL (l : List UInt8) (n : Nat) : List UInt8 := flat ((pcs l).take n)
def backL (l : List UInt8) : List UInt8 := flat (pcs l).reverse

theorem runeCount_pcs (s : ByteArray) : ∀ (f pos : Nat), s.size ≤ pos + f → runeCountFrom s f pos = (pcs (s.data.toList.drop pos)).length
  | 0, pos, h => by
    have : s.data.toList.drop pos = [] := List.drop_eq_nil_of_le (by rw [Array.length_toList]; exact h)
    rw [this]; rfl
  | f + 1, pos, h => by
    unfold runeCountFrom
    by_cases hp : pos < s.size
    · have hne : s.data.toList.drop pos ≠ [] := by
        intro e; have := congrArg List.length e; rw [List.length_drop, Array.length_toList] at this
        have : s.size = s.data.size := rfl
        simp at *; omega
      have hw := width_pos s pos
      rw [if_pos hp, pcs_step _ hne, decodeL_drop, List.drop_drop, runeCount_pcs s f _ (by omega)]
      simp; omega
    · have : s.data.toList.drop pos = [] := List.drop_eq_nil_of_le (by rw [Array.length_toList]; show s.size ≤ pos; omega)
      rw [if_neg hp, this]; rfl
theorem runeCount_eq (s : ByteArray) : runeCount s = countL s.data.toList := by
  have := runeCount_pcs s s.size 0 (by omega)
  simpa [runeCount, countL] using this

end Go.Proofs.YtbeeeakcjeibgaaDoor
