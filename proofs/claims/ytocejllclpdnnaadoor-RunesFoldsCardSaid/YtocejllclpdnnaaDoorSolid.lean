/- Plain mathematics: pieces that are runes may be put in whatever order; a folded text has the folded pieces. No program stands in this text. -/
import Derived.Test.YtocejllclpdnnaaDoorCutMath
import Derived.Test.YtocejllclpdnnaaDoorFold
import Derived.Test.YtocejllclpdnnaaDoorValid
namespace Go.Proofs.YtocejllclpdnnaaDoor
open Go.Lib

/-- A piece that is a rune whatever comes behind it. -/
def Solid (x : Pc) : Prop := x.2 ≠ [] ∧ ∀ t, decodeL (x.2 ++ t) = (x.1, x.2.length)
theorem pcs_cons_solid (x : Pc) (t : List UInt8) (h : Solid x) : pcs (x.2 ++ t) = x :: pcs t := by
  have hne : x.2 ++ t ≠ [] := by intro e; exact h.1 (List.append_eq_nil_iff.1 e).1
  rw [pcs_step _ hne, h.2 t, List.take_left, List.drop_left]
theorem pcs_solid : ∀ (P : List Pc), (∀ x ∈ P, Solid x) → pcs (flat P) = P
  | [], _ => rfl
  | x :: P, h => by
    rw [flat_cons, pcs_cons_solid x _ (h x (by simp)), pcs_solid P (fun y hy => h y (by simp [hy]))]

theorem getD_app_left (a t : List UInt8) (k : Nat) (h : k < a.length) : (a ++ t).getD k 0 = a.getD k 0 := by
  simp [List.getD, List.getElem?_append_left h]
theorem solid_of_good (l : List UInt8) (hne : l ≠ []) (hg : ¬ ((decodeL l).1 = 65533 ∧ (decodeL l).2 = 1)) : Solid ((decodeL l).1, l.take (decodeL l).2) := by
  have hw1 := decodeL_width l
  have hw2 := decodeL_le l hne
  have hl : (l.take (decodeL l).2).length = (decodeL l).2 := by rw [List.length_take, Nat.min_eq_left hw2]
  refine ⟨?_, fun t => ?_⟩
  · intro e; have := congrArg List.length e; dsimp only at this; rw [hl] at this; simp only [List.length_nil] at this; omega
  · show decodeL (l.take (decodeL l).2 ++ t) = ((decodeL l).1, (l.take (decodeL l).2).length)
    rw [hl]
    have gd : ∀ k, k < (decodeL l).2 → (l.take (decodeL l).2 ++ t).getD k 0 = l.getD k 0 := fun k hk => by rw [getD_app_left _ _ _ (by omega), getD_take _ _ _ hk]
    have hlen : (decodeL l).2 ≤ (l.take (decodeL l).2 ++ t).length := by rw [List.length_append, hl]; omega
    generalize l.take (decodeL l).2 ++ t = m at gd hlen ⊢
    rw [decodeL_N l] at hg gd hlen ⊢
    rw [decodeL_N m]
    rcases decodeN_shape l.length (l.getD 0 0).toNat (l.getD 1 0).toNat (l.getD 2 0).toNat (l.getD 3 0).toNat with ⟨c, e⟩ | ⟨a1, a2, a3, av, e⟩ | ⟨a1, a2, a3, a4, av, asr, e⟩ | ⟨a1, a2, a3, a4, a5, av, aw, e⟩ | e
    all_goals rw [e] at hg gd hlen ⊢; dsimp only at hg gd hlen ⊢
    · rw [gd 0 (by omega)]; exact decodeN_one _ _ _ _ _ c
    · rw [gd 0 (by omega), gd 1 (by omega)]; exact decodeN_two _ _ _ _ _ a1 (by omega) a3 av
    · rw [gd 0 (by omega), gd 1 (by omega), gd 2 (by omega)]; exact decodeN_three _ _ _ _ _ a1 (by omega) a3 a4 av asr
    · rw [gd 0 (by omega), gd 1 (by omega), gd 2 (by omega), gd 3 (by omega)]; exact decodeN_four _ _ _ _ _ a1 (by omega) a3 a4 a5 av aw
    · exact absurd ⟨rfl, rfl⟩ hg
theorem bad_iff (l : List UInt8) (hne : l ≠ []) : bad ((decodeL l).1, l.take (decodeL l).2) ↔ ((decodeL l).1 = 65533 ∧ (decodeL l).2 = 1) := by
  have hw := decodeL_le l hne
  unfold bad; simp only [List.length_take, Nat.min_eq_left hw]
theorem solid_mem (l : List UInt8) : ∀ x ∈ pcs l, ¬ bad x → Solid x := by
  induction l using pcs_induct with
  | h0 => intro x hx; cases hx
  | h1 l hne ih =>
    intro x hx hb
    rw [pcs_step l hne] at hx
    rcases List.mem_cons.1 hx with rfl | hx
    · exact solid_of_good l hne (fun h => hb ((bad_iff l hne).2 h))
    · exact ih x hx hb
theorem valid_solid (l : List UInt8) (h : validL l = true) : ∀ x ∈ pcs l, Solid x := fun x hx => by
  have := List.all_eq_true.1 h x hx
  exact solid_mem l x hx (by simpa using this)

/- ### the other way round -/
theorem pcs_back (l : List UInt8) (h : validL l = true) : pcs (backL l) = (pcs l).reverse :=
  pcs_solid _ fun x hx => valid_solid l h x (List.mem_reverse.1 hx)
theorem runes_back (l : List UInt8) (h : validL l = true) : runesL (backL l) = (runesL l).reverse := by
  unfold runesL; rw [pcs_back l h, List.map_reverse]
theorem valid_back (l : List UInt8) (h : validL l = true) : validL (backL l) = true := by
  unfold validL at *; rw [pcs_back l (by unfold validL; exact h), List.all_reverse]; exact h
theorem back_back (l : List UInt8) (h : validL l = true) : backL (backL l) = l := by
  unfold backL; rw [show flat (pcs l).reverse = backL l from rfl, pcs_back l h, List.reverse_reverse, flat_pcs]
theorem flat_len_reverse (P : List Pc) : (flat P.reverse).length = (flat P).length := by
  induction P with
  | nil => rfl
  | cons x P ih => rw [List.reverse_cons, flat_append, flat_cons, flat_cons, flat_nil, List.append_nil, List.length_append, List.length_append, ih]; omega
theorem back_len (l : List UInt8) : (backL l).length = l.length := by
  unfold backL; rw [flat_len_reverse, flat_pcs]

/- ### one behind the other -/
theorem pcs_append (a b : List UInt8) (h : validL a = true) : pcs (a ++ b) = pcs a ++ pcs b := by
  have : ∀ (P : List Pc), (∀ x ∈ P, Solid x) → pcs (flat P ++ b) = P ++ pcs b := by
    intro P
    induction P with
    | nil => intro _; rfl
    | cons x P ih =>
      intro hP
      rw [flat_cons, List.append_assoc, pcs_cons_solid x _ (hP x (by simp)), ih (fun y hy => hP y (by simp [hy]))]; rfl
  have := this (pcs a) (valid_solid a h)
  rwa [flat_pcs] at this
theorem runes_append (a b : List UInt8) (h : validL a = true) : runesL (a ++ b) = runesL a ++ runesL b := by
  unfold runesL; rw [pcs_append a b h, List.map_append]
theorem back_append (a b : List UInt8) (h : validL a = true) : backL (a ++ b) = backL b ++ backL a := by
  unfold backL; rw [pcs_append a b h, List.reverse_append, flat_append]
theorem fold_append (a b : List UInt8) (h : validL a = true) : foldL (a ++ b) = foldL a ++ foldL b := by
  unfold foldL; rw [pcs_append a b h, List.flatMap_append]
theorem cut_append (a b : List UInt8) (h : validL a = true) : cutL (a ++ b) (runesL a).length = a := by
  unfold cutL; rw [pcs_append a b h, runesL, List.length_map, List.take_left, flat_pcs]

/- ### folded -/
/-- A piece, folded. -/
def foldP (x : Pc) : Pc := if bad x then x else ((upperZ x.1).toNat, encodeRune (upperZ x.1))
end Go.Proofs.YtocejllclpdnnaaDoor
