/- Plain mathematics: pieces that are runes stand by themselves; the bytes of a rune are one piece; a text whose pieces are all runes. No program stands in this text. -/
import Derived.Test.YtbeeeakcjeibgaaDoorCutMath
import Derived.Lib.MapLaws
import Derived.Lib.RuneBytes
namespace Go.Proofs.YtbeeeakcjeibgaaDoor
open Go.Lib

def validL (l : List UInt8) : Bool := (pcs l).all fun x => !decide (bad x)
theorem validD_eq (l : List UInt8) : Lib.validD l = validL l := by
  induction l using pcs_induct with
  | h0 => rfl
  | h1 l hne ih =>
    have hw := Lib.decodeL_le l hne
    unfold validL at ih ⊢
    rw [Lib.validD_step l hne, pcs_step l hne, List.all_cons, ← ih]
    have e : bad ((Lib.decodeL l).1, l.take (Lib.decodeL l).2) ↔ ((Lib.decodeL l).1 = 65533 ∧ (Lib.decodeL l).2 = 1) := by
      unfold bad; simp only [List.length_take, Nat.min_eq_left hw]
    by_cases hb : (Lib.decodeL l).1 = 65533 ∧ (Lib.decodeL l).2 = 1
    · rw [if_pos hb, decide_eq_true (e.2 hb)]; rfl
    · rw [if_neg hb, decide_eq_false (fun h => hb (e.1 h))]; rfl
/-- A piece that is a rune whatever comes behind it. -/
def Solid (x : Pc) : Prop := x.2 ≠ [] ∧ ∀ t, decodeL (x.2 ++ t) = (x.1, x.2.length)
theorem pcs_cons_solid (x : Pc) (t : List UInt8) (h : Solid x) : pcs (x.2 ++ t) = x :: pcs t := by
  have hne : x.2 ++ t ≠ [] := by intro e; exact h.1 (List.append_eq_nil_iff.1 e).1
  rw [pcs_step _ hne, h.2 t, List.take_left, List.drop_left]
theorem pcs_solid : ∀ (P : List Pc), (∀ x ∈ P, Solid x) → pcs (flat P) = P
  | [], _ => rfl
  | x :: P, h => by
    rw [flat_cons, pcs_cons_solid x _ (h x (by simp)), pcs_solid P (fun y hy => h y (by simp [hy]))]

theorem getD_app_left (a t : List UInt8) (k : Nat) (h : k < a.length) : (a ++ t).getD k 0 = a.getD k 0 := by
  simp [List.getD, List.getElem?_append_left h]
theorem solid_of_good (l : List UInt8) (hne : l ≠ []) (hg : ¬ ((decodeL l).1 = 65533 ∧ (decodeL l).2 = 1)) : Solid ((decodeL l).1, l.take (decodeL l).2) := by
  have hw1 := decodeL_width l
  have hw2 := decodeL_le l hne
  have hl : (l.take (decodeL l).2).length = (decodeL l).2 := by rw [List.length_take, Nat.min_eq_left hw2]
  refine ⟨?_, fun t => ?_⟩
  · intro e; have := congrArg List.length e; dsimp only at this; rw [hl] at this; simp only [List.length_nil] at this; omega
  · show decodeL (l.take (decodeL l).2 ++ t) = ((decodeL l).1, (l.take (decodeL l).2).length)
    rw [hl]
    have gd : ∀ k, k < (decodeL l).2 → (l.take (decodeL l).2 ++ t).getD k 0 = l.getD k 0 := fun k hk => by rw [getD_app_left _ _ _ (by omega), getD_take _ _ _ hk]
    have hlen : (decodeL l).2 ≤ (l.take (decodeL l).2 ++ t).length := by rw [List.length_append, hl]; omega
    generalize l.take (decodeL l).2 ++ t = m at gd hlen ⊢
    rw [decodeL_N l] at hg gd hlen ⊢
    rw [decodeL_N m]
    rcases decodeN_shape l.length (l.getD 0 0).toNat (l.getD 1 0).toNat (l.getD 2 0).toNat (l.getD 3 0).toNat with ⟨c, e⟩ | ⟨a1, a2, a3, av, e⟩ | ⟨a1, a2, a3, a4, av, asr, e⟩ | ⟨a1, a2, a3, a4, a5, av, aw, e⟩ | e
    all_goals rw [e] at hg gd hlen ⊢; dsimp only at hg gd hlen ⊢
    · rw [gd 0 (by omega)]; exact decodeN_one _ _ _ _ _ c
    · rw [gd 0 (by omega), gd 1 (by omega)]; exact decodeN_two _ _ _ _ _ a1 (by omega) a3 av
    · rw [gd 0 (by omega), gd 1 (by omega), gd 2 (by omega)]; exact decodeN_three _ _ _ _ _ a1 (by omega) a3 a4 av asr
    · rw [gd 0 (by omega), gd 1 (by omega), gd 2 (by omega), gd 3 (by omega)]; exact decodeN_four _ _ _ _ _ a1 (by omega) a3 a4 a5 av aw
    · exact absurd ⟨rfl, rfl⟩ hg
theorem bad_iff (l : List UInt8) (hne : l ≠ []) : bad ((decodeL l).1, l.take (decodeL l).2) ↔ ((decodeL l).1 = 65533 ∧ (decodeL l).2 = 1) := by
  have hw := decodeL_le l hne
  unfold bad; simp only [List.length_take, Nat.min_eq_left hw]
theorem solid_mem (l : List UInt8) : ∀ x ∈ pcs l, ¬ bad x → Solid x := by
  induction l using pcs_induct with
  | h0 => intro x hx; cases hx
  | h1 l hne ih =>
    intro x hx hb
    rw [pcs_step l hne] at hx
    rcases List.mem_cons.1 hx with rfl | hx
    · exact solid_of_good l hne (fun h => hb ((bad_iff l hne).2 h))
    · exact ih x hx hb
theorem valid_solid (l : List UInt8) (h : validL l = true) : ∀ x ∈ pcs l, Solid x := fun x hx => by
  have := List.all_eq_true.1 h x hx
  exact solid_mem l x hx (by simpa using this)

theorem pcs_append (a b : List UInt8) (h : validL a = true) : pcs (a ++ b) = pcs a ++ pcs b := by
  have : ∀ (P : List Pc), (∀ x ∈ P, Solid x) → pcs (flat P ++ b) = P ++ pcs b := by
    intro P
    induction P with
    | nil => intro _; rfl
    | cons x P ih =>
      intro hP
      rw [flat_cons, List.append_assoc, pcs_cons_solid x _ (hP x (by simp)), ih (fun y hy => hP y (by simp [hy]))]; rfl
  have := this (pcs a) (valid_solid a h)
  rwa [flat_pcs] at this
/-- A rune that may stand in a text. -/
def Scalar (r : Int) : Prop := (0 ≤ r ∧ r < 55296) ∨ (57343 < r ∧ r ≤ 1114111)
theorem u8_of (x : Int) (h0 : 0 ≤ x) (h1 : x < 256) : (((x.toNat.toUInt8).toNat : Nat) : Int) = x := by
  simp; omega
theorem solid_encode (r : Int) (h : Scalar r) : Solid (r.toNat, encodeRune r) := by
  unfold Scalar at h
  by_cases c1 : r ≤ 127
  · refine ⟨by unfold encodeRune; rw [encodeRuneZ_one (by omega) c1]; simp, fun t => ?_⟩
    unfold encodeRune; rw [encodeRuneZ_one (by omega) c1, decodeL_N]
    have e := u8_of r (by omega) (by omega)
    simp only [List.map_cons, List.map_nil, List.cons_append, List.nil_append, List.getD_cons_zero, List.length_cons, List.length_nil]
    generalize r.toNat.toUInt8 = b at e ⊢
    rw [decodeN_one _ _ _ _ _ (by omega)]
    refine Prod.ext ?_ ?_ <;> dsimp only <;> omega
  by_cases c2 : r ≤ 2047
  · refine ⟨by unfold encodeRune; rw [encodeRuneZ_two (by omega) c2]; simp, fun t => ?_⟩
    unfold encodeRune; rw [encodeRuneZ_two (by omega) c2, decodeL_N]
    have e0 := u8_of (192 + r / 64) (by omega) (by omega)
    have e1 := u8_of (128 + r % 64) (by omega) (by omega)
    simp only [List.map_cons, List.map_nil, List.cons_append, List.nil_append, List.getD_cons_zero, List.getD_cons_succ, List.length_cons, List.length_nil]
    generalize (192 + r / 64).toNat.toUInt8 = b0 at e0 ⊢
    generalize (128 + r % 64).toNat.toUInt8 = b1 at e1 ⊢
    rw [decodeN_two _ _ _ _ _ (by omega) (by omega) (by omega) (by omega)]
    refine Prod.ext ?_ ?_ <;> dsimp only <;> omega
  by_cases c3 : r ≤ 65535
  · refine ⟨by unfold encodeRune; rw [encodeRuneZ_three (by omega)]; simp, fun t => ?_⟩
    unfold encodeRune; rw [encodeRuneZ_three (by omega), decodeL_N]
    have e0 := u8_of (224 + r / 4096) (by omega) (by omega)
    have e1 := u8_of (128 + r / 64 % 64) (by omega) (by omega)
    have e2 := u8_of (128 + r % 64) (by omega) (by omega)
    simp only [List.map_cons, List.map_nil, List.cons_append, List.nil_append, List.getD_cons_zero, List.getD_cons_succ, List.length_cons, List.length_nil]
    generalize (224 + r / 4096).toNat.toUInt8 = b0 at e0 ⊢
    generalize (128 + r / 64 % 64).toNat.toUInt8 = b1 at e1 ⊢
    generalize (128 + r % 64).toNat.toUInt8 = b2 at e2 ⊢
    rw [decodeN_three _ _ _ _ _ (by omega) (by omega) (by omega) (by omega) (by omega) (by omega)]
    refine Prod.ext ?_ ?_ <;> dsimp only <;> omega
  · refine ⟨by unfold encodeRune; rw [encodeRuneZ_four (by omega) (by omega)]; simp, fun t => ?_⟩
    unfold encodeRune; rw [encodeRuneZ_four (by omega) (by omega), decodeL_N]
    have e0 := u8_of (240 + r / 262144) (by omega) (by omega)
    have e1 := u8_of (128 + r / 4096 % 64) (by omega) (by omega)
    have e2 := u8_of (128 + r / 64 % 64) (by omega) (by omega)
    have e3 := u8_of (128 + r % 64) (by omega) (by omega)
    simp only [List.map_cons, List.map_nil, List.cons_append, List.nil_append, List.getD_cons_zero, List.getD_cons_succ, List.length_cons, List.length_nil]
    generalize (240 + r / 262144).toNat.toUInt8 = b0 at e0 ⊢
    generalize (128 + r / 4096 % 64).toNat.toUInt8 = b1 at e1 ⊢
    generalize (128 + r / 64 % 64).toNat.toUInt8 = b2 at e2 ⊢
    generalize (128 + r % 64).toNat.toUInt8 = b3 at e3 ⊢
    rw [decodeN_four _ _ _ _ _ (by omega) (by omega) (by omega) (by omega) (by omega) (by omega) (by omega)]
    refine Prod.ext ?_ ?_ <;> dsimp only <;> omega

/-- What is decoded, but from a byte that is none, may stand in a text. -/
theorem scalar_of (l : List UInt8) : Scalar ((decodeL l).1 : Int) := by
  unfold Scalar
  have k0 := (l.getD 0 0).toNat_lt
  rw [decodeL_N]
  rcases decodeN_shape l.length (l.getD 0 0).toNat (l.getD 1 0).toNat (l.getD 2 0).toNat (l.getD 3 0).toNat with ⟨c, e⟩ | ⟨a1, a2, a3, av, e⟩ | ⟨a1, a2, a3, a4, av, asr, e⟩ | ⟨a1, a2, a3, a4, a5, av, aw, e⟩ | e
  all_goals rw [e]; dsimp only; omega
end Go.Proofs.YtbeeeakcjeibgaaDoor
