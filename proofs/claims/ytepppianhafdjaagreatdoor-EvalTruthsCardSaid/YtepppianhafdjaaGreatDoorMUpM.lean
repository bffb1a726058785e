/- Plain mathematics: folded texts (layer 1's, beside layer 5's). No program stands in this text. -/
import Derived.Test.YtepppianhafdjaaGreatDoorGA
namespace Go.Proofs.YtepppianhafdjaaGreatDoor
open Go.Lib

def LowP (r : Int) : Prop := (97 ≤ r ∧ r ≤ 122) ∨ (224 ≤ r ∧ r ≤ 246) ∨ (248 ≤ r ∧ r ≤ 254) ∨ (945 ≤ r ∧ r ≤ 961) ∨ (963 ≤ r ∧ r ≤ 969) ∨ (1072 ≤ r ∧ r ≤ 1103)
instance (r : Int) : Decidable (LowP r) := by unfold LowP; infer_instance
def upperZ (r : Int) : Int := if LowP r then r - 32 else if r = 962 then 931 else r
theorem upper_low {r : Int} (h : LowP r) : upperZ r = r - 32 := by unfold upperZ; rw [if_pos h]
theorem upper_same {r : Int} (h : ¬ LowP r) (h2 : r ≠ 962) : upperZ r = r := by unfold upperZ; rw [if_neg h, if_neg h2]
theorem upper_962 : upperZ 962 = 931 := by decide
def foldPc (x : Pc) : List UInt8 := if x.1 = 65533 then x.2 else Lib.encodeRune (upperZ x.1)
def foldL (l : List UInt8) : List UInt8 := (pcs l).flatMap foldPc
theorem foldL_nil : foldL [] = [] := rfl
theorem foldL_step (l : List UInt8) (hne : l ≠ []) : foldL l = foldPc ((Lib.decodeL l).1, l.take (Lib.decodeL l).2) ++ foldL (l.drop (Lib.decodeL l).2) := by
  unfold foldL; rw [pcs_step l hne]; simp
def foldP (x : Pc) : Pc := if bad x then x else ((upperZ x.1).toNat, encodeRune (upperZ x.1))
theorem scalar_upper (r : Int) (h : Scalar r) : Scalar (upperZ r) := by
  unfold Scalar at *
  unfold upperZ
  split
  · rename_i h2; unfold LowP at h2; omega
  · split <;> omega
theorem upper_idem (r : Int) : upperZ (upperZ r) = upperZ r := by
  by_cases h : LowP r
  · rw [upper_low h]; exact upper_same (by unfold LowP at *; omega) (by unfold LowP at h; omega)
  · by_cases h2 : r = 962
    · subst h2; decide
    · rw [upper_same h h2]; exact upper_same h h2
theorem class_upper (r : Int) : classZ (upperZ r) = classZ r := by
  by_cases h : LowP r
  · rw [upper_low h, class_1 (by unfold LowP at h; unfold LetterP; omega), class_1 (by unfold LowP at h; unfold LetterP; omega)]
  · by_cases h2 : r = 962
    · subst h2; decide
    · rw [upper_same h h2]
theorem foldPc_eq (l : List UInt8) (hne : l ≠ []) : foldPc ((decodeL l).1, l.take (decodeL l).2) = (foldP ((decodeL l).1, l.take (decodeL l).2)).2 := by
  unfold foldPc foldP
  by_cases hb : bad ((decodeL l).1, l.take (decodeL l).2)
  · rw [if_pos hb, if_pos hb.1]
  · rw [if_neg hb]
    by_cases h : (decodeL l).1 = 65533
    · rw [if_pos h]
      have := encode_decode l hne (fun x => hb ((bad_iff l hne).2 x))
      dsimp only
      rw [← this, h]
      have e : upperZ ((65533 : Nat) : Int) = ((65533 : Nat) : Int) := by decide
      rw [e]
    · rw [if_neg h]
theorem foldP_solid (l : List UInt8) (hb : ¬ bad ((decodeL l).1, l.take (decodeL l).2)) : Solid (foldP ((decodeL l).1, l.take (decodeL l).2)) := by
  unfold foldP; rw [if_neg hb]
  exact solid_encode _ (scalar_upper _ (scalar_of l))
theorem encode_head (r : Int) (h : Scalar r) : ((encodeRune r).getD 0 0).toNat / 64 ≠ 2 := by
  have := (solid_encode r h).2 []
  rw [List.append_nil] at this
  intro hc
  rw [decodeL_N, decodeN_cont _ _ _ _ _ hc] at this
  simp only [Prod.mk.injEq] at this
  have h2 := this.2
  have h1 : r = 65533 := by unfold Scalar at h; omega
  subst h1
  revert h2; decide
theorem getD_app_first (a t : List UInt8) (h : a ≠ []) : (a ++ t).getD 0 0 = a.getD 0 0 := getD_app_left a t 0 (List.length_pos_iff.2 h)
theorem bad_split (l : List UInt8) (hne : l ≠ []) (hb : bad ((decodeL l).1, l.take (decodeL l).2)) : ∃ c r, l = c :: r ∧ decodeL l = (65533, 1) ∧ l.take (decodeL l).2 = [c] ∧ l.drop (decodeL l).2 = r := by
  obtain ⟨h1, h2⟩ := (bad_iff l hne).1 hb
  cases l with
  | nil => exact absurd rfl hne
  | cons c r => exact ⟨c, r, rfl, Prod.ext h1 h2, by rw [h2]; rfl, by rw [h2]; rfl⟩
theorem fold_conts (y : List UInt8) : ∀ k, (∀ j, j < k → j < (foldL y).length ∧ ((foldL y).getD j 0).toNat / 64 = 2) → ∀ j, j < k → j < y.length ∧ y.getD j 0 = (foldL y).getD j 0 := by
  induction y using pcs_induct with
  | h0 => intro k h j hj; have := (h j hj).1; rw [foldL_nil] at this; simp at this
  | h1 y hne ih =>
    intro k h j hj
    have h00 := h 0 (by omega)
    rw [foldL_step y hne] at h00
    by_cases hb : bad ((decodeL y).1, y.take (decodeL y).2)
    · obtain ⟨c, r, rfl, hd, ht, hr⟩ := bad_split y hne hb
      have e : foldL (c :: r) = c :: foldL r := by
        rw [foldL_step _ hne, ht, hr, hd]
        unfold foldPc; rw [if_pos rfl]; rfl
      rw [e] at h ⊢
      cases j with
      | zero => exact ⟨by simp, rfl⟩
      | succ j =>
        rw [hr] at ih
        have := ih (k - 1) (fun i hi => by
          have := h (i + 1) (by omega)
          simpa using this) j (by omega)
        simpa using this
    · exfalso
      have hs := foldP_solid y hb
      rw [foldPc_eq y hne] at h00
      rw [getD_app_first _ _ hs.1] at h00
      have hh := h00.2
      unfold foldP at hh
      rw [if_neg hb] at hh
      exact encode_head _ (scalar_upper _ (scalar_of y)) hh
theorem bad_stays (c : UInt8) (r : List UInt8) (h : decodeL (c :: r) = (65533, 1)) : decodeL (c :: foldL r) = (65533, 1) := by
  have g1 : ∀ (t : List UInt8) k, (c :: t).getD (k + 1) 0 = t.getD k 0 := fun t k => by simp [List.getD]
  have g0 : ∀ t : List UInt8, (c :: t).getD 0 0 = c := fun t => rfl
  rw [decodeL_N] at h ⊢
  rw [g0, show (1 : Nat) = 0 + 1 from rfl, g1, show (2 : Nat) = 1 + 1 from rfl, g1, show (3 : Nat) = 2 + 1 from rfl, g1] at h
  rw [g0, show (1 : Nat) = 0 + 1 from rfl, g1, show (2 : Nat) = 1 + 1 from rfl, g1, show (3 : Nat) = 2 + 1 from rfl, g1]
  simp only [List.length_cons] at h ⊢
  have hc := fold_conts r
  rcases decodeN_shape ((foldL r).length + 1) c.toNat ((foldL r).getD 0 0).toNat ((foldL r).getD 1 0).toNat ((foldL r).getD 2 0).toNat with ⟨a, e⟩ | ⟨a1, a2, a3, av, e⟩ | ⟨a1, a2, a3, a4, av, asr, e⟩ | ⟨a1, a2, a3, a4, a5, av, aw, e⟩ | e
  · rw [decodeN_one _ _ _ _ _ a] at h; simp only [Prod.mk.injEq] at h; omega
  · have k := hc 1 (fun j hj => by obtain rfl : j = 0 := by omega
                                   exact ⟨by omega, a3⟩)
    have k0 := k 0 (by omega)
    rw [← k0.2] at a3 av
    rw [decodeN_two _ _ _ _ _ a1 (by omega) a3 av] at h; simp only [Prod.mk.injEq] at h; omega
  · have k := hc 2 (fun j hj => by rcases (by omega : j = 0 ∨ j = 1) with rfl | rfl
                                   · exact ⟨by omega, a3⟩
                                   · exact ⟨by omega, a4⟩)
    have k0 := k 0 (by omega)
    have k1 := k 1 (by omega)
    rw [← k0.2] at a3 av asr; rw [← k1.2] at a4 av asr
    rw [decodeN_three _ _ _ _ _ a1 (by omega) a3 a4 av asr] at h; simp only [Prod.mk.injEq] at h; omega
  · have k := hc 3 (fun j hj => by rcases (by omega : j = 0 ∨ j = 1 ∨ j = 2) with rfl | rfl | rfl
                                   · exact ⟨by omega, a3⟩
                                   · exact ⟨by omega, a4⟩
                                   · exact ⟨by omega, a5⟩)
    have k0 := k 0 (by omega)
    have k1 := k 1 (by omega)
    have k2 := k 2 (by omega)
    rw [← k0.2] at a3 av aw; rw [← k1.2] at a4 av aw; rw [← k2.2] at a5 av aw
    rw [decodeN_four _ _ _ _ _ a1 (by omega) a3 a4 a5 av aw] at h; simp only [Prod.mk.injEq] at h; omega
  · exact e
theorem pcs_fold (l : List UInt8) : pcs (foldL l) = (pcs l).map foldP := by
  induction l using pcs_induct with
  | h0 => rfl
  | h1 l hne ih =>
    rw [pcs_step l hne, List.map_cons, foldL_step l hne]
    by_cases hb : bad ((decodeL l).1, l.take (decodeL l).2)
    · obtain ⟨c, r, rfl, hd, ht, hr⟩ := bad_split l hne hb
      rw [hr] at ih
      rw [ht, hr, hd]
      have e1 : foldPc (((65533, 1) : Nat × Nat).1, [c]) = [c] := by unfold foldPc; rw [if_pos rfl]
      have e2 : foldP (((65533, 1) : Nat × Nat).1, [c]) = (65533, [c]) := by unfold foldP; rw [if_pos ⟨rfl, rfl⟩]
      rw [e1, e2]
      show pcs (c :: foldL r) = _
      have hd2 := bad_stays c r hd
      rw [pcs_step _ (by simp), hd2, ← ih]
      rfl
    · rw [foldPc_eq l hne, pcs_cons_solid _ _ (foldP_solid l hb), ih]
theorem upper_nonneg (r : Nat) : 0 ≤ upperZ (r : Int) := by
  unfold upperZ
  split
  · rename_i h; unfold LowP at h; omega
  · split <;> omega
theorem foldP_rune (x : Pc) : (foldP x).1 = (upperZ x.1).toNat := by
  unfold foldP
  by_cases hb : bad x
  · rw [if_pos hb, hb.1]; decide
  · rw [if_neg hb]
theorem foldP_bad (x : Pc) : bad (foldP x) ↔ bad x := by
  unfold foldP
  by_cases hb : bad x
  · rw [if_pos hb]
  · rw [if_neg hb]
    refine ⟨fun h => ?_, fun h => absurd h hb⟩
    exfalso
    have h1 := h.1
    have h2 := h.2
    dsimp only at h1 h2
    have h0 := upper_nonneg x.1
    have e : upperZ (x.1 : Int) = 65533 := by omega
    rw [e] at h2
    revert h2; decide
theorem foldP_idem (x : Pc) : foldP (foldP x) = foldP x := by
  by_cases hb : bad x
  · have e : foldP x = x := by unfold foldP; rw [if_pos hb]
    rw [e, e]
  · have hb2 : ¬ bad (foldP x) := fun h => hb ((foldP_bad x).1 h)
    have h0 := upper_nonneg x.1
    have e : foldP x = ((upperZ x.1).toNat, encodeRune (upperZ x.1)) := by unfold foldP; rw [if_neg hb]
    rw [show foldP (foldP x) = ((upperZ (foldP x).1).toNat, encodeRune (upperZ (foldP x).1)) by rw [foldP, if_neg hb2]]
    rw [e]
    dsimp only
    rw [Int.toNat_of_nonneg h0, upper_idem]
theorem runes_fold (l : List UInt8) : runesL (foldL l) = (runesL l).map fun r : Nat => (upperZ r).toNat := by
  unfold runesL; rw [pcs_fold, List.map_map, List.map_map]
  exact List.map_congr_left fun x _ => foldP_rune x
theorem count_fold (l : List UInt8) : countL (foldL l) = countL l := by unfold countL; rw [pcs_fold, List.length_map]
theorem fold_fold (l : List UInt8) : foldL (foldL l) = foldL l := by
  have h1 := flat_pcs (foldL (foldL l))
  have h2 := flat_pcs (foldL l)
  rw [pcs_fold, pcs_fold, List.map_map] at h1
  rw [pcs_fold] at h2
  rw [← h1, ← h2]
  have : (foldP ∘ foldP) = foldP := funext foldP_idem
  rw [this, h2]
theorem valid_fold (l : List UInt8) : validL (foldL l) = validL l := by
  unfold validL; rw [pcs_fold, List.all_map]
  congr 1; funext x
  simp only [Function.comp, foldP_bad x]
end Go.Proofs.YtepppianhafdjaaGreatDoor
