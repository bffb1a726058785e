/- Plain mathematics: the classes of runes. No program stands in this text. -/
import Derived.Test.YtbeeeakcjeibgaaDoorVShow
namespace Go.Proofs.YtbeeeakcjeibgaaDoor

def SpaceP (r : Int) : Prop := r = 9 ∨ r = 10 ∨ r = 13 ∨ r = 32 ∨ r = 160 ∨ r = 12288
def LetterP (r : Int) : Prop :=
  (97 ≤ r ∧ r ≤ 122) ∨ (65 ≤ r ∧ r ≤ 90) ∨ r = 95 ∨ r = 170 ∨ r = 181 ∨ r = 186 ∨ (192 ≤ r ∧ r ≤ 214) ∨ (216 ≤ r ∧ r ≤ 246) ∨ (248 ≤ r ∧ r ≤ 591) ∨ (913 ≤ r ∧ r ≤ 929) ∨ (931 ≤ r ∧ r ≤ 937) ∨ (945 ≤ r ∧ r ≤ 969) ∨ (1040 ≤ r ∧ r ≤ 1103) ∨ (19968 ≤ r ∧ r ≤ 40959)
instance (r : Int) : Decidable (SpaceP r) := by unfold SpaceP; infer_instance
instance (r : Int) : Decidable (LetterP r) := by unfold LetterP; infer_instance
def classZ (r : Int) : Int := if 48 ≤ r ∧ r ≤ 57 then 2 else if SpaceP r then 3 else if LetterP r then 1 else 0
theorem class_2 {r : Int} (h : 48 ≤ r ∧ r ≤ 57) : classZ r = 2 := by unfold classZ; rw [if_pos h]
theorem class_3 {r : Int} (h : SpaceP r) : classZ r = 3 := by unfold classZ; rw [if_neg (by unfold SpaceP at h; omega), if_pos h]
theorem class_1 {r : Int} (h : LetterP r) : classZ r = 1 := by unfold classZ; rw [if_neg (by unfold LetterP at h; omega), if_neg (by unfold LetterP at h; unfold SpaceP; omega), if_pos h]
theorem class_0 {r : Int} (h : ¬ (48 ≤ r ∧ r ≤ 57)) (h2 : ¬ SpaceP r) (h3 : ¬ LetterP r) : classZ r = 0 := by unfold classZ; rw [if_neg h, if_neg h2, if_neg h3]
theorem class_cases (r : Int) : (classZ r = 2 ∧ 48 ≤ r ∧ r ≤ 57) ∨ (classZ r = 3 ∧ SpaceP r) ∨ (classZ r = 1 ∧ LetterP r) ∨ (classZ r = 0 ∧ ¬ (48 ≤ r ∧ r ≤ 57) ∧ ¬ SpaceP r ∧ ¬ LetterP r) := by
  by_cases h : 48 ≤ r ∧ r ≤ 57
  · exact .inl ⟨class_2 h, h⟩
  · by_cases h2 : SpaceP r
    · exact .inr (.inl ⟨class_3 h2, h2⟩)
    · by_cases h3 : LetterP r
      · exact .inr (.inr (.inl ⟨class_1 h3, h3⟩))
      · exact .inr (.inr (.inr ⟨class_0 h h2 h3, h, h2, h3⟩))
end Go.Proofs.YtbeeeakcjeibgaaDoor
