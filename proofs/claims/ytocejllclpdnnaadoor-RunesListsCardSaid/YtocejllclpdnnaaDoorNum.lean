/- Contracts of runes.Class, runes.Upper and the document's own Class and Upper: for every int32 each returns the number that the plain functions classZ and upperZ give; nothing in memory turns. -/
import Derived.Test.YtocejllclpdnnaaDoorProg
import Derived.WalkKit
import Derived.WalkMore
import Derived.WalkLawsBesides
import Derived.WalkSpells
import Derived.Below
import Derived.Lib.Hide
namespace Go.Proofs.YtocejllclpdnnaaDoor
open Go.RowKit

/- ### The plain functions -/
def SpaceP (r : Int) : Prop := r = 9 ∨ r = 10 ∨ r = 13 ∨ r = 32 ∨ r = 160 ∨ r = 12288
def LetterP (r : Int) : Prop :=
  (97 ≤ r ∧ r ≤ 122) ∨ (65 ≤ r ∧ r ≤ 90) ∨ r = 95 ∨ r = 170 ∨ r = 181 ∨ r = 186 ∨ (192 ≤ r ∧ r ≤ 214) ∨ (216 ≤ r ∧ r ≤ 246) ∨ (248 ≤ r ∧ r ≤ 591) ∨ (913 ≤ r ∧ r ≤ 929) ∨ (931 ≤ r ∧ r ≤ 937) ∨ (945 ≤ r ∧ r ≤ 969) ∨ (1040 ≤ r ∧ r ≤ 1103) ∨ (19968 ≤ r ∧ r ≤ 40959)
instance (r : Int) : Decidable (SpaceP r) := by unfold SpaceP; infer_instance
instance (r : Int) : Decidable (LetterP r) := by unfold LetterP; infer_instance
def classZ (r : Int) : Int := if 48 ≤ r ∧ r ≤ 57 then 2 else if SpaceP r then 3 else if LetterP r then 1 else 0
def LowP (r : Int) : Prop := (97 ≤ r ∧ r ≤ 122) ∨ (224 ≤ r ∧ r ≤ 246) ∨ (248 ≤ r ∧ r ≤ 254) ∨ (945 ≤ r ∧ r ≤ 961) ∨ (963 ≤ r ∧ r ≤ 969) ∨ (1072 ≤ r ∧ r ≤ 1103)
instance (r : Int) : Decidable (LowP r) := by unfold LowP; infer_instance
def upperZ (r : Int) : Int := if LowP r then r - 32 else if r = 962 then 931 else r

theorem ret_int {k : IntKind} {a b : Int} (h : a = b) : Ending.returned (.int k a) = .returned (.int k b) := by rw [h]

theorem ret_bool {a b : Bool} (h : a = b) : Ending.returned (.bool a) = .returned (.bool b) := by rw [h]

set_option maxHeartbeats 400000 in
theorem isSpace_any (r : Int) (w : World) : Calls Tryd.prog 37 #[.int .i32 r] w fun e w' => e = .returned (.bool (decide (SpaceP r))) ∧ w' = w := by
  go_enter Tryd.func37, Tryd.ntmps37
  go_wp2
  all_goals
    go_ret
    refine ⟨ret_bool ?_, rfl⟩
    simp only [beq_iff_eq, beq_eq_false_iff_ne, ne_eq] at *
    first | exact (decide_eq_true (by unfold SpaceP; omega)).symm | exact (decide_eq_false (by unfold SpaceP; omega)).symm

set_option maxHeartbeats 1000000 in
theorem isLetter_any (r : Int) (w : World) : Calls Tryd.prog 38 #[.int .i32 r] w fun e w' => e = .returned (.bool (decide (LetterP r))) ∧ w' = w := by
  go_enter Tryd.func38, Tryd.ntmps38
  go_wp2
  all_goals
    go_ret
    refine ⟨ret_bool ?_, rfl⟩
    try simp only [beq_iff_eq, beq_eq_false_iff_ne, ne_eq] at *
    first | exact (decide_eq_true (by unfold LetterP; omega)).symm | exact (decide_eq_false (by unfold LetterP; omega)).symm

theorem space_yes (r : Int) (w : World) (h : SpaceP r) : Calls Tryd.prog 37 #[.int .i32 r] w fun e w' => e = .returned (.bool true) ∧ w' = w :=
  (isSpace_any r w).mono fun _ _ ⟨he, hw⟩ => ⟨by rw [he, decide_eq_true h], hw⟩
theorem space_no (r : Int) (w : World) (h : ¬ SpaceP r) : Calls Tryd.prog 37 #[.int .i32 r] w fun e w' => e = .returned (.bool false) ∧ w' = w :=
  (isSpace_any r w).mono fun _ _ ⟨he, hw⟩ => ⟨by rw [he, decide_eq_false h], hw⟩
theorem letter_yes (r : Int) (w : World) (h : LetterP r) : Calls Tryd.prog 38 #[.int .i32 r] w fun e w' => e = .returned (.bool true) ∧ w' = w :=
  (isLetter_any r w).mono fun _ _ ⟨he, hw⟩ => ⟨by rw [he, decide_eq_true h], hw⟩
theorem letter_no (r : Int) (w : World) (h : ¬ LetterP r) : Calls Tryd.prog 38 #[.int .i32 r] w fun e w' => e = .returned (.bool false) ∧ w' = w :=
  (isLetter_any r w).mono fun _ _ ⟨he, hw⟩ => ⟨by rw [he, decide_eq_false h], hw⟩

set_option maxHeartbeats 1000000 in
theorem class_any (r : Int) (w : World) : Calls Tryd.prog 27 #[.int .i32 r] w fun e w' => e = .returned (.int .i64 (classZ r)) ∧ w = w' := by
  by_cases hd : 48 ≤ r ∧ r ≤ 57
  · have hz : classZ r = 2 := by unfold classZ; rw [if_pos hd]
    rw [hz]; clear hz
    obtain ⟨h1, h2⟩ := hd
    go_enter Tryd.func27, Tryd.ntmps27
    go_wp2
    go_ret
    exact ⟨rfl, rfl⟩
  · by_cases hs : SpaceP r
    · have hz : classZ r = 3 := by unfold classZ; rw [if_neg hd, if_pos hs]
      rw [hz]; clear hz
      have c := space_yes r w hs
      go_enter Tryd.func27, Tryd.ntmps27
      go_wp2_with (go_at_call 37; refine c.mono ?_; rintro e w' ⟨rfl, rfl⟩)
      all_goals first | (go_ret; exact ⟨rfl, rfl⟩) | (exfalso; simp at *; omega)
    · have c := space_no r w hs
      by_cases hl : LetterP r
      · have hz : classZ r = 1 := by unfold classZ; rw [if_neg hd, if_neg hs, if_pos hl]
        rw [hz]; clear hz
        have c2 := letter_yes r w hl
        go_enter Tryd.func27, Tryd.ntmps27
        go_wp2_with first | (go_at_call 37; refine c.mono ?_; rintro e w' ⟨rfl, rfl⟩) | (go_at_call 38; refine c2.mono ?_; rintro e w' ⟨rfl, rfl⟩)
        all_goals first | (go_ret; exact ⟨rfl, rfl⟩) | (exfalso; simp at *; omega)
      · have hz : classZ r = 0 := by unfold classZ; rw [if_neg hd, if_neg hs, if_neg hl]
        rw [hz]; clear hz
        have c2 := letter_no r w hl
        go_enter Tryd.func27, Tryd.ntmps27
        go_wp2_with first | (go_at_call 37; refine c.mono ?_; rintro e w' ⟨rfl, rfl⟩) | (go_at_call 38; refine c2.mono ?_; rintro e w' ⟨rfl, rfl⟩)
        all_goals first | (go_ret; exact ⟨rfl, rfl⟩) | (exfalso; simp at *; omega)

theorem upper_low {r : Int} (h : LowP r) : upperZ r = r - 32 := by unfold upperZ; rw [if_pos h]
theorem upper_same {r : Int} (h : ¬ LowP r) (h2 : r ≠ 962) : upperZ r = r := by unfold upperZ; rw [if_neg h, if_neg h2]
theorem upper_962 : upperZ 962 = 931 := by decide

set_option maxHeartbeats 1000000 in
theorem upper_any (r : Int) (w : World) : Calls Tryd.prog 29 #[.int .i32 r] w fun e w' => e = .returned (.int .i32 (upperZ r)) ∧ w = w' := by
  go_enter Tryd.func29, Tryd.ntmps29
  go_wp2
  all_goals
    go_ret
    refine ⟨ret_int ?_, rfl⟩
    try simp only [beq_iff_eq, beq_eq_false_iff_ne, ne_eq] at *
    first
    | exact (upper_low (by unfold LowP; omega)).symm
    | exact (upper_same (by unfold LowP; omega) (by omega)).symm
    | (subst r; exact upper_962.symm)

theorem class_2 {r : Int} (h : 48 ≤ r ∧ r ≤ 57) : classZ r = 2 := by unfold classZ; rw [if_pos h]
theorem class_3 {r : Int} (h : SpaceP r) : classZ r = 3 := by unfold classZ; rw [if_neg (by unfold SpaceP at h; omega), if_pos h]
theorem class_1 {r : Int} (h : LetterP r) : classZ r = 1 := by unfold classZ; rw [if_neg (by unfold LetterP at h; omega), if_neg (by unfold LetterP at h; unfold SpaceP; omega), if_pos h]
theorem class_0 {r : Int} (h : ¬ (48 ≤ r ∧ r ≤ 57)) (h2 : ¬ SpaceP r) (h3 : ¬ LetterP r) : classZ r = 0 := by unfold classZ; rw [if_neg h, if_neg h2, if_neg h3]
end Go.Proofs.YtocejllclpdnnaaDoor
