/- The contract of runes.Class: for every int32 it returns the number that the plain function classZ gives; nothing in memory turns. -/
import Derived.Test.YtbeeeakcjeibgaaDoorFold
import Derived.Test.YtbeeeakcjeibgaaDoorCls
import Derived.WalkKit
import Derived.WalkMore
import Derived.WalkLawsBesides
import Derived.WalkSpells
import Derived.Below
import Derived.Lib.Hide
namespace Go.Proofs.YtbeeeakcjeibgaaDoor
open Go.RowKit

set_option maxHeartbeats 400000 in
theorem isSpace_any (r : Int) (w : World) : Calls Tryd.prog 38 #[.int .i32 r] w fun e w' => e = .returned (.bool (decide (SpaceP r))) ∧ w' = w := by
  go_enter Tryd.func38, Tryd.ntmps38
  go_wp2
  all_goals
    go_ret
    refine ⟨ret_bool ?_, rfl⟩
    simp only [beq_iff_eq, beq_eq_false_iff_ne, ne_eq] at *
    first | exact (decide_eq_true (by unfold SpaceP; omega)).symm | exact (decide_eq_false (by unfold SpaceP; omega)).symm

set_option maxHeartbeats 1000000 in
theorem isLetter_any (r : Int) (w : World) : Calls Tryd.prog 39 #[.int .i32 r] w fun e w' => e = .returned (.bool (decide (LetterP r))) ∧ w' = w := by
  go_enter Tryd.func39, Tryd.ntmps39
  go_wp2
  all_goals
    go_ret
    refine ⟨ret_bool ?_, rfl⟩
    try simp only [beq_iff_eq, beq_eq_false_iff_ne, ne_eq] at *
    first | exact (decide_eq_true (by unfold LetterP; omega)).symm | exact (decide_eq_false (by unfold LetterP; omega)).symm

theorem space_yes (r : Int) (w : World) (h : SpaceP r) : Calls Tryd.prog 38 #[.int .i32 r] w fun e w' => e = .returned (.bool true) ∧ w' = w :=
  (isSpace_any r w).mono fun _ _ ⟨he, hw⟩ => ⟨by rw [he, decide_eq_true h], hw⟩
theorem space_no (r : Int) (w : World) (h : ¬ SpaceP r) : Calls Tryd.prog 38 #[.int .i32 r] w fun e w' => e = .returned (.bool false) ∧ w' = w :=
  (isSpace_any r w).mono fun _ _ ⟨he, hw⟩ => ⟨by rw [he, decide_eq_false h], hw⟩
theorem letter_yes (r : Int) (w : World) (h : LetterP r) : Calls Tryd.prog 39 #[.int .i32 r] w fun e w' => e = .returned (.bool true) ∧ w' = w :=
  (isLetter_any r w).mono fun _ _ ⟨he, hw⟩ => ⟨by rw [he, decide_eq_true h], hw⟩
theorem letter_no (r : Int) (w : World) (h : ¬ LetterP r) : Calls Tryd.prog 39 #[.int .i32 r] w fun e w' => e = .returned (.bool false) ∧ w' = w :=
  (isLetter_any r w).mono fun _ _ ⟨he, hw⟩ => ⟨by rw [he, decide_eq_false h], hw⟩

set_option maxHeartbeats 1000000 in
theorem class_any (r : Int) (w : World) : Calls Tryd.prog 20 #[.int .i32 r] w fun e w' => e = .returned (.int .i64 (classZ r)) ∧ w = w' := by
  by_cases hd : 48 ≤ r ∧ r ≤ 57
  · have hz : classZ r = 2 := by unfold classZ; rw [if_pos hd]
    rw [hz]; clear hz
    obtain ⟨h1, h2⟩ := hd
    go_enter Tryd.func20, Tryd.ntmps20
    go_wp2
    go_ret
    exact ⟨rfl, rfl⟩
  · by_cases hs : SpaceP r
    · have hz : classZ r = 3 := by unfold classZ; rw [if_neg hd, if_pos hs]
      rw [hz]; clear hz
      have c := space_yes r w hs
      go_enter Tryd.func20, Tryd.ntmps20
      go_wp2_with (go_at_call 38; refine c.mono ?_; rintro e w' ⟨rfl, rfl⟩)
      all_goals first | (go_ret; exact ⟨rfl, rfl⟩) | (exfalso; simp at *; omega)
    · have c := space_no r w hs
      by_cases hl : LetterP r
      · have hz : classZ r = 1 := by unfold classZ; rw [if_neg hd, if_neg hs, if_pos hl]
        rw [hz]; clear hz
        have c2 := letter_yes r w hl
        go_enter Tryd.func20, Tryd.ntmps20
        go_wp2_with first | (go_at_call 38; refine c.mono ?_; rintro e w' ⟨rfl, rfl⟩) | (go_at_call 39; refine c2.mono ?_; rintro e w' ⟨rfl, rfl⟩)
        all_goals first | (go_ret; exact ⟨rfl, rfl⟩) | (exfalso; simp at *; omega)
      · have hz : classZ r = 0 := by unfold classZ; rw [if_neg hd, if_neg hs, if_neg hl]
        rw [hz]; clear hz
        have c2 := letter_no r w hl
        go_enter Tryd.func20, Tryd.ntmps20
        go_wp2_with first | (go_at_call 38; refine c.mono ?_; rintro e w' ⟨rfl, rfl⟩) | (go_at_call 39; refine c2.mono ?_; rintro e w' ⟨rfl, rfl⟩)
        all_goals first | (go_ret; exact ⟨rfl, rfl⟩) | (exfalso; simp at *; omega)

end Go.Proofs.YtbeeeakcjeibgaaDoor
