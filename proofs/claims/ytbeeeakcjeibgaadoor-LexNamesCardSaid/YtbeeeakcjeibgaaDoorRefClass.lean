/- Contracts of the document's own Class: for every int32 it returns the number that the plain function gives; nothing in memory turns. -/
import Derived.Test.YtbeeeakcjeibgaaDoorNum
namespace Go.Proofs.YtbeeeakcjeibgaaDoor
open Go.RowKit

set_option maxHeartbeats 2000000 in
theorem refClass_any (r : Int) (w : World) : Calls Tryd.prog 46 #[.int .i32 r] w fun e w' => e = .returned (.int .i64 (classZ r)) ∧ w = w' := by
  go_enter Tryd.func46, Tryd.ntmps46
  go_wp2
  all_goals
    go_ret
    refine ⟨ret_int ?_, rfl⟩
    try simp only [beq_iff_eq, beq_eq_false_iff_ne, bne_iff_ne, bne_eq_false_iff_eq, ne_eq] at *
    first
    | exact (class_2 (by omega)).symm
    | exact (class_3 (by unfold SpaceP; omega)).symm
    | exact (class_1 (by unfold LetterP; omega)).symm
    | exact (class_0 (by omega) (by unfold SpaceP; omega) (by unfold LetterP; omega)).symm
end Go.Proofs.YtbeeeakcjeibgaaDoor
