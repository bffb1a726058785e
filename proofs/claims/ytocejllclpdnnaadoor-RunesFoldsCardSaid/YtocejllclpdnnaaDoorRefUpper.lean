/- Contracts of the document's own Upper: for every int32 it returns the number that the plain function gives; nothing in memory turns. -/
import Derived.Test.YtocejllclpdnnaaDoorNum
namespace Go.Proofs.YtocejllclpdnnaaDoor
open Go.RowKit

set_option maxHeartbeats 2000000 in
theorem refUpper_any (r : Int) (w : World) : Calls Tryd.prog 30 #[.int .i32 r] w fun e w' => e = .returned (.int .i32 (upperZ r)) ∧ w = w' := by
  go_enter Tryd.func30, Tryd.ntmps30
  go_wp2
  all_goals
    go_ret
    refine ⟨ret_int ?_, rfl⟩
    try simp only [beq_iff_eq, beq_eq_false_iff_ne, ne_eq] at *
    first
    | exact (upper_low (by unfold LowP; omega)).symm
    | exact (upper_same (by unfold LowP; omega) (by omega)).symm
    | (subst r; decide)
end Go.Proofs.YtocejllclpdnnaaDoor
