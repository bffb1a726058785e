/- types.part: more operations. -/
import Derived.Test.YtjmfpgalepahoaaGreatDoorGT
namespace Go.Proofs.YtjmfpgalepahoaaGreatDoor
open Go.RowKit
set_option linter.unusedSimpArgs false

set_option maxHeartbeats 1000000 in
set_option maxRecDepth 100000 in
theorem tpart_18 (w : World) (g cap : Nat) (a b c : Int) (c0 : w.cell? ⟨g, 0, none⟩ = some (.int .i64 a)) (c1 : w.cell? ⟨g, 1, none⟩ = some (.int .i64 b)) (c2 : w.cell? ⟨g, 2, none⟩ = some (.int .i64 c)) :
    Calls Tryz.prog 85 #[.int .i64 18, (.slice (some ⟨g, 0, none⟩) 3 cap)] w fun e w' => e = .returned (.int .i64 (partT 18 [a, b, c])) ∧ Below w.heap.size w w' := by
  by_cases ha : a = 2
  · subst ha
    go_enter Tryz.func85, Tryz.ntmps85
    go_wp2_with fail
    go_region_with (go_at_call 159; refine (tonly_any b c b _).mono ?_; rintro e wy ⟨rfl, rfl⟩)
    all_goals
      go_wp2_with fail
      go_ret
      exact ⟨by rw [show partT 18 [2, b, c] = onlyT b c b by simp [partT, onlyT]]; rfl, by first | exact Below.refl _ _ | exact below_drewN (Below.refl _ _) _ | exact below_drewN (below_drewN (Below.refl _ _) _) _⟩
  · have hab : (a == 2) = false := beq_eq_false_iff_ne.2 ha
    go_enter Tryz.func85, Tryz.ntmps85
    go_wp2_with fail
    go_ret
    exact ⟨by simp [partT, onlyT, ha], Below.refl _ _⟩

set_option maxHeartbeats 1000000 in
set_option maxRecDepth 100000 in
theorem tpart_1 (w : World) (ao : Option Addr) (cap : Nat) :
    Calls Tryz.prog 85 #[.int .i64 1, (.slice ao 0 cap)] w fun e w' => e = .returned (.int .i64 (partT 1 [])) ∧ Below w.heap.size w w' := by
  go_enter Tryz.func85, Tryz.ntmps85
  go_wp2_with fail
  go_ret
  exact ⟨by first | rfl | simp [partT, onlyT], Below.refl _ _⟩

set_option maxHeartbeats 1000000 in
set_option maxRecDepth 100000 in
theorem tpart_2 (w : World) (ao : Option Addr) (cap : Nat) :
    Calls Tryz.prog 85 #[.int .i64 2, (.slice ao 0 cap)] w fun e w' => e = .returned (.int .i64 (partT 2 [])) ∧ Below w.heap.size w w' := by
  go_enter Tryz.func85, Tryz.ntmps85
  go_wp2_with fail
  go_ret
  exact ⟨by first | rfl | simp [partT, onlyT], Below.refl _ _⟩

set_option maxHeartbeats 1000000 in
set_option maxRecDepth 100000 in
theorem tpart_3 (w : World) (ao : Option Addr) (cap : Nat) :
    Calls Tryz.prog 85 #[.int .i64 3, (.slice ao 0 cap)] w fun e w' => e = .returned (.int .i64 (partT 3 [])) ∧ Below w.heap.size w w' := by
  go_enter Tryz.func85, Tryz.ntmps85
  go_wp2_with fail
  go_ret
  exact ⟨by first | rfl | simp [partT, onlyT], Below.refl _ _⟩

set_option maxHeartbeats 1000000 in
set_option maxRecDepth 100000 in
theorem tpart_5 (w : World) (g cap : Nat) (a : Int) (c0 : w.cell? ⟨g, 0, none⟩ = some (.int .i64 a)) :
    Calls Tryz.prog 85 #[.int .i64 5, (.slice (some ⟨g, 0, none⟩) 1 cap)] w fun e w' => e = .returned (.int .i64 (partT 5 [a])) ∧ Below w.heap.size w w' := by
  go_enter Tryz.func85, Tryz.ntmps85
  go_wp2_with fail
  refine (tonly_any 1 a 1 w).mono ?_
  rintro e w1 ⟨rfl, rfl⟩
  go_wp2_with fail
  go_ret
  exact ⟨by by_cases h : a = 1 <;> simp [partT, onlyT, h, eq_comm], Below.refl _ _⟩

set_option maxHeartbeats 1000000 in
set_option maxRecDepth 100000 in
theorem tpart_6 (w : World) (g cap : Nat) (a : Int) (c0 : w.cell? ⟨g, 0, none⟩ = some (.int .i64 a)) :
    Calls Tryz.prog 85 #[.int .i64 6, (.slice (some ⟨g, 0, none⟩) 1 cap)] w fun e w' => e = .returned (.int .i64 (partT 6 [a])) ∧ Below w.heap.size w w' := by
  go_enter Tryz.func85, Tryz.ntmps85
  go_wp2_with fail
  refine (tonly_any 2 a 2 w).mono ?_
  rintro e w1 ⟨rfl, rfl⟩
  go_wp2_with fail
  go_ret
  exact ⟨by by_cases h : a = 2 <;> simp [partT, onlyT, h, eq_comm], Below.refl _ _⟩
end Go.Proofs.YtjmfpgalepahoaaGreatDoor
