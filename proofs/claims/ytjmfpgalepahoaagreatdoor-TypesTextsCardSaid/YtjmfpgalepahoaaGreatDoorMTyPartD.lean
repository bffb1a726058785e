/- types.part: more operations. -/
import Derived.Test.YtjmfpgalepahoaaGreatDoorGT
namespace Go.Proofs.YtjmfpgalepahoaaGreatDoor
open Go.RowKit
set_option linter.unusedSimpArgs false

set_option maxHeartbeats 1000000 in
set_option maxRecDepth 100000 in
theorem tpart_12 (w : World) (g cap : Nat) (a b : Int) (c0 : w.cell? ⟨g, 0, none⟩ = some (.int .i64 a)) (c1 : w.cell? ⟨g, 1, none⟩ = some (.int .i64 b)) :
    Calls Tryz.prog 85 #[.int .i64 12, (.slice (some ⟨g, 0, none⟩) 2 cap)] w fun e w' => e = .returned (.int .i64 (partT 12 [a, b])) ∧ Below w.heap.size w w' := by
  go_enter Tryz.func85, Tryz.ntmps85
  go_wp2_with fail
  go_region_with (go_at_call 159; refine (tonly_any a b 2 _).mono ?_; rintro e wy ⟨rfl, rfl⟩)
  all_goals
    go_wp2_with fail
    go_ret
    exact ⟨by rw [show partT 12 [a, b] = onlyT a b 2 by simp [partT, onlyT]]; rfl, by first | exact Below.refl _ _ | exact below_drewN (Below.refl _ _) _ | exact below_drewN (below_drewN (Below.refl _ _) _) _⟩

set_option maxHeartbeats 1000000 in
set_option maxRecDepth 100000 in
theorem tpart_13 (w : World) (g cap : Nat) (a b : Int) (c0 : w.cell? ⟨g, 0, none⟩ = some (.int .i64 a)) (c1 : w.cell? ⟨g, 1, none⟩ = some (.int .i64 b)) :
    Calls Tryz.prog 85 #[.int .i64 13, (.slice (some ⟨g, 0, none⟩) 2 cap)] w fun e w' => e = .returned (.int .i64 (partT 13 [a, b])) ∧ Below w.heap.size w w' := by
  go_enter Tryz.func85, Tryz.ntmps85
  go_wp2_with fail
  go_region_with (go_at_call 159; refine (tonly_any a b 2 _).mono ?_; rintro e wy ⟨rfl, rfl⟩)
  all_goals
    go_wp2_with fail
    go_ret
    exact ⟨by rw [show partT 13 [a, b] = onlyT a b 2 by simp [partT, onlyT]]; rfl, by first | exact Below.refl _ _ | exact below_drewN (Below.refl _ _) _ | exact below_drewN (below_drewN (Below.refl _ _) _) _⟩

set_option maxHeartbeats 1000000 in
set_option maxRecDepth 100000 in
theorem tpart_14 (w : World) (g cap : Nat) (a b : Int) (c0 : w.cell? ⟨g, 0, none⟩ = some (.int .i64 a)) (c1 : w.cell? ⟨g, 1, none⟩ = some (.int .i64 b)) :
    Calls Tryz.prog 85 #[.int .i64 14, (.slice (some ⟨g, 0, none⟩) 2 cap)] w fun e w' => e = .returned (.int .i64 (partT 14 [a, b])) ∧ Below w.heap.size w w' := by
  by_cases ha : a = 2
  · subst ha
    go_enter Tryz.func85, Tryz.ntmps85
    go_wp2_with fail
    go_ret
    exact ⟨by simp [partT, onlyT], Below.refl _ _⟩
  · have hab : (a == 2) = false := beq_eq_false_iff_ne.2 ha
    go_enter Tryz.func85, Tryz.ntmps85
    go_wp2_with fail
    go_region_with (go_at_call 159; refine (tonly_any a b 2 _).mono ?_; rintro e wy ⟨rfl, rfl⟩)
    all_goals
      go_wp2_with fail
      go_ret
      exact ⟨by rw [show partT 14 [a, b] = onlyT a b 2 by simp [partT, onlyT, ha]]; rfl, by first | exact Below.refl _ _ | exact below_drewN (Below.refl _ _) _ | exact below_drewN (below_drewN (Below.refl _ _) _) _⟩

set_option maxHeartbeats 1000000 in
set_option maxRecDepth 100000 in
theorem tpart_15 (w : World) (g cap : Nat) (a b : Int) (c0 : w.cell? ⟨g, 0, none⟩ = some (.int .i64 a)) (c1 : w.cell? ⟨g, 1, none⟩ = some (.int .i64 b)) :
    Calls Tryz.prog 85 #[.int .i64 15, (.slice (some ⟨g, 0, none⟩) 2 cap)] w fun e w' => e = .returned (.int .i64 (partT 15 [a, b])) ∧ Below w.heap.size w w' := by
  by_cases ha : a = 2
  · subst ha
    go_enter Tryz.func85, Tryz.ntmps85
    go_wp2_with fail
    go_ret
    exact ⟨by simp [partT, onlyT], Below.refl _ _⟩
  · have hab : (a == 2) = false := beq_eq_false_iff_ne.2 ha
    go_enter Tryz.func85, Tryz.ntmps85
    go_wp2_with fail
    go_region_with (go_at_call 159; refine (tonly_any a b 2 _).mono ?_; rintro e wy ⟨rfl, rfl⟩)
    all_goals
      go_wp2_with fail
      go_ret
      exact ⟨by rw [show partT 15 [a, b] = onlyT a b 2 by simp [partT, onlyT, ha]]; rfl, by first | exact Below.refl _ _ | exact below_drewN (Below.refl _ _) _ | exact below_drewN (below_drewN (Below.refl _ _) _) _⟩
end Go.Proofs.YtjmfpgalepahoaaGreatDoor
