/- types.part: more operations. -/
import Derived.Test.YtjmfpgalepahoaaGreatDoorGT
namespace Go.Proofs.YtjmfpgalepahoaaGreatDoor
open Go.RowKit
set_option linter.unusedSimpArgs false

set_option maxHeartbeats 1000000 in
set_option maxRecDepth 100000 in
theorem tpart_16 (w : World) (g cap : Nat) (a b : Int) (c0 : w.cell? ⟨g, 0, none⟩ = some (.int .i64 a)) (c1 : w.cell? ⟨g, 1, none⟩ = some (.int .i64 b)) :
    Calls Tryz.prog 85 #[.int .i64 16, (.slice (some ⟨g, 0, none⟩) 2 cap)] w fun e w' => e = .returned (.int .i64 (partT 16 [a, b])) ∧ Below w.heap.size w w' := by
  by_cases hb : b = 2
  · subst hb
    go_enter Tryz.func85, Tryz.ntmps85
    go_wp2_with fail
    refine (tonly_any 2 a 2 w).mono ?_
    rintro e w1 ⟨rfl, rfl⟩
    go_wp2_with fail
    go_ret
    exact ⟨by by_cases h : a = 2 <;> simp [partT, onlyT, h, eq_comm], Below.refl _ _⟩
  · have hbb : (b == 2) = false := beq_eq_false_iff_ne.2 hb
    go_enter Tryz.func85, Tryz.ntmps85
    go_wp2_with fail
    go_ret
    exact ⟨by simp [partT, onlyT, hb], Below.refl _ _⟩

set_option maxHeartbeats 1000000 in
set_option maxRecDepth 100000 in
theorem tpart_17 (w : World) (g cap : Nat) (a b : Int) (c0 : w.cell? ⟨g, 0, none⟩ = some (.int .i64 a)) (c1 : w.cell? ⟨g, 1, none⟩ = some (.int .i64 b)) :
    Calls Tryz.prog 85 #[.int .i64 17, (.slice (some ⟨g, 0, none⟩) 2 cap)] w fun e w' => e = .returned (.int .i64 (partT 17 [a, b])) ∧ Below w.heap.size w w' := by
  by_cases hb : b = 2
  · subst hb
    go_enter Tryz.func85, Tryz.ntmps85
    go_wp2_with fail
    refine (tonly_any 2 a 2 w).mono ?_
    rintro e w1 ⟨rfl, rfl⟩
    go_wp2_with fail
    go_ret
    exact ⟨by by_cases h : a = 2 <;> simp [partT, onlyT, h, eq_comm], Below.refl _ _⟩
  · have hbb : (b == 2) = false := beq_eq_false_iff_ne.2 hb
    go_enter Tryz.func85, Tryz.ntmps85
    go_wp2_with fail
    go_ret
    exact ⟨by simp [partT, onlyT, hb], Below.refl _ _⟩

set_option maxHeartbeats 1000000 in
set_option maxRecDepth 100000 in
theorem tpart_20 (w : World) (g cap : Nat) (a b : Int) (c0 : w.cell? ⟨g, 0, none⟩ = some (.int .i64 a)) (c1 : w.cell? ⟨g, 1, none⟩ = some (.int .i64 b)) :
    Calls Tryz.prog 85 #[.int .i64 20, (.slice (some ⟨g, 0, none⟩) 2 cap)] w fun e w' => e = .returned (.int .i64 (partT 20 [a, b])) ∧ Below w.heap.size w w' := by
  by_cases hb : b = 3
  · subst hb
    go_enter Tryz.func85, Tryz.ntmps85
    go_wp2_with fail
    refine (tonly_any 3 a 3 w).mono ?_
    rintro e w1 ⟨rfl, rfl⟩
    go_wp2_with fail
    go_ret
    exact ⟨by by_cases h : a = 3 <;> simp [partT, onlyT, h, eq_comm], Below.refl _ _⟩
  · have hbb : (b == 3) = false := beq_eq_false_iff_ne.2 hb
    go_enter Tryz.func85, Tryz.ntmps85
    go_wp2_with fail
    go_ret
    exact ⟨by simp [partT, onlyT, hb], Below.refl _ _⟩

set_option maxHeartbeats 1000000 in
set_option maxRecDepth 100000 in
theorem tpart_21 (w : World) (g cap : Nat) (a b : Int) (c0 : w.cell? ⟨g, 0, none⟩ = some (.int .i64 a)) (c1 : w.cell? ⟨g, 1, none⟩ = some (.int .i64 b)) :
    Calls Tryz.prog 85 #[.int .i64 21, (.slice (some ⟨g, 0, none⟩) 2 cap)] w fun e w' => e = .returned (.int .i64 (partT 21 [a, b])) ∧ Below w.heap.size w w' := by
  by_cases hb : b = 1
  · subst hb
    go_enter Tryz.func85, Tryz.ntmps85
    go_wp2_with fail
    refine (tonly_any 3 a 3 w).mono ?_
    rintro e w1 ⟨rfl, rfl⟩
    go_wp2_with fail
    go_ret
    exact ⟨by by_cases h : a = 3 <;> simp [partT, onlyT, h, eq_comm], Below.refl _ _⟩
  · have hbb : (b == 1) = false := beq_eq_false_iff_ne.2 hb
    go_enter Tryz.func85, Tryz.ntmps85
    go_wp2_with fail
    go_ret
    exact ⟨by simp [partT, onlyT, hb], Below.refl _ _⟩
end Go.Proofs.YtjmfpgalepahoaaGreatDoor
