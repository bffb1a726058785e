/- types.part: more operations. -/
import Derived.Test.YtjmfpgalepahoaaGreatDoorGT
namespace Go.Proofs.YtjmfpgalepahoaaGreatDoor
open Go.RowKit
set_option linter.unusedSimpArgs false

set_option maxHeartbeats 1000000 in
set_option maxRecDepth 100000 in
theorem tpart_7 (w : World) (g cap : Nat) (a b : Int) (c0 : w.cell? ⟨g, 0, none⟩ = some (.int .i64 a)) (c1 : w.cell? ⟨g, 1, none⟩ = some (.int .i64 b)) :
    Calls Tryz.prog 85 #[.int .i64 7, (.slice (some ⟨g, 0, none⟩) 2 cap)] w fun e w' => e = .returned (.int .i64 (partT 7 [a, b])) ∧ Below w.heap.size w w' := by
  by_cases hb : b = 1
  · subst hb
    go_enter Tryz.func85, Tryz.ntmps85
    go_wp2_with fail
    refine (tonly_any 1 a 1 w).mono ?_
    rintro e w1 ⟨rfl, rfl⟩
    go_wp2_with fail
    go_ret
    exact ⟨by by_cases h : a = 1 <;> simp [partT, onlyT, h, eq_comm], Below.refl _ _⟩
  · have hbb : (b == 1) = false := beq_eq_false_iff_ne.2 hb
    go_enter Tryz.func85, Tryz.ntmps85
    go_wp2_with fail
    go_ret
    exact ⟨by simp [partT, onlyT, hb], Below.refl _ _⟩

set_option maxHeartbeats 1000000 in
set_option maxRecDepth 100000 in
theorem tpart_8 (w : World) (g cap : Nat) (a b : Int) (c0 : w.cell? ⟨g, 0, none⟩ = some (.int .i64 a)) (c1 : w.cell? ⟨g, 1, none⟩ = some (.int .i64 b)) :
    Calls Tryz.prog 85 #[.int .i64 8, (.slice (some ⟨g, 0, none⟩) 2 cap)] w fun e w' => e = .returned (.int .i64 (partT 8 [a, b])) ∧ Below w.heap.size w w' := by
  by_cases hb : b = 1
  · subst hb
    go_enter Tryz.func85, Tryz.ntmps85
    go_wp2_with fail
    refine (tonly_any 1 a 1 w).mono ?_
    rintro e w1 ⟨rfl, rfl⟩
    go_wp2_with fail
    go_ret
    exact ⟨by by_cases h : a = 1 <;> simp [partT, onlyT, h, eq_comm], Below.refl _ _⟩
  · have hbb : (b == 1) = false := beq_eq_false_iff_ne.2 hb
    go_enter Tryz.func85, Tryz.ntmps85
    go_wp2_with fail
    go_ret
    exact ⟨by simp [partT, onlyT, hb], Below.refl _ _⟩

set_option maxHeartbeats 1000000 in
set_option maxRecDepth 100000 in
theorem tpart_9 (w : World) (g cap : Nat) (a b : Int) (c0 : w.cell? ⟨g, 0, none⟩ = some (.int .i64 a)) (c1 : w.cell? ⟨g, 1, none⟩ = some (.int .i64 b)) :
    Calls Tryz.prog 85 #[.int .i64 9, (.slice (some ⟨g, 0, none⟩) 2 cap)] w fun e w' => e = .returned (.int .i64 (partT 9 [a, b])) ∧ Below w.heap.size w w' := by
  by_cases hb : b = 1
  · subst hb
    go_enter Tryz.func85, Tryz.ntmps85
    go_wp2_with fail
    refine (tonly_any 1 a 1 w).mono ?_
    rintro e w1 ⟨rfl, rfl⟩
    go_wp2_with fail
    go_ret
    exact ⟨by by_cases h : a = 1 <;> simp [partT, onlyT, h, eq_comm], Below.refl _ _⟩
  · have hbb : (b == 1) = false := beq_eq_false_iff_ne.2 hb
    go_enter Tryz.func85, Tryz.ntmps85
    go_wp2_with fail
    go_ret
    exact ⟨by simp [partT, onlyT, hb], Below.refl _ _⟩

set_option maxHeartbeats 1000000 in
set_option maxRecDepth 100000 in
theorem tpart_10 (w : World) (g cap : Nat) (a b : Int) (c0 : w.cell? ⟨g, 0, none⟩ = some (.int .i64 a)) (c1 : w.cell? ⟨g, 1, none⟩ = some (.int .i64 b)) :
    Calls Tryz.prog 85 #[.int .i64 10, (.slice (some ⟨g, 0, none⟩) 2 cap)] w fun e w' => e = .returned (.int .i64 (partT 10 [a, b])) ∧ Below w.heap.size w w' := by
  by_cases hb : b = 1
  · subst hb
    go_enter Tryz.func85, Tryz.ntmps85
    go_wp2_with fail
    refine (tonly_any 1 a 1 w).mono ?_
    rintro e w1 ⟨rfl, rfl⟩
    go_wp2_with fail
    go_ret
    exact ⟨by by_cases h : a = 1 <;> simp [partT, onlyT, h, eq_comm], Below.refl _ _⟩
  · have hbb : (b == 1) = false := beq_eq_false_iff_ne.2 hb
    go_enter Tryz.func85, Tryz.ntmps85
    go_wp2_with fail
    go_ret
    exact ⟨by simp [partT, onlyT, hb], Below.refl _ _⟩

set_option maxHeartbeats 1000000 in
set_option maxRecDepth 100000 in
theorem tpart_11 (w : World) (g cap : Nat) (a b : Int) (c0 : w.cell? ⟨g, 0, none⟩ = some (.int .i64 a)) (c1 : w.cell? ⟨g, 1, none⟩ = some (.int .i64 b)) :
    Calls Tryz.prog 85 #[.int .i64 11, (.slice (some ⟨g, 0, none⟩) 2 cap)] w fun e w' => e = .returned (.int .i64 (partT 11 [a, b])) ∧ Below w.heap.size w w' := by
  by_cases hb : b = 1
  · subst hb
    go_enter Tryz.func85, Tryz.ntmps85
    go_wp2_with fail
    refine (tonly_any 1 a 1 w).mono ?_
    rintro e w1 ⟨rfl, rfl⟩
    go_wp2_with fail
    go_ret
    exact ⟨by by_cases h : a = 1 <;> simp [partT, onlyT, h, eq_comm], Below.refl _ _⟩
  · have hbb : (b == 1) = false := beq_eq_false_iff_ne.2 hb
    go_enter Tryz.func85, Tryz.ntmps85
    go_wp2_with fail
    go_ret
    exact ⟨by simp [partT, onlyT, hb], Below.refl _ _⟩
end Go.Proofs.YtjmfpgalepahoaaGreatDoor
