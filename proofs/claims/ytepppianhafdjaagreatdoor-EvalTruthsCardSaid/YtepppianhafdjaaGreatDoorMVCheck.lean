/- The contract of value.Check: whatever the value, whether it may be. -/
import Derived.Test.YtepppianhafdjaaGreatDoorGW
import Derived.Test.YtepppianhafdjaaGreatDoorGB
namespace Go.Proofs.YtepppianhafdjaaGreatDoor
open Go.RowKit

set_option maxHeartbeats 1000000 in
theorem check_text (s : ByteArray) (w : World) (hs : s.size < 9223372036854775807) (hT : Tabs w) :
    Calls Tryz.prog 36 #[V3 3 0 s] w fun e w' => e = .returned (.bool (checkB 3 0 s.data.toList)) ∧ Below w.heap.size w w' := by
  have hC : checkB 3 0 s.data.toList = (validL s.data.toList && decide (countL s.data.toList ≤ 100)) := by simp [checkB]
  rw [hC]; clear hC
  have cN : ∀ w, Calls Tryz.prog 51 #[.string s] w fun e w' => e = .returned (.int .i64 ((countL s.data.toList : Nat) : Int)) ∧ Below w.heap.size w w' := fun w => by
    have := count_any s w hs; rwa [runeCount_eq] at this
  obtain ⟨Z, hZ⟩ : ∃ Z, validL s.data.toList = Z := ⟨_, rfl⟩
  obtain ⟨N, hN⟩ : ∃ N, countL s.data.toList = N := ⟨_, rfl⟩
  have cV := fun w (hT : Tabs w) => valid_any s w (by omega) hT
  rw [hZ] at cV ⊢
  rw [hN] at cN ⊢
  have hb0 : Below w.heap.size w (w.alloc (.cells #[.int .i64 3, .int .i64 0, .string s] 23)) := (Below.refl _ _).alloc (Nat.le_refl _) _
  have hT1 : Tabs (w.alloc (.cells #[.int .i64 3, .int .i64 0, .string s] 23)) := hT.later hb0
  clear hZ hN
  cases Z
  · go_enter Tryz.func36, Tryz.ntmps36
    go_wp2_with fail
    refine (cV _ hT1).mono ?_
    rintro e w1 ⟨rfl, hb1⟩
    go_wp2
    go_ret
    exact ⟨rfl, hb0.trans (hb1.mono (by simp))⟩
  · go_enter Tryz.func36, Tryz.ntmps36
    go_wp2_with fail
    refine (cV _ hT1).mono ?_
    rintro e w1 ⟨rfl, hb1⟩
    have hb2 := hb0.trans (hb1.mono (by simp))
    have hc : w1.cell? ⟨w.heap.size, 2, none⟩ = some (.string s) := by
      rw [hb1.cell (p := ⟨w.heap.size, 2, none⟩) (by simp), cells_of_alloc]; rfl
    clear hb1 hb0
    go_wp2_with fail
    refine (cN _).mono ?_
    rintro e w2 ⟨rfl, hb3⟩
    go_wp2
    go_ret
    refine ⟨ret_bool ?_, hb2.trans (hb3.mono hb2.size)⟩
    rw [Bool.true_and]; exact decide_eq_decide.2 (by omega)

set_option maxHeartbeats 4000000 in
set_option maxRecDepth 100000 in
theorem check_any (K n : Int) (s : ByteArray) (w : World) (hs : s.size < 9223372036854775807) (hT : Tabs w) :
    Calls Tryz.prog 36 #[V3 K n s] w fun e w' => e = .returned (.bool (checkB K n s.data.toList)) ∧ Below w.heap.size w w' := by
  by_cases h3 : K = 3 ∧ n = 0
  · obtain ⟨rfl, rfl⟩ := h3
    exact check_text s w hs hT
  obtain ⟨V, hV⟩ : ∃ V, checkB K n s.data.toList = V := ⟨_, rfl⟩
  rw [hV]
  have HV := Lib.hid hV
  have H3 := Lib.hid h3
  clear hV h3
  go_enter Tryz.func36, Tryz.ntmps36
  go_wp2_with fail
  all_goals simp only [beq_iff_eq, beq_eq_false_iff_ne, ne_eq] at *
  all_goals first
    | (exfalso; exact H3.out ⟨by assumption, by assumption⟩)
    | (go_ret
       refine ⟨ret_bool ?_, (Below.refl _ _).alloc (Nat.le_refl _) _⟩
       rw [← HV.out]
       first
         | (simp_all [checkB, emp]; done)
         | (simp_all [checkB]; omega))
end Go.Proofs.YtepppianhafdjaaGreatDoor
