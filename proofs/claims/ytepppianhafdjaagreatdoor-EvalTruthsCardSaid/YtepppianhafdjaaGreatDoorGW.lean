/- Several texts in one: V3, VRefCheck. -/
import Derived.Test.YtepppianhafdjaaGreatDoorGB
import Derived.Test.YtepppianhafdjaaGreatDoorGE
namespace Go.Proofs.YtepppianhafdjaaGreatDoor
/- A value as it stands in memory, or comes in. -/
section
abbrev V3 (K n : Int) (s : ByteArray) : Value := .agg #[.int .i64 K, .int .i64 n, .string s]
end
/- The contract of the document's own Check: whatever the value, whether it may be. -/
section
open Go.RowKit

theorem pcs_four (l : List UInt8) : l.length ≤ 4 * (pcs l).length := by
  induction l using pcs_induct with
  | h0 => simp
  | h1 l hne ih =>
    have hw : (Lib.decodeL l).2 ≤ 4 := by
      rw [Lib.decodeL_N]
      rcases Lib.decodeN_shape l.length (l.getD 0 0).toNat (l.getD 1 0).toNat (l.getD 2 0).toNat (l.getD 3 0).toNat with ⟨c, e⟩ | ⟨a1, a2, a3, av, e⟩ | ⟨a1, a2, a3, a4, av, asr, e⟩ | ⟨a1, a2, a3, a4, a5, av, aw, e⟩ | e
      all_goals rw [e]; dsimp only; omega
    rw [pcs_step l hne, List.length_cons]
    rw [List.length_drop] at ih
    omega
/-- A text of so many runes has no more bytes than four times as many. -/
theorem count_len (s : ByteArray) (h : countL s.data.toList ≤ 100) : s.size ≤ 400 := by
  have := pcs_four s.data.toList
  unfold countL at h
  rw [size_list] at this; omega

set_option maxHeartbeats 1000000 in
set_option maxRecDepth 100000 in
theorem refCheck_text (s : ByteArray) (w : World) :
    Calls Tryz.prog 18 #[V3 3 0 s] w fun e w' => e = .returned (.bool (checkB 3 0 s.data.toList)) ∧ Below w.heap.size w w' := by
  have hC : checkB 3 0 s.data.toList = (validL s.data.toList && decide (countL s.data.toList ≤ 100)) := by simp [checkB]
  have hb0 : Below w.heap.size w (w.alloc (.cells #[.int .i64 3, .int .i64 0, .string s] 23)) := (Below.refl _ _).alloc (Nat.le_refl _) _
  by_cases hlen : s.size ≤ 400
  · have hlz : decide ((s.size : Int) ≤ 400) = true := by simp; omega
    have cN : ∀ w, Calls Tryz.prog 29 #[.string s] w fun e w' => e = .returned (.int .i64 ((countL s.data.toList : Nat) : Int)) ∧ Below w.heap.size w w' := fun w => refCount_any s w (by omega)
    have cV := fun w => refValid_any s w (by omega)
    rw [hC]; clear hC
    obtain ⟨Z, hZ⟩ : ∃ Z, validL s.data.toList = Z := ⟨_, rfl⟩
    obtain ⟨N, hN⟩ : ∃ N, countL s.data.toList = N := ⟨_, rfl⟩
    rw [hZ] at cV ⊢
    rw [hN] at cN ⊢
    clear hZ hN
    cases Z
    · go_enter Tryz.func18, Tryz.ntmps18
      go_wp2_with fail
      refine (cV _).mono ?_
      rintro e w1 ⟨rfl, hb1⟩
      go_wp2
      go_ret
      exact ⟨rfl, hb0.trans (hb1.mono (by simp))⟩
    · go_enter Tryz.func18, Tryz.ntmps18
      go_wp2_with fail
      refine (cV _).mono ?_
      rintro e w1 ⟨rfl, hb1⟩
      have hb2 := hb0.trans (hb1.mono (by simp))
      have hc : w1.cell? ⟨w.heap.size, 2, none⟩ = some (.string s) := by
        rw [hb1.cell (p := ⟨w.heap.size, 2, none⟩) (by simp), cells_of_alloc]; rfl
      clear hb1 hb0
      go_wp2_with fail
      refine (cN _).mono ?_
      rintro e w2 ⟨rfl, hb3⟩
      go_wp2
      go_ret
      refine ⟨ret_bool ?_, hb2.trans (hb3.mono hb2.size)⟩
      rw [Bool.true_and]; exact decide_eq_decide.2 (by omega)
  · have hF : checkB 3 0 s.data.toList = false := by
      rw [hC, Bool.and_eq_false_iff]; right
      exact decide_eq_false (fun h => hlen (count_len s h))
    rw [hF]
    clear hC hF
    have hlz : ¬ ((s.size : Int) ≤ 400) := by omega
    go_enter Tryz.func18, Tryz.ntmps18
    go_wp2
    go_ret
    exact ⟨rfl, hb0⟩

set_option maxHeartbeats 4000000 in
set_option maxRecDepth 100000 in
theorem refCheck_any (K n : Int) (s : ByteArray) (w : World) :
    Calls Tryz.prog 18 #[V3 K n s] w fun e w' => e = .returned (.bool (checkB K n s.data.toList)) ∧ Below w.heap.size w w' := by
  by_cases h3 : K = 3 ∧ n = 0
  · obtain ⟨rfl, rfl⟩ := h3
    exact refCheck_text s w
  obtain ⟨V, hV⟩ : ∃ V, checkB K n s.data.toList = V := ⟨_, rfl⟩
  rw [hV]
  have HV := Lib.hid hV
  have H3 := Lib.hid h3
  clear hV h3
  by_cases hn : n = 0
  · subst hn
    have hk3 : (K == 3) = false := beq_eq_false_iff_ne.2 (fun h => H3.out ⟨h, rfl⟩)
    go_enter Tryz.func18, Tryz.ntmps18
    go_wp2_with fail
    all_goals simp only [beq_iff_eq, beq_eq_false_iff_ne, ne_eq] at *
    all_goals
      (go_ret
       refine ⟨ret_bool ?_, (Below.refl _ _).alloc (Nat.le_refl _) _⟩
       rw [← HV.out]
       first
         | (simp_all [checkB, emp]; done)
         | (simp_all [checkB]; omega))
  · go_enter Tryz.func18, Tryz.ntmps18
    go_wp2_with fail
    all_goals simp only [beq_iff_eq, beq_eq_false_iff_ne, ne_eq] at *
    all_goals
      (go_ret
       refine ⟨ret_bool ?_, (Below.refl _ _).alloc (Nat.le_refl _) _⟩
       rw [← HV.out]
       first
         | (simp_all [checkB, emp]; done)
         | (simp_all [checkB]; done)
         | (simp_all [checkB]; omega))
end
end Go.Proofs.YtepppianhafdjaaGreatDoor
