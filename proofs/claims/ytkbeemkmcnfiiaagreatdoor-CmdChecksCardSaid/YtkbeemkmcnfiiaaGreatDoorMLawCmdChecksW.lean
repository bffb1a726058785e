/- The statement CmdChecks: whatever the command and the reply, whether they may be is what the document says. Conditions: none but what the card ties (the library's variables hold what their texts lay). -/
import Derived.Test.YtkbeemkmcnfiiaaGreatDoorMCmAny
import Derived.Test.YtkbeemkmcnfiiaaGreatDoorMRpK
import Derived.Test.YtkbeemkmcnfiiaaGreatDoorGE
namespace Go.Proofs.YtkbeemkmcnfiiaaGreatDoor
open Go.ChangeShapes Go.WideShapes Go.ChangeAt Go.RowKit Go.Lib

set_option maxHeartbeats 4000000 in
set_option maxRecDepth 100000 in
theorem cmdchecks_walk (c : Cm) (r : Rp) (w : World) (hi : c.In) (hf : c.f.size ≤ maxLen) (hs : c.s.size ≤ maxLen) (ri : r.In) (rs : r.s.size ≤ maxLen) (hE : Env7 w) :
    Calls Tryz.prog 3 #[c.v, r.v] w fun e w' => e = .returned (.bool true) ∧ Below w.heap.size w w' := by
  have b0 := below_alloc w (.cells c.cs 25)
  have C0 := Blk.new w c.cs 25
  have b1 := below_alloc (w.alloc (.cells c.cs 25)) (.cells r.cs 28)
  have R1 := Blk.new (w.alloc (.cells c.cs 25)) r.cs 28
  have hz : (w.alloc (.cells c.cs 25)).heap.size = w.heap.size + 1 := by simp
  have C1 := C0.later b1
  have hbw1 := below_to b0 b1
  rw [hz] at R1
  clear b0 C0 b1 hz
  obtain ⟨w1, hw1⟩ : ∃ w1, (w.alloc (.cells c.cs 25)).alloc (.cells r.cs 28) = w1 := ⟨_, rfl⟩
  rw [hw1] at C1 R1 hbw1
  have hE1 := hE.later hbw1
  have cS := short_any c w1 hf hs
  have hAw := fun w' (hb : Below w1.heap.size w1 w') => cmawake_any w' (hE1.later hb).tabs
  have cC := fun (hsz : c.s.size < 9223372036854775807) w' (hb : Below w1.heap.size w1 w') => pcheck_any c hi w' (hE1.later hb) (by unfold maxLen at hf; omega) hsz
  have cD := fun w' (hb : Below w1.heap.size w1 w') => rcheck_any c hi w' (hE1.later hb) (by unfold maxLen at hf; omega)
  have cR := fun (hsz : r.s.size < 9223372036854775807) w' (hb : Below w1.heap.size w1 w') => preply_any r ri w' hsz (hE1.later hb).tabs
  have cQ := fun w' => rreply_any r ri w'
  have kC := fun wz (h : Below w1.heap.size w1 wz) => (C1.later h).c8
  have kR := fun wz (h : Below w1.heap.size w1 wz) => (R1.later h).c5
  obtain ⟨B, hB⟩ : ∃ B, cmdB c = B := ⟨_, rfl⟩
  obtain ⟨D, hD⟩ : ∃ D, repB r = D := ⟨_, rfl⟩
  simp only [hB] at cC cD
  simp only [hD] at cR cQ
  obtain ⟨kd, se, sq, f, ve, K, n, s⟩ := c
  obtain ⟨e, rn, rK, rm, rt⟩ := r
  simp only [Cm.v, Cm.cs, Rp.v, Rp.cs] at hw1 C1 R1 cS cC cD cR cQ kC kR hf hs rs ⊢
  unfold maxLen at hf hs rs
  obtain ⟨S, hS⟩ : ∃ S, shortB ⟨kd, se, sq, f, ve, K, n, s⟩ = S := ⟨_, rfl⟩
  rw [hS] at cS
  have hSh : S = true → s.size < 9223372036854775807 := fun h => by rw [h] at hS; unfold shortB at hS; simp only [Bool.and_eq_true, decide_eq_true_eq] at hS; omega
  clear hB hD hi ri hE hE1 hS
  cases S with
  | false =>
    go_enter Tryz.func3, Tryz.ntmps3
    obtain ⟨hl, c0, c1, c2, c3, c4, c5, c6, c7⟩ := C1.c8
    go_wp2_with fail
    refine cS.mono ?_
    rintro x w2 ⟨rfl, hb2⟩
    have hA := hAw w2 hb2
    have hbw2 := below_to hbw1 hb2
    clear hl c0 c1 c2 c3 c4 c5 c6 c7 cS hw1
    go_wp2_with fail
    refine hA.mono ?_
    rintro x w3 ⟨rfl, hb3⟩
    go_wp2
    go_ret
    exact ⟨rfl, below_to hbw2 hb3⟩
  | true =>
    by_cases hr : rt.size ≤ 1000
    · replace cC := cC (hSh rfl)
      replace cR := cR (by omega)
      have hrz : ¬ (1000 : Int) < (rt.size : Int) := by omega
      have hrd : decide ((1000 : Int) < (rt.size : Int)) = false := decide_eq_false hrz
      go_enter Tryz.func3, Tryz.ntmps3
      obtain ⟨hl, c0, c1, c2, c3, c4, c5, c6, c7⟩ := C1.c8
      go_wp2_with fail
      refine cS.mono ?_
      rintro x w2 ⟨rfl, hb2⟩
      obtain ⟨rl, r0, r1, r2, r3, r4⟩ := kR w2 hb2
      have hbw2 := below_to hbw1 hb2
      clear hl c0 c1 c2 c3 c4 c5 c6 c7 cS hw1
      go_wp2_with fail
      clear rl r0 r1 r2 r3 r4
      refine wp_region_held_drew (S := fun w' => Below w1.heap.size w1 w') (by kernel_rfl) (hb2.drew) (fun hHeld => ?_)
      refine held_take (i := 0) (v := ?_) rfl (by kernel_rfl) (by kernel_rfl) (by kernel_rfl) (fun _ _ _ h => h) (by rfl) hHeld ?_ ?_
      rotate_left
      · intro wz hSz; obtain ⟨q8, q0, q1, q2, q3, q4, q5, q6, q7⟩ := kC wz hSz; go_simp; try with_reducible rfl
      simp only [Act.put, List.setIfInBounds_toArray, List.set_cons_zero, List.set_cons_succ]
      refine held_take (i := 2) (v := ?_) rfl (by kernel_rfl) (by kernel_rfl) (by kernel_rfl) (fun _ _ _ h => h) (by rfl) hHeld ?_ ?_
      rotate_left
      · intro wz hSz; obtain ⟨q8, q0, q1, q2, q3, q4, q5, q6, q7⟩ := kC wz hSz; go_simp; try with_reducible rfl
      simp only [Act.put, List.setIfInBounds_toArray, List.set_cons_zero, List.set_cons_succ]
      refine held_call (i := 1) (by kernel_rfl) rfl (by rfl) (by go_simp; try with_reducible rfl) (cC _ hHeld) ?_
      rintro e wy ⟨rfl, hy⟩
      refine ⟨_, rfl, below_to hHeld hy, ?_⟩
      replace hHeld := below_to hHeld hy
      simp only [Act.put, List.setIfInBounds_toArray, List.set_cons_zero, List.set_cons_succ]
      clear hy
      refine held_call (i := 3) (by kernel_rfl) rfl (by rfl) (by go_simp; try with_reducible rfl) (cD _ hHeld) ?_
      rintro e wy ⟨rfl, hy⟩
      refine ⟨_, rfl, below_to hHeld hy, ?_⟩
      replace hHeld := below_to hHeld hy
      simp only [Act.put, List.setIfInBounds_toArray, List.set_cons_zero, List.set_cons_succ]
      clear hy
      refine held_take (i := 4) (v := .bool true) rfl (by kernel_rfl) (by kernel_rfl) (by kernel_rfl) (fun _ _ _ h => h) (by rfl) hHeld ?_ ?_
      · intro wz hSz; (go_simp; first | done | rfl | simp)
      simp only [Act.put, List.setIfInBounds_toArray, List.set_cons_zero, List.set_cons_succ]
      refine held_take (i := 5) (v := ?_) rfl (by kernel_rfl) (by kernel_rfl) (by kernel_rfl) (fun _ _ _ h => h) (by rfl) hHeld ?_ ?_
      rotate_left
      · intro wz hSz; go_simp; try with_reducible rfl
      simp only [Act.put, List.setIfInBounds_toArray, List.set_cons_zero, List.set_cons_succ]
      refine held_take (i := 6) (v := ?_) rfl (by kernel_rfl) (by kernel_rfl) (by kernel_rfl) (fun _ _ _ h => h) (by rfl) hHeld ?_ ?_
      rotate_left
      · intro wz hSz; obtain ⟨q5, q0, q1, q2, q3, q4⟩ := kR wz hSz; go_simp; try with_reducible rfl
      simp only [Act.put, List.setIfInBounds_toArray, List.set_cons_zero, List.set_cons_succ]
      refine held_take (i := 8) (v := ?_) rfl (by kernel_rfl) (by kernel_rfl) (by kernel_rfl) (fun _ _ _ h => h) (by rfl) hHeld ?_ ?_
      rotate_left
      · intro wz hSz; obtain ⟨q5, q0, q1, q2, q3, q4⟩ := kR wz hSz; go_simp; try with_reducible rfl
      simp only [Act.put, List.setIfInBounds_toArray, List.set_cons_zero, List.set_cons_succ]
      refine held_call (i := 7) (by kernel_rfl) rfl (by rfl) (by go_simp; try with_reducible rfl) (cR _ hHeld) ?_
      rintro e wy ⟨rfl, hy⟩
      refine ⟨_, rfl, below_to hHeld hy, ?_⟩
      replace hHeld := below_to hHeld hy
      simp only [Act.put, List.setIfInBounds_toArray, List.set_cons_zero, List.set_cons_succ]
      clear hy
      refine held_call (i := 9) (by kernel_rfl) rfl (by rfl) (by go_simp; try with_reducible rfl) (cQ _) ?_
      rintro e wy ⟨rfl, hy⟩
      refine ⟨_, rfl, below_to hHeld hy, ?_⟩
      replace hHeld := below_to hHeld hy
      simp only [Act.put, List.setIfInBounds_toArray, List.set_cons_zero, List.set_cons_succ]
      clear hy
      refine held_take (i := 10) (v := .bool true) rfl (by kernel_rfl) (by kernel_rfl) (by kernel_rfl) (fun _ _ _ h => h) (by rfl) hHeld ?_ ?_
      · intro wz hSz; (go_simp; first | done | rfl | simp)
      simp only [Act.put, List.setIfInBounds_toArray, List.set_cons_zero, List.set_cons_succ]
      refine held_take (i := 11) (v := ?_) rfl (by kernel_rfl) (by kernel_rfl) (by kernel_rfl) (fun _ _ _ h => h) (by rfl) hHeld ?_ ?_
      rotate_left
      · intro wz hSz; go_simp; try with_reducible rfl
      simp only [Act.put, List.setIfInBounds_toArray, List.set_cons_zero, List.set_cons_succ]
      refine held_take (i := 12) (v := ?_) rfl (by kernel_rfl) (by kernel_rfl) (by kernel_rfl) (fun _ _ _ h => h) (by rfl) hHeld ?_ ?_
      rotate_left
      · intro wz hSz; go_simp; try with_reducible rfl
      simp only [Act.put, List.setIfInBounds_toArray, List.set_cons_zero, List.set_cons_succ]
      refine held_call (i := 13) (by kernel_rfl) rfl (by rfl) (by go_simp; try with_reducible rfl) (hAw _ hHeld) ?_
      rintro e wy ⟨rfl, hy⟩
      refine ⟨_, rfl, below_to hHeld hy, ?_⟩
      replace hHeld := below_to hHeld hy
      simp only [Act.put, List.setIfInBounds_toArray, List.set_cons_zero, List.set_cons_succ]
      refine held_take (i := 14) (v := ?_) rfl (by kernel_rfl) (by kernel_rfl) (by kernel_rfl) (fun _ _ _ h => h) (by rfl) hHeld ?_ ?_
      rotate_left
      · intro wz hSz; go_simp; try with_reducible rfl
      simp only [Act.put, List.setIfInBounds_toArray, List.set_cons_zero, List.set_cons_succ]
      refine held_take (i := 15) (v := ?_) rfl (by kernel_rfl) (by kernel_rfl) (by kernel_rfl) (fun _ _ _ h => h) (by rfl) hHeld ?_ ?_
      rotate_left
      · intro wz hSz; go_simp; try with_reducible rfl
      simp only [Act.put, List.setIfInBounds_toArray, List.set_cons_zero, List.set_cons_succ]
      refine wpAnyH_done (by kernel_rfl) ?_ _
      go_wp2
      go_ret
      exact ⟨rfl, below_to hbw1 hHeld⟩
    · have hrz : (1000 : Int) < (rt.size : Int) := by omega
      have hrd : decide ((1000 : Int) < (rt.size : Int)) = true := decide_eq_true hrz
      go_enter Tryz.func3, Tryz.ntmps3
      obtain ⟨hl, c0, c1, c2, c3, c4, c5, c6, c7⟩ := C1.c8
      go_wp2_with fail
      refine cS.mono ?_
      rintro x w2 ⟨rfl, hb2⟩
      obtain ⟨rl, r0, r1, r2, r3, r4⟩ := kR w2 hb2
      have hA := hAw w2 hb2
      have hbw2 := below_to hbw1 hb2
      clear hl c0 c1 c2 c3 c4 c5 c6 c7 cS hw1
      go_wp2_with fail
      refine hA.mono ?_
      rintro x w3 ⟨rfl, hb3⟩
      go_wp2
      go_ret
      exact ⟨rfl, below_to hbw2 hb3⟩
end Go.Proofs.YtkbeemkmcnfiiaaGreatDoor
