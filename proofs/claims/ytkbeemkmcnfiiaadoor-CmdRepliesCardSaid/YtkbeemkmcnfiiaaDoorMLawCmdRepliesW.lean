/- The statement CmdReplies: the bytes of any reply that may be are what the document says, and are read back. Conditions: none but what the card ties (the library's variables hold what their texts lay). -/
import Derived.Test.YtkbeemkmcnfiiaaDoorMRpG
import Derived.Test.YtkbeemkmcnfiiaaDoorMRpP
import Derived.Test.YtkbeemkmcnfiiaaDoorMVOpen14
namespace Go.Proofs.YtkbeemkmcnfiiaaDoor
open Go.ChangeShapes Go.WideShapes Go.ChangeAt Go.RowKit Go.Lib

theorem sameR_refl (r : Rp) : sameR r.e r.n r.K r.m r.s r.e r.n r.K r.m r.s = true := (sameR_iff _ _ _ _ _ _ _ _ _ _).2 ⟨rfl, rfl, rfl, rfl, rfl⟩
set_option maxHeartbeats 4000000 in
set_option maxRecDepth 100000 in
theorem cmdreplies_walk (r : Rp) (w : World) (hi : r.In) (hs : r.s.size ≤ maxLen) (hE : Env7 w) :
    Calls Tryd.prog 3 #[r.v] w fun e w' => e = .returned (.bool true) ∧ Below w.heap.size w w' := by
  have hbw1 := below_alloc w (.cells r.cs 26)
  have C1 := Blk.new w r.cs 26
  obtain ⟨w1, hw1⟩ : ∃ w1, w.alloc (.cells r.cs 26) = w1 := ⟨_, rfl⟩
  rw [hw1] at C1 hbw1
  have hE1 := hE.later hbw1
  have hAw := fun w' (hb : Below w1.heap.size w1 w') => cmawake_any w' (hE1.later hb).tabs
  have cD := fun w' => rreply_any r hi w'
  have cP := fun (h : r.s.size ≤ 1000) w' => pputr_any r hi w' (by rw [size_list]; omega)
  have cQ := fun (h : r.s.size ≤ 1000) w' => rputr_any r hi w' (by rw [size_list]; omega)
  have hXl : r.s.size ≤ 1000 → (putP r).length ≤ 140737488355328 := fun h => by
    have a1 := putI_ten (v := r.e) hi.e0 hi.e1
    have a2 := putI_ten (v := r.n) hi.n0 hi.n1
    have a3 := putV_len r.K r.m r.s.data.toList hi.K0 hi.K1 hi.m0 hi.m1 (by rw [size_list]; omega)
    have a4 := size_list r.s
    unfold putP
    simp only [List.length_append]
    omega
  have hgp := fun (h : repB r = true) => getP_put hi h
  have cG := fun A cap w' hl hB hc hb => pgetr_any A (putP r) cap w' hl hB hc (hE1.later (w' := w') hb).tabs
  obtain ⟨X, hX⟩ : ∃ X, putP r = X := ⟨_, rfl⟩
  simp only [hX] at cP cQ hgp cG hXl
  unfold GotP at cG
  have kC := fun wz (h : Below w1.heap.size w1 wz) => (C1.later h).c5
  have hqi := fun w => eqlIn_rep r.e r.n r.K r.m r.s r.e r.n r.K r.m r.s w
  rw [sameR_refl] at hqi
  obtain ⟨B, hBv⟩ : ∃ B, repB r = B := ⟨_, rfl⟩
  simp only [hBv] at cD hgp
  clear hBv hX hi hE hE1
  by_cases hr : r.s.size ≤ 1000
  · cases B with
    | false =>
      obtain ⟨e, n, K, m, s⟩ := r
      simp only [Rp.v, Rp.cs] at hw1 C1 cD kC hr ⊢
      clear cP cQ hgp cG hqi hXl hs
      have hrz : ¬ (1000 : Int) < (s.size : Int) := by omega
      have hrd : decide ((1000 : Int) < (s.size : Int)) = false := decide_eq_false hrz
      go_enter Tryd.func3, Tryd.ntmps3
      obtain ⟨hl, c0, c1, c2, c3, c4⟩ := C1.c5
      go_wp2_with fail
      refine (cD w1).mono ?_
      rintro x w2 ⟨rfl, hb2⟩
      have hA := hAw w2 hb2
      have hbw2 := below_to hbw1 hb2
      clear hl c0 c1 c2 c3 c4 cD hw1
      go_wp2_with fail
      refine hA.mono ?_
      rintro x w3 ⟨rfl, hb3⟩
      go_wp2
      go_ret
      exact ⟨rfl, below_to hbw2 hb3⟩
    | true =>
      replace cP := cP hr
      replace cQ := cQ hr
      replace hgp := hgp rfl
      replace hXl := hXl hr
      simp only [hgp] at cG
      clear hgp
      obtain ⟨e, n, K, m, s⟩ := r
      simp only [Rp.v, Rp.cs] at hw1 C1 cD kC cP cQ cG hqi hr ⊢
      have hrz : ¬ (1000 : Int) < (s.size : Int) := by omega
      have hrd : decide ((1000 : Int) < (s.size : Int)) = false := decide_eq_false hrz
      clear hs
      go_enter Tryd.func3, Tryd.ntmps3
      obtain ⟨hl, c0, c1, c2, c3, c4⟩ := C1.c5
      go_wp2_with fail
      refine (cD w1).mono ?_
      rintro x w3 ⟨rfl, hb3⟩
      clear hl c0 c1 c2 c3 c4 cD hw1
      obtain ⟨hl, c0, c1, c2, c3, c4⟩ := kC w3 hb3
      go_wp2_with fail
      refine (cP w3).mono ?_
      rintro x w4 ⟨A4, cap4, rfl, hB4, hc4, ho4, hb4⟩
      replace hb4 := below_to hb3 hb4
      clear hl c0 c1 c2 c3 c4 cP hb3
      obtain ⟨hl, c0, c1, c2, c3, c4⟩ := kC w4 hb4
      go_wp2_with fail
      refine (cG A4 cap4 w4 hXl hB4 hc4 hb4).mono ?_
      rintro x w5 ⟨rfl, hb5⟩
      have hB5 := hB4.below hb5
      replace hb5 := below_to hb4 hb5
      have D6 := Blk.new w5 (cs5 e n K m s) 26
      have b6 := below_alloc w5 (.cells (cs5 e n K m s) 26)
      have hb6 := below_to hb5 b6
      have hB6 := hB5.below b6
      clear hl c0 c1 c2 c3 c4 cG hb4 hB4 hc4 ho4 hB5 hb5
      obtain ⟨hl, c0, c1, c2, c3, c4⟩ := kC _ hb6
      go_wp2_with fail
      generalize hw6 : w5.alloc (.cells (cs5 e n K m s) 26) = w6 at *
      clear hw6 b6 hl c0 c1 c2 c3 c4 hXl
      have kD := fun wz (h : Below w6.heap.size w6 wz) => (D6.later h).c5
      have kE := fun wz (h : Below w6.heap.size w6 wz) => kC wz (below_to hb6 h)
      have hAx := fun wz (h : Below w6.heap.size w6 wz) => hAw wz (below_to hb6 h)
      obtain ⟨tb, HTB, eb⟩ := str_fact cap4 hB6
      have hbw6 := below_to hbw1 hb6
      clear kC D6 hAw hb6 hB6
      refine wp_region_held_drew (S := fun w' => Below w6.heap.size w6 w') (by kernel_rfl) ((Below.refl _ _).drew) (fun hHeld => ?_)
      refine held_take (i := 0) (v := ?_) rfl (by kernel_rfl) (by kernel_rfl) (by kernel_rfl) (fun _ _ _ h => h) (by rfl) hHeld ?_ ?_
      rotate_left
      · intro wz hSz; go_simp; try with_reducible rfl
      simp only [Act.put, List.setIfInBounds_toArray, List.set_cons_zero, List.set_cons_succ]
      refine held_take (i := 1) (v := ?_) rfl (by kernel_rfl) (by kernel_rfl) (by kernel_rfl) (fun _ _ _ h => h) (by rfl) hHeld ?_ ?_
      rotate_left
      · intro wz hSz; have q0 := eb wz hSz; go_simp; try with_reducible rfl
      simp only [Act.put, List.setIfInBounds_toArray, List.set_cons_zero, List.set_cons_succ]
      refine held_take (i := 2) (v := ?_) rfl (by kernel_rfl) (by kernel_rfl) (by kernel_rfl) (fun _ _ _ h => h) (by rfl) hHeld ?_ ?_
      rotate_left
      · intro wz hSz; obtain ⟨q5, q0, q1, q2, q3, q4⟩ := kE wz hSz; go_simp; try with_reducible rfl
      simp only [Act.put, List.setIfInBounds_toArray, List.set_cons_zero, List.set_cons_succ]
      refine held_call (i := 3) (by kernel_rfl) rfl (by rfl) (by go_simp; try with_reducible rfl) (cQ _) ?_
      rintro e wy ⟨A7, cap7, rfl, hB7, _, _, hy⟩
      refine ⟨_, rfl, below_to hHeld hy, ?_⟩
      replace hHeld := below_to hHeld hy
      simp only [Act.put, List.setIfInBounds_toArray, List.set_cons_zero, List.set_cons_succ]
      have r7 := run_text_of cap7 hB7 HTB.out.symm
      clear hy hB7 cQ
      refine held_read (i := 4) (v := ?_) (by kernel_rfl) rfl (by rfl) hHeld ?_ ?_
      rotate_left
      · go_simp; try with_reducible rfl
      simp only [Act.put, List.setIfInBounds_toArray, List.set_cons_zero, List.set_cons_succ]
      refine held_take (i := 5) (v := .bool true) rfl (by kernel_rfl) (by kernel_rfl) (by kernel_rfl) (fun _ _ _ h => h) (by rfl) hHeld ?_ ?_
      · intro wz hSz; (go_simp; first | done | rfl | simp)
      simp only [Act.put, List.setIfInBounds_toArray, List.set_cons_zero, List.set_cons_succ]
      refine held_take (i := 6) (v := ?_) rfl (by kernel_rfl) (by kernel_rfl) (by kernel_rfl) (fun _ _ _ h => h) (by rfl) hHeld ?_ ?_
      rotate_left
      · intro wz hSz; go_simp; try with_reducible rfl
      simp only [Act.put, List.setIfInBounds_toArray, List.set_cons_zero, List.set_cons_succ]
      refine held_take (i := 7) (v := ?_) rfl (by kernel_rfl) (by kernel_rfl) (by kernel_rfl) (fun _ _ _ h => h) (by rfl) hHeld ?_ ?_
      rotate_left
      · intro wz hSz; go_simp; try with_reducible rfl
      simp only [Act.put, List.setIfInBounds_toArray, List.set_cons_zero, List.set_cons_succ]
      refine held_take (i := 8) (v := ?_) rfl (by kernel_rfl) (by kernel_rfl) (by kernel_rfl) (fun _ _ _ h => h) (by rfl) hHeld ?_ ?_
      rotate_left
      · intro wz hSz; go_simp; try with_reducible rfl
      simp only [Act.put, List.setIfInBounds_toArray, List.set_cons_zero, List.set_cons_succ]
      refine held_take (i := 9) (v := ?_) rfl (by kernel_rfl) (by kernel_rfl) (by kernel_rfl) (fun _ _ _ h => h) (by rfl) hHeld ?_ ?_
      rotate_left
      · intro wz hSz; go_simp; try with_reducible rfl
      simp only [Act.put, List.setIfInBounds_toArray, List.set_cons_zero, List.set_cons_succ]
      refine held_take (i := 10) (v := ?_) rfl (by kernel_rfl) (by kernel_rfl) (by kernel_rfl) (fun _ _ _ h => h) (by rfl) hHeld ?_ ?_
      rotate_left
      · intro wz hSz; obtain ⟨q5, q0, q1, q2, q3, q4⟩ := kD wz hSz; go_simp; try with_reducible rfl
      simp only [Act.put, List.setIfInBounds_toArray, List.set_cons_zero, List.set_cons_succ]
      refine held_take (i := 11) (v := ?_) rfl (by kernel_rfl) (by kernel_rfl) (by kernel_rfl) (fun _ _ _ h => h) (by rfl) hHeld ?_ ?_
      rotate_left
      · intro wz hSz; obtain ⟨q5, q0, q1, q2, q3, q4⟩ := kE wz hSz; go_simp; try with_reducible rfl
      simp only [Act.put, List.setIfInBounds_toArray, List.set_cons_zero, List.set_cons_succ]
      refine held_take (i := 12) (v := .bool true) rfl (by kernel_rfl) (by kernel_rfl) (by kernel_rfl) (fun _ _ _ h => h) (by rfl) hHeld ?_ ?_
      · intro wz hSz; (go_simp; first | done | rfl | simp [hqi])
      simp only [Act.put, List.setIfInBounds_toArray, List.set_cons_zero, List.set_cons_succ]
      refine held_take (i := 13) (v := ?_) rfl (by kernel_rfl) (by kernel_rfl) (by kernel_rfl) (fun _ _ _ h => h) (by rfl) hHeld ?_ ?_
      rotate_left
      · intro wz hSz; go_simp; try with_reducible rfl
      simp only [Act.put, List.setIfInBounds_toArray, List.set_cons_zero, List.set_cons_succ]
      refine held_take (i := 14) (v := ?_) rfl (by kernel_rfl) (by kernel_rfl) (by kernel_rfl) (fun _ _ _ h => h) (by rfl) hHeld ?_ ?_
      rotate_left
      · intro wz hSz; go_simp; try with_reducible rfl
      simp only [Act.put, List.setIfInBounds_toArray, List.set_cons_zero, List.set_cons_succ]
      refine held_call (i := 15) (by kernel_rfl) rfl (by rfl) (by go_simp; try with_reducible rfl) (hAx _ hHeld) ?_
      rintro e wy ⟨rfl, hy⟩
      refine ⟨_, rfl, below_to hHeld hy, ?_⟩
      replace hHeld := below_to hHeld hy
      simp only [Act.put, List.setIfInBounds_toArray, List.set_cons_zero, List.set_cons_succ]
      refine held_take (i := 16) (v := ?_) rfl (by kernel_rfl) (by kernel_rfl) (by kernel_rfl) (fun _ _ _ h => h) (by rfl) hHeld ?_ ?_
      rotate_left
      · intro wz hSz; go_simp; try with_reducible rfl
      simp only [Act.put, List.setIfInBounds_toArray, List.set_cons_zero, List.set_cons_succ]
      refine held_take (i := 17) (v := ?_) rfl (by kernel_rfl) (by kernel_rfl) (by kernel_rfl) (fun _ _ _ h => h) (by rfl) hHeld ?_ ?_
      rotate_left
      · intro wz hSz; go_simp; try with_reducible rfl
      simp only [Act.put, List.setIfInBounds_toArray, List.set_cons_zero, List.set_cons_succ]
      refine wpAnyH_done (by kernel_rfl) ?_ _
      go_wp2
      go_ret
      exact ⟨rfl, below_to hbw6 hHeld⟩
  · obtain ⟨e, n, K, m, s⟩ := r
    simp only [Rp.v, Rp.cs] at hw1 C1 hr hs ⊢
    unfold maxLen at hs
    clear cP cQ hgp cG hqi hXl cD kC
    have hrz : (1000 : Int) < (s.size : Int) := by omega
    have hrd : decide ((1000 : Int) < (s.size : Int)) = true := decide_eq_true hrz
    go_enter Tryd.func3, Tryd.ntmps3
    obtain ⟨hl, c0, c1, c2, c3, c4⟩ := C1.c5
    have hA := hAw w1 (Below.refl _ _)
    clear hAw
    go_wp2_with fail
    refine hA.mono ?_
    rintro x w2 ⟨rfl, hb2⟩
    go_wp2
    go_ret
    exact ⟨rfl, below_to hbw1 hb2⟩
end Go.Proofs.YtkbeemkmcnfiiaaDoor
