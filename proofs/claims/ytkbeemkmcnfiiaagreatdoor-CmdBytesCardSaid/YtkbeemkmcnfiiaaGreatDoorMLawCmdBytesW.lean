/- The statement CmdBytes: the bytes of any command that may be are what the document says, and are read back. Conditions: none but what the card ties (the library's variables hold what their texts lay). -/
import Derived.Test.YtkbeemkmcnfiiaaGreatDoorMCmGA
import Derived.Test.YtkbeemkmcnfiiaaGreatDoorMCmRP
namespace Go.Proofs.YtkbeemkmcnfiiaaGreatDoor
open Go.ChangeShapes Go.WideShapes Go.ChangeAt Go.RowKit Go.Lib

theorem rputc_any (c : Cm) (hi : c.In) (hk : c.kd = 1 ∨ c.kd = 2 ∨ c.kd = 3 ∨ c.kd = 4) (w : World) (hf : c.f.data.toList.length ≤ 1000000) (hs : c.s.data.toList.length ≤ 1000000) :
    Calls Tryz.prog 16 #[c.v] w (OwnBytes w (putC c)) := by
  obtain ⟨kd, se, sq, f, ve, K, n, s⟩ := c
  dsimp only at hk hf hs
  rcases hk with rfl | rfl | rfl | rfl
  · exact rput_1 se sq f ve K n s hi w hf hs
  · exact rput_2 se sq f ve K n s hi w hf hs
  · exact rput_3 se sq f ve K n s hi w hf hs
  · exact rput_4 se sq f ve K n s hi w hf hs
set_option maxHeartbeats 4000000 in
set_option maxRecDepth 100000 in
theorem cmdbytes_walk (c : Cm) (w : World) (hi : c.In) (hf : c.f.size ≤ maxLen) (hs : c.s.size ≤ maxLen) (hE : Env7 w) :
    Calls Tryz.prog 4 #[c.v] w fun e w' => e = .returned (.bool true) ∧ Below w.heap.size w w' := by
  have hbw1 := below_alloc w (.cells c.cs 25)
  have C1 := Blk.new w c.cs 25
  obtain ⟨w1, hw1⟩ : ∃ w1, w.alloc (.cells c.cs 25) = w1 := ⟨_, rfl⟩
  rw [hw1] at C1 hbw1
  have hE1 := hE.later hbw1
  have hAw := fun w' (hb : Below w1.heap.size w1 w') => cmawake_any w' (hE1.later hb).tabs
  have cS := short_any c w1 hf hs
  have cD := fun w' (hb : Below w1.heap.size w1 w') => rcheck_any c hi w' (hE1.later hb) (by unfold maxLen at hf; omega)
  have hSz : shortB c = true → c.f.data.toList.length ≤ 1000000 ∧ c.s.data.toList.length ≤ 1000000 := fun h2 => by
    unfold shortB at h2; simp only [Bool.and_eq_true, decide_eq_true_eq] at h2; rw [size_list, size_list]; omega
  have cP := fun (h : cmdB c = true) (h2 : shortB c = true) w' => pput_any c hi (cmdB_kind h) w' (hSz h2).1 (hSz h2).2
  have cQ := fun (h : cmdB c = true) (h2 : shortB c = true) w' => rputc_any c hi (cmdB_kind h) w' (hSz h2).1 (hSz h2).2
  have hXl : shortB c = true → cmdB c = true → (putC c).length ≤ 140737488355328 := fun h2 h => putC_len c hi (cmdB_kind h) (hSz h2).1 (hSz h2).2
  have hgp := fun (h : cmdB c = true) => getC_put hi h
  have cG := fun A cap w' hl hB hc hb => pget_any A (putC c) cap w' hl hB hc (hE1.later (w' := w') hb)
  obtain ⟨X, hX⟩ : ∃ X, putC c = X := ⟨_, rfl⟩
  simp only [hX] at cP cQ hgp cG hXl
  unfold GotC at cG
  have kC := fun wz (h : Below w1.heap.size w1 wz) => (C1.later h).c8
  have hqi := fun w => eqlIn_cmd c.kd c.se c.sq c.f c.ve c.K c.n c.s c.kd c.se c.sq c.f c.ve c.K c.n c.s w
  rw [sameC_refl] at hqi
  obtain ⟨B, hBv⟩ : ∃ B, cmdB c = B := ⟨_, rfl⟩
  obtain ⟨S, hSv⟩ : ∃ S, shortB c = S := ⟨_, rfl⟩
  simp only [hBv] at cD cP cQ hgp hXl
  simp only [hSv] at cS cP cQ hXl
  clear hBv hSv hSz hX hi hE hE1 hf hs
  cases S with
  | false =>
    obtain ⟨kd, se, sq, f, ve, K, n, s⟩ := c
    simp only [Cm.v, Cm.cs] at hw1 C1 cS ⊢
    clear cD cP cQ hgp cG kC hqi hXl
    go_enter Tryz.func4, Tryz.ntmps4
    obtain ⟨hl, c0, c1, c2, c3, c4, c5, c6, c7⟩ := C1.c8
    go_wp2_with fail
    refine cS.mono ?_
    rintro x w2 ⟨rfl, hb2⟩
    have hA := hAw w2 hb2
    have hbw2 := below_to hbw1 hb2
    clear hl c0 c1 c2 c3 c4 c5 c6 c7 cS hw1
    go_wp2_with fail
    refine hA.mono ?_
    rintro x w3 ⟨rfl, hb3⟩
    go_wp2
    go_ret
    exact ⟨rfl, below_to hbw2 hb3⟩
  | true =>
    cases B with
    | false =>
      obtain ⟨kd, se, sq, f, ve, K, n, s⟩ := c
      simp only [Cm.v, Cm.cs] at hw1 C1 cS cD kC ⊢
      clear cP cQ hgp cG hqi hXl
      go_enter Tryz.func4, Tryz.ntmps4
      obtain ⟨hl, c0, c1, c2, c3, c4, c5, c6, c7⟩ := C1.c8
      go_wp2_with fail
      refine cS.mono ?_
      rintro x w2 ⟨rfl, hb2⟩
      clear hl c0 c1 c2 c3 c4 c5 c6 c7 cS hw1
      obtain ⟨hl, c0, c1, c2, c3, c4, c5, c6, c7⟩ := kC w2 hb2
      go_wp2_with fail
      refine (cD w2 hb2).mono ?_
      rintro x w3 ⟨rfl, hb3⟩
      replace hb3 := below_to hb2 hb3
      have hA := hAw w3 hb3
      have hbw3 := below_to hbw1 hb3
      clear hl c0 c1 c2 c3 c4 c5 c6 c7 cD hb2
      go_wp2_with fail
      refine hA.mono ?_
      rintro x w4 ⟨rfl, hb4⟩
      go_wp2
      go_ret
      exact ⟨rfl, below_to hbw3 hb4⟩
    | true =>
      replace cP := cP rfl rfl
      replace cQ := cQ rfl rfl
      replace hgp := hgp rfl
      replace hXl := hXl rfl rfl
      simp only [hgp] at cG
      clear hgp
      obtain ⟨kd, se, sq, f, ve, K, n, s⟩ := c
      simp only [Cm.v, Cm.cs] at hw1 C1 cS cD kC cP cQ cG hqi ⊢
      go_enter Tryz.func4, Tryz.ntmps4
      obtain ⟨hl, c0, c1, c2, c3, c4, c5, c6, c7⟩ := C1.c8
      go_wp2_with fail
      refine cS.mono ?_
      rintro x w2 ⟨rfl, hb2⟩
      clear hl c0 c1 c2 c3 c4 c5 c6 c7 cS hw1
      obtain ⟨hl, c0, c1, c2, c3, c4, c5, c6, c7⟩ := kC w2 hb2
      go_wp2_with fail
      refine (cD w2 hb2).mono ?_
      rintro x w3 ⟨rfl, hb3⟩
      replace hb3 := below_to hb2 hb3
      clear hl c0 c1 c2 c3 c4 c5 c6 c7 cD hb2
      obtain ⟨hl, c0, c1, c2, c3, c4, c5, c6, c7⟩ := kC w3 hb3
      go_wp2_with fail
      refine (cP w3).mono ?_
      rintro x w4 ⟨A4, cap4, rfl, hB4, hc4, ho4, hb4⟩
      replace hb4 := below_to hb3 hb4
      clear hl c0 c1 c2 c3 c4 c5 c6 c7 cP hb3
      obtain ⟨hl, c0, c1, c2, c3, c4, c5, c6, c7⟩ := kC w4 hb4
      go_wp2_with fail
      refine (cG A4 cap4 w4 hXl hB4 hc4 hb4).mono ?_
      rintro x w5 ⟨rfl, hb5⟩
      have hB5 := hB4.below hb5
      replace hb5 := below_to hb4 hb5
      have D6 := Blk.new w5 (cs8 kd se sq f ve K n s) 25
      have b6 := below_alloc w5 (.cells (cs8 kd se sq f ve K n s) 25)
      have hb6 := below_to hb5 b6
      have hB6 := hB5.below b6
      clear hl c0 c1 c2 c3 c4 c5 c6 c7 cG hb4 hB4 hc4 ho4 hB5 hb5
      obtain ⟨hl, c0, c1, c2, c3, c4, c5, c6, c7⟩ := kC _ hb6
      go_wp2_with fail
      generalize hw6 : w5.alloc (.cells (cs8 kd se sq f ve K n s) 25) = w6 at *
      clear hw6 b6 hl c0 c1 c2 c3 c4 c5 c6 c7 hXl
      have kD := fun wz (h : Below w6.heap.size w6 wz) => (D6.later h).c8
      have kE := fun wz (h : Below w6.heap.size w6 wz) => kC wz (below_to hb6 h)
      have hAx := fun wz (h : Below w6.heap.size w6 wz) => hAw wz (below_to hb6 h)
      obtain ⟨tb, HTB, eb⟩ := str_fact cap4 hB6
      have hbw6 := below_to hbw1 hb6
      clear kC D6 hAw hb6 hB6
      refine wp_region_held_drew (S := fun w' => Below w6.heap.size w6 w') (by kernel_rfl) ((Below.refl _ _).drew) (fun hHeld => ?_)
      refine held_take (i := 0) (v := ?_) rfl (by kernel_rfl) (by kernel_rfl) (by kernel_rfl) (fun _ _ _ h => h) (by rfl) hHeld ?_ ?_
      rotate_left
      · intro wz hSz; go_simp; try with_reducible rfl
      simp only [Act.put, List.setIfInBounds_toArray, List.set_cons_zero, List.set_cons_succ]
      refine held_take (i := 1) (v := ?_) rfl (by kernel_rfl) (by kernel_rfl) (by kernel_rfl) (fun _ _ _ h => h) (by rfl) hHeld ?_ ?_
      rotate_left
      · intro wz hSz; have q0 := eb wz hSz; go_simp; try with_reducible rfl
      simp only [Act.put, List.setIfInBounds_toArray, List.set_cons_zero, List.set_cons_succ]
      refine held_take (i := 2) (v := ?_) rfl (by kernel_rfl) (by kernel_rfl) (by kernel_rfl) (fun _ _ _ h => h) (by rfl) hHeld ?_ ?_
      rotate_left
      · intro wz hSz; obtain ⟨q8, q0, q1, q2, q3, q4, q5, q6, q7⟩ := kE wz hSz; go_simp; try with_reducible rfl
      simp only [Act.put, List.setIfInBounds_toArray, List.set_cons_zero, List.set_cons_succ]
      refine held_call (i := 3) (by kernel_rfl) rfl (by rfl) (by go_simp; try with_reducible rfl) (cQ _) ?_
      rintro e wy ⟨A7, cap7, rfl, hB7, _, _, hy⟩
      refine ⟨_, rfl, below_to hHeld hy, ?_⟩
      replace hHeld := below_to hHeld hy
      simp only [Act.put, List.setIfInBounds_toArray, List.set_cons_zero, List.set_cons_succ]
      have r7 := run_text_of cap7 hB7 HTB.out.symm
      clear hy hB7 cQ
      refine held_read (i := 4) (v := ?_) (by kernel_rfl) rfl (by rfl) hHeld ?_ ?_
      rotate_left
      · go_simp; try with_reducible rfl
      simp only [Act.put, List.setIfInBounds_toArray, List.set_cons_zero, List.set_cons_succ]
      refine held_take (i := 5) (v := .bool true) rfl (by kernel_rfl) (by kernel_rfl) (by kernel_rfl) (fun _ _ _ h => h) (by rfl) hHeld ?_ ?_
      · intro wz hSz; (go_simp; first | done | rfl | simp)
      simp only [Act.put, List.setIfInBounds_toArray, List.set_cons_zero, List.set_cons_succ]
      refine held_take (i := 6) (v := ?_) rfl (by kernel_rfl) (by kernel_rfl) (by kernel_rfl) (fun _ _ _ h => h) (by rfl) hHeld ?_ ?_
      rotate_left
      · intro wz hSz; go_simp; try with_reducible rfl
      simp only [Act.put, List.setIfInBounds_toArray, List.set_cons_zero, List.set_cons_succ]
      refine held_take (i := 7) (v := ?_) rfl (by kernel_rfl) (by kernel_rfl) (by kernel_rfl) (fun _ _ _ h => h) (by rfl) hHeld ?_ ?_
      rotate_left
      · intro wz hSz; go_simp; try with_reducible rfl
      simp only [Act.put, List.setIfInBounds_toArray, List.set_cons_zero, List.set_cons_succ]
      refine held_take (i := 8) (v := ?_) rfl (by kernel_rfl) (by kernel_rfl) (by kernel_rfl) (fun _ _ _ h => h) (by rfl) hHeld ?_ ?_
      rotate_left
      · intro wz hSz; go_simp; try with_reducible rfl
      simp only [Act.put, List.setIfInBounds_toArray, List.set_cons_zero, List.set_cons_succ]
      refine held_take (i := 9) (v := ?_) rfl (by kernel_rfl) (by kernel_rfl) (by kernel_rfl) (fun _ _ _ h => h) (by rfl) hHeld ?_ ?_
      rotate_left
      · intro wz hSz; go_simp; try with_reducible rfl
      simp only [Act.put, List.setIfInBounds_toArray, List.set_cons_zero, List.set_cons_succ]
      refine held_take (i := 10) (v := ?_) rfl (by kernel_rfl) (by kernel_rfl) (by kernel_rfl) (fun _ _ _ h => h) (by rfl) hHeld ?_ ?_
      rotate_left
      · intro wz hSz; obtain ⟨q8, q0, q1, q2, q3, q4, q5, q6, q7⟩ := kD wz hSz; go_simp; try with_reducible rfl
      simp only [Act.put, List.setIfInBounds_toArray, List.set_cons_zero, List.set_cons_succ]
      refine held_take (i := 11) (v := ?_) rfl (by kernel_rfl) (by kernel_rfl) (by kernel_rfl) (fun _ _ _ h => h) (by rfl) hHeld ?_ ?_
      rotate_left
      · intro wz hSz; obtain ⟨q8, q0, q1, q2, q3, q4, q5, q6, q7⟩ := kE wz hSz; go_simp; try with_reducible rfl
      simp only [Act.put, List.setIfInBounds_toArray, List.set_cons_zero, List.set_cons_succ]
      refine held_take (i := 12) (v := .bool true) rfl (by kernel_rfl) (by kernel_rfl) (by kernel_rfl) (fun _ _ _ h => h) (by rfl) hHeld ?_ ?_
      · intro wz hSz; (go_simp; first | done | rfl | simp [hqi])
      simp only [Act.put, List.setIfInBounds_toArray, List.set_cons_zero, List.set_cons_succ]
      refine held_take (i := 13) (v := ?_) rfl (by kernel_rfl) (by kernel_rfl) (by kernel_rfl) (fun _ _ _ h => h) (by rfl) hHeld ?_ ?_
      rotate_left
      · intro wz hSz; go_simp; try with_reducible rfl
      simp only [Act.put, List.setIfInBounds_toArray, List.set_cons_zero, List.set_cons_succ]
      refine held_take (i := 14) (v := ?_) rfl (by kernel_rfl) (by kernel_rfl) (by kernel_rfl) (fun _ _ _ h => h) (by rfl) hHeld ?_ ?_
      rotate_left
      · intro wz hSz; go_simp; try with_reducible rfl
      simp only [Act.put, List.setIfInBounds_toArray, List.set_cons_zero, List.set_cons_succ]
      refine held_call (i := 15) (by kernel_rfl) rfl (by rfl) (by go_simp; try with_reducible rfl) (hAx _ hHeld) ?_
      rintro e wy ⟨rfl, hy⟩
      refine ⟨_, rfl, below_to hHeld hy, ?_⟩
      replace hHeld := below_to hHeld hy
      simp only [Act.put, List.setIfInBounds_toArray, List.set_cons_zero, List.set_cons_succ]
      refine held_take (i := 16) (v := ?_) rfl (by kernel_rfl) (by kernel_rfl) (by kernel_rfl) (fun _ _ _ h => h) (by rfl) hHeld ?_ ?_
      rotate_left
      · intro wz hSz; go_simp; try with_reducible rfl
      simp only [Act.put, List.setIfInBounds_toArray, List.set_cons_zero, List.set_cons_succ]
      refine held_take (i := 17) (v := ?_) rfl (by kernel_rfl) (by kernel_rfl) (by kernel_rfl) (fun _ _ _ h => h) (by rfl) hHeld ?_ ?_
      rotate_left
      · intro wz hSz; go_simp; try with_reducible rfl
      simp only [Act.put, List.setIfInBounds_toArray, List.set_cons_zero, List.set_cons_succ]
      refine wpAnyH_done (by kernel_rfl) ?_ _
      go_wp2
      go_ret
      exact ⟨rfl, below_to hbw6 hHeld⟩
end Go.Proofs.YtkbeemkmcnfiiaaGreatDoor
