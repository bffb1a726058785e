/- The statement CmdReads: any bytes are read as a command, and as a reply, as the document reads them; what is read is put as the same bytes. Conditions: none but what the card ties (the library's variables hold what their texts lay). -/
import Derived.Test.YtkbeemkmcnfiiaaGreatDoorMCmGA
import Derived.Test.YtkbeemkmcnfiiaaGreatDoorMCmRA
import Derived.Test.YtkbeemkmcnfiiaaGreatDoorMRpR
import Derived.Test.YtkbeemkmcnfiiaaGreatDoorMBy14
import Derived.Test.YtkbeemkmcnfiiaaGreatDoorMHeld2
namespace Go.Proofs.YtkbeemkmcnfiiaaGreatDoor
open Go.ChangeShapes Go.WideShapes Go.ChangeAt Go.RowKit Go.Lib

set_option maxHeartbeats 4000000 in
set_option maxRecDepth 100000 in
theorem cmdreads_walk (A : Option Addr) (L : List UInt8) (cap : Nat) (w : World) (hlc : L.length ≤ cap) (hcm : cap ≤ 140737488351232) (hB : Bs w A L) (hcap : A = none → cap = 0) (hE : Env7 w) :
    Calls Tryz.prog 5 #[.slice A L.length cap] w fun e w' => e = .returned (.bool true) ∧ Below w.heap.size w w' := by
  have hAw := fun w' (hb : Below w.heap.size w w') => cmawake_any w' (hE.later hb).tabs
  by_cases hl5 : L.length ≤ 5000
  · have hl5z : ¬ (5000 : Int) < (L.length : Int) := by omega
    have cBy := fun w' (hb : Below w.heap.size w w') => bytes_any A L cap w' (by omega) (hB.below hb) hcap
    have cG := fun A2 cap2 w' hB2 hc2 (hb : Below w.heap.size w w') => pget_any A2 L cap2 w' (by omega) hB2 hc2 (hE.later hb)
    have cH := fun w' (hb : Below w.heap.size w w') => rgetc_any A L cap w' (by omega) hlc (hB.below hb) (hE.later hb)
    have cP := fun A2 cap2 w' hB2 hc2 (hb : Below w.heap.size w w') => pgetr_any A2 L cap2 w' (by omega) hB2 hc2 (hE.later hb).tabs
    have cQ := fun w' (hb : Below w.heap.size w w') => rgetr_any A L cap w' (by omega) hlc (hB.below hb)
    unfold GotC at cG cH
    unfold GotP at cP cQ
    have hPC : (getC L).2 = true → ∀ w', Calls Tryz.prog 14 #[(getC L).1.v] w' (OwnBytes w' L) := fun h w' => by
      obtain ⟨h1, h2⟩ := getC_read h
      have hz := getC_len L
      have c := pput_any (getC L).1 (getC_in L) (cmdB_kind h2) w' (by omega) (by omega)
      rwa [h1] at c
    have hPP : (getP L).2 = true → ∀ w', Calls Tryz.prog 21 #[(getP L).1.v] w' (OwnBytes w' L) := fun h w' => by
      obtain ⟨h1, h2⟩ := getP_read h
      have hz := getP_len L
      have c := pputr_any (getP L).1 (getP_in L) w' (by omega)
      rwa [h1] at c
    have hqc := fun w => neq_cmd (getC L).1.kd (getC L).1.se (getC L).1.sq (getC L).1.f (getC L).1.ve (getC L).1.K (getC L).1.n (getC L).1.s (getC L).1.kd (getC L).1.se (getC L).1.sq (getC L).1.f (getC L).1.ve (getC L).1.K (getC L).1.n (getC L).1.s w
    have hqci := fun w => eqlIn_cmd (getC L).1.kd (getC L).1.se (getC L).1.sq (getC L).1.f (getC L).1.ve (getC L).1.K (getC L).1.n (getC L).1.s (getC L).1.kd (getC L).1.se (getC L).1.sq (getC L).1.f (getC L).1.ve (getC L).1.K (getC L).1.n (getC L).1.s w
    have hqr := fun w => neq_rep (getP L).1.e (getP L).1.n (getP L).1.K (getP L).1.m (getP L).1.s (getP L).1.e (getP L).1.n (getP L).1.K (getP L).1.m (getP L).1.s w
    have hqri := fun w => eqlIn_rep (getP L).1.e (getP L).1.n (getP L).1.K (getP L).1.m (getP L).1.s (getP L).1.e (getP L).1.n (getP L).1.K (getP L).1.m (getP L).1.s w
    simp only [sameC_refl] at hqc hqci
    simp only [sameR_refl] at hqr hqri
    obtain ⟨g1, hg1⟩ : ∃ g, getC L = g := ⟨_, rfl⟩
    obtain ⟨g2, hg2⟩ : ∃ g, getP L = g := ⟨_, rfl⟩
    simp only [hg1] at cG cH hPC hqc hqci
    simp only [hg2] at cP cQ hPP hqr hqri
    clear hg1 hg2
    obtain ⟨⟨kd, se, sq, f, ve, K, n, s⟩, y⟩ := g1
    obtain ⟨⟨e, rn, rK, rm, rt⟩, z⟩ := g2
    simp only [Cm.v, Rp.v] at cG cH cP cQ hPC hPP hqc hqci hqr hqri
    have HE := Lib.hid hE
    have HB := Lib.hid hB
    clear hE hB hcap
    cases y with
    | false =>
      cases z with
      | false =>
        go_enter Tryz.func5, Tryz.ntmps5
        go_wp2_with fail
        refine (cBy w (Below.refl _ _)).mono ?_
        rintro x w1 ⟨A1, cap1, rfl, hB1, hc1, _, hb1⟩
        go_wp2_with fail
        refine (cG A1 cap1 w1 hB1 hc1 hb1).mono ?_
        rintro x w2 ⟨rfl, hb2⟩
        replace hb2 := below_to hb1 hb2
        have C3 := Blk.new w2 (cs8 kd se sq f ve K n s) 25
        have b3 := below_alloc w2 (.cells (cs8 kd se sq f ve K n s) 25)
        have hb3 := below_to hb2 b3
        clear hB1 hc1 hb1 cG hb2 b3
        go_wp2_with fail
        generalize hw3 : w2.alloc (.cells (cs8 kd se sq f ve K n s) 25) = w3 at *
        refine (cH w3 hb3).mono ?_
        rintro x w4 ⟨rfl, hb⟩
        have C4 := C3.later hb
        have hb4 := below_to hb3 hb
        have D5 := Blk.new w4 (cs8 kd se sq f ve K n s) 25
        have b5 := below_alloc w4 (.cells (cs8 kd se sq f ve K n s) 25)
        have C5 := C4.later b5
        have hb5 := below_to hb4 b5
        clear hw3 cH hb C3 C4 hb3 hb4 b5
        go_wp2_with fail
        generalize hw5 : w4.alloc (.cells (cs8 kd se sq f ve K n s) 25) = w5 at *
        refine (cBy w5 hb5).mono ?_
        rintro x w6 ⟨A6, cap6, rfl, hB6, hc6, _, hb⟩
        have C6 := C5.later hb
        have D6 := D5.later hb
        have hb6 := below_to hb5 hb
        clear hw5 cBy hb C5 D5 hb5
        go_wp2_with fail
        refine (cP A6 cap6 w6 hB6 hc6 hb6).mono ?_
        rintro x w7 ⟨rfl, hb⟩
        have C7 := C6.later hb
        have D7 := D6.later hb
        have hb7 := below_to hb6 hb
        have R8 := Blk.new w7 (cs5 e rn rK rm rt) 28
        have b8 := below_alloc w7 (.cells (cs5 e rn rK rm rt) 28)
        have C8 := C7.later b8
        have D8 := D7.later b8
        have hb8 := below_to hb7 b8
        clear cP hb C6 D6 hb6 C7 D7 hb7 b8 hB6 hc6
        go_wp2_with fail
        generalize hw8 : w7.alloc (.cells (cs5 e rn rK rm rt) 28) = w8 at *
        refine (cQ w8 hb8).mono ?_
        rintro x w9 ⟨rfl, hb⟩
        have C9 := C8.later hb
        have D9 := D8.later hb
        have R9 := R8.later hb
        have hb9 := below_to hb8 hb
        have QA := Blk.new w9 (cs5 e rn rK rm rt) 28
        have bA := below_alloc w9 (.cells (cs5 e rn rK rm rt) 28)
        have CA := C9.later bA
        have DA := D9.later bA
        have RA := R9.later bA
        have hbA := below_to hb9 bA
        clear hw8 cQ hb C8 D8 R8 hb8 C9 D9 R9 hb9 bA
        obtain ⟨cl, c0, c1, c2, c3, c4, c5, c6, c7⟩ := CA.c8
        obtain ⟨dl, d0, d1, d2, d3, d4, d5, d6, d7⟩ := DA.c8
        obtain ⟨rl, r0, r1, r2, r3, r4⟩ := RA.c5
        obtain ⟨ql, q0, q1, q2, q3, q4⟩ := QA.c5
        go_wp2_with fail
        generalize hwA : w9.alloc (.cells (cs5 e rn rK rm rt) 28) = wA at *
        clear hwA cl c0 c1 c2 c3 c4 c5 c6 c7 dl d0 d1 d2 d3 d4 d5 d6 d7 rl r0 r1 r2 r3 r4 ql q0 q1 q2 q3 q4 DA QA hqc hqci hqr hqri
        have kC := fun wz (h : Below wA.heap.size wA wz) => (CA.later h).c8
        have kR := fun wz (h : Below wA.heap.size wA wz) => (RA.later h).c5
        have hAx := fun wz (h : Below wA.heap.size wA wz) => hAw wz (below_to hbA h)
        obtain ⟨tb, HTB, eb⟩ := str_fact cap (HB.out.below hbA)
        clear CA RA hAw
        refine wp_region_held_drew (S := fun w' => Below wA.heap.size wA w') (by kernel_rfl) ((Below.refl _ _).drew) (fun hHeld => ?_)
        refine held_take (i := 0) (v := ?_) rfl (by kernel_rfl) (by kernel_rfl) (by kernel_rfl) (fun _ _ _ h => h) (by rfl) hHeld ?_ ?_
        rotate_left
        · intro wz hSz; go_simp; try with_reducible rfl
        simp only [Act.put, List.setIfInBounds_toArray, List.set_cons_zero, List.set_cons_succ]
        refine held_take (i := 1) (v := ?_) rfl (by kernel_rfl) (by kernel_rfl) (by kernel_rfl) (fun _ _ _ h => h) (by rfl) hHeld ?_ ?_
        rotate_left
        · intro wz hSz; go_simp; try with_reducible rfl
        simp only [Act.put, List.setIfInBounds_toArray, List.set_cons_zero, List.set_cons_succ]
        refine held_take (i := 2) (v := ?_) rfl (by kernel_rfl) (by kernel_rfl) (by kernel_rfl) (fun _ _ _ h => h) (by rfl) hHeld ?_ ?_
        rotate_left
        · intro wz hSz; go_simp; try with_reducible rfl
        simp only [Act.put, List.setIfInBounds_toArray, List.set_cons_zero, List.set_cons_succ]
        refine held_skip (i := 3) rfl (by kernel_rfl) (by kernel_rfl) (by kernel_rfl) (fun _ _ _ h => h) (by rfl) hHeld ?_
        simp only [Act.put, List.setIfInBounds_toArray, List.set_cons_zero, List.set_cons_succ]
        refine held_skip (i := 4) rfl (by kernel_rfl) (by kernel_rfl) (by kernel_rfl) (fun _ _ _ h => h) (by rfl) hHeld ?_
        simp only [Act.put, List.setIfInBounds_toArray, List.set_cons_zero, List.set_cons_succ]
        refine held_skip (i := 5) rfl (by kernel_rfl) (by kernel_rfl) (by kernel_rfl) (fun _ _ _ h => h) (by rfl) hHeld ?_
        simp only [Act.put, List.setIfInBounds_toArray, List.set_cons_zero, List.set_cons_succ]
        refine held_skip (i := 6) rfl (by kernel_rfl) (by kernel_rfl) (by kernel_rfl) (fun _ _ _ h => h) (by rfl) hHeld ?_
        simp only [Act.put, List.setIfInBounds_toArray, List.set_cons_zero, List.set_cons_succ]
        refine held_skip (i := 7) rfl (by kernel_rfl) (by kernel_rfl) (by kernel_rfl) (fun _ _ _ h => h) (by rfl) hHeld ?_
        simp only [Act.put, List.setIfInBounds_toArray, List.set_cons_zero, List.set_cons_succ]
        refine held_skip (i := 8) rfl (by kernel_rfl) (by kernel_rfl) (by kernel_rfl) (fun _ _ _ h => h) (by rfl) hHeld ?_
        simp only [Act.put, List.setIfInBounds_toArray, List.set_cons_zero, List.set_cons_succ]
        refine held_take (i := 9) (v := ?_) rfl (by kernel_rfl) (by kernel_rfl) (by kernel_rfl) (fun _ _ _ h => h) (by rfl) hHeld ?_ ?_
        rotate_left
        · intro wz hSz; go_simp; try with_reducible rfl
        simp only [Act.put, List.setIfInBounds_toArray, List.set_cons_zero, List.set_cons_succ]
        refine held_take (i := 10) (v := ?_) rfl (by kernel_rfl) (by kernel_rfl) (by kernel_rfl) (fun _ _ _ h => h) (by rfl) hHeld ?_ ?_
        rotate_left
        · intro wz hSz; go_simp; try with_reducible rfl
        simp only [Act.put, List.setIfInBounds_toArray, List.set_cons_zero, List.set_cons_succ]
        refine held_take (i := 11) (v := ?_) rfl (by kernel_rfl) (by kernel_rfl) (by kernel_rfl) (fun _ _ _ h => h) (by rfl) hHeld ?_ ?_
        rotate_left
        · intro wz hSz; go_simp; try with_reducible rfl
        simp only [Act.put, List.setIfInBounds_toArray, List.set_cons_zero, List.set_cons_succ]
        refine held_take (i := 12) (v := ?_) rfl (by kernel_rfl) (by kernel_rfl) (by kernel_rfl) (fun _ _ _ h => h) (by rfl) hHeld ?_ ?_
        rotate_left
        · intro wz hSz; go_simp; try with_reducible rfl
        simp only [Act.put, List.setIfInBounds_toArray, List.set_cons_zero, List.set_cons_succ]
        refine held_take (i := 13) (v := ?_) rfl (by kernel_rfl) (by kernel_rfl) (by kernel_rfl) (fun _ _ _ h => h) (by rfl) hHeld ?_ ?_
        rotate_left
        · intro wz hSz; go_simp; try with_reducible rfl
        simp only [Act.put, List.setIfInBounds_toArray, List.set_cons_zero, List.set_cons_succ]
        refine held_skip (i := 14) rfl (by kernel_rfl) (by kernel_rfl) (by kernel_rfl) (fun _ _ _ h => h) (by rfl) hHeld ?_
        simp only [Act.put, List.setIfInBounds_toArray, List.set_cons_zero, List.set_cons_succ]
        refine held_skip (i := 15) rfl (by kernel_rfl) (by kernel_rfl) (by kernel_rfl) (fun _ _ _ h => h) (by rfl) hHeld ?_
        simp only [Act.put, List.setIfInBounds_toArray, List.set_cons_zero, List.set_cons_succ]
        refine held_skip (i := 16) rfl (by kernel_rfl) (by kernel_rfl) (by kernel_rfl) (fun _ _ _ h => h) (by rfl) hHeld ?_
        simp only [Act.put, List.setIfInBounds_toArray, List.set_cons_zero, List.set_cons_succ]
        refine held_skip (i := 17) rfl (by kernel_rfl) (by kernel_rfl) (by kernel_rfl) (fun _ _ _ h => h) (by rfl) hHeld ?_
        simp only [Act.put, List.setIfInBounds_toArray, List.set_cons_zero, List.set_cons_succ]
        refine held_skip (i := 18) rfl (by kernel_rfl) (by kernel_rfl) (by kernel_rfl) (fun _ _ _ h => h) (by rfl) hHeld ?_
        simp only [Act.put, List.setIfInBounds_toArray, List.set_cons_zero, List.set_cons_succ]
        refine held_skip (i := 19) rfl (by kernel_rfl) (by kernel_rfl) (by kernel_rfl) (fun _ _ _ h => h) (by rfl) hHeld ?_
        simp only [Act.put, List.setIfInBounds_toArray, List.set_cons_zero, List.set_cons_succ]
        refine held_take (i := 20) (v := ?_) rfl (by kernel_rfl) (by kernel_rfl) (by kernel_rfl) (fun _ _ _ h => h) (by rfl) hHeld ?_ ?_
        rotate_left
        · intro wz hSz; go_simp; try with_reducible rfl
        simp only [Act.put, List.setIfInBounds_toArray, List.set_cons_zero, List.set_cons_succ]
        refine held_take (i := 21) (v := ?_) rfl (by kernel_rfl) (by kernel_rfl) (by kernel_rfl) (fun _ _ _ h => h) (by rfl) hHeld ?_ ?_
        rotate_left
        · intro wz hSz; go_simp; try with_reducible rfl
        simp only [Act.put, List.setIfInBounds_toArray, List.set_cons_zero, List.set_cons_succ]
        refine held_take (i := 22) (v := ?_) rfl (by kernel_rfl) (by kernel_rfl) (by kernel_rfl) (fun _ _ _ h => h) (by rfl) hHeld ?_ ?_
        rotate_left
        · intro wz hSz; go_simp; try with_reducible rfl
        simp only [Act.put, List.setIfInBounds_toArray, List.set_cons_zero, List.set_cons_succ]
        refine held_call (i := 23) (by kernel_rfl) rfl (by rfl) (by go_simp; try with_reducible rfl) (hAx _ hHeld) ?_
        rintro e wy ⟨rfl, hy⟩
        refine ⟨_, rfl, below_to hHeld hy, ?_⟩
        replace hHeld := below_to hHeld hy
        simp only [Act.put, List.setIfInBounds_toArray, List.set_cons_zero, List.set_cons_succ]
        refine held_take (i := 24) (v := ?_) rfl (by kernel_rfl) (by kernel_rfl) (by kernel_rfl) (fun _ _ _ h => h) (by rfl) hHeld ?_ ?_
        rotate_left
        · intro wz hSz; go_simp; try with_reducible rfl
        simp only [Act.put, List.setIfInBounds_toArray, List.set_cons_zero, List.set_cons_succ]
        refine held_take (i := 25) (v := ?_) rfl (by kernel_rfl) (by kernel_rfl) (by kernel_rfl) (fun _ _ _ h => h) (by rfl) hHeld ?_ ?_
        rotate_left
        · intro wz hSz; go_simp; try with_reducible rfl
        simp only [Act.put, List.setIfInBounds_toArray, List.set_cons_zero, List.set_cons_succ]
        refine wpAnyH_done (by kernel_rfl) ?_ _
        go_wp2
        go_ret
        exact ⟨rfl, below_to hbA hHeld⟩
      | true =>
        replace hPP := hPP (by trivial)
        go_enter Tryz.func5, Tryz.ntmps5
        go_wp2_with fail
        refine (cBy w (Below.refl _ _)).mono ?_
        rintro x w1 ⟨A1, cap1, rfl, hB1, hc1, _, hb1⟩
        go_wp2_with fail
        refine (cG A1 cap1 w1 hB1 hc1 hb1).mono ?_
        rintro x w2 ⟨rfl, hb2⟩
        replace hb2 := below_to hb1 hb2
        have C3 := Blk.new w2 (cs8 kd se sq f ve K n s) 25
        have b3 := below_alloc w2 (.cells (cs8 kd se sq f ve K n s) 25)
        have hb3 := below_to hb2 b3
        clear hB1 hc1 hb1 cG hb2 b3
        go_wp2_with fail
        generalize hw3 : w2.alloc (.cells (cs8 kd se sq f ve K n s) 25) = w3 at *
        refine (cH w3 hb3).mono ?_
        rintro x w4 ⟨rfl, hb⟩
        have C4 := C3.later hb
        have hb4 := below_to hb3 hb
        have D5 := Blk.new w4 (cs8 kd se sq f ve K n s) 25
        have b5 := below_alloc w4 (.cells (cs8 kd se sq f ve K n s) 25)
        have C5 := C4.later b5
        have hb5 := below_to hb4 b5
        clear hw3 cH hb C3 C4 hb3 hb4 b5
        go_wp2_with fail
        generalize hw5 : w4.alloc (.cells (cs8 kd se sq f ve K n s) 25) = w5 at *
        refine (cBy w5 hb5).mono ?_
        rintro x w6 ⟨A6, cap6, rfl, hB6, hc6, _, hb⟩
        have C6 := C5.later hb
        have D6 := D5.later hb
        have hb6 := below_to hb5 hb
        clear hw5 cBy hb C5 D5 hb5
        go_wp2_with fail
        refine (cP A6 cap6 w6 hB6 hc6 hb6).mono ?_
        rintro x w7 ⟨rfl, hb⟩
        have C7 := C6.later hb
        have D7 := D6.later hb
        have hb7 := below_to hb6 hb
        have R8 := Blk.new w7 (cs5 e rn rK rm rt) 28
        have b8 := below_alloc w7 (.cells (cs5 e rn rK rm rt) 28)
        have C8 := C7.later b8
        have D8 := D7.later b8
        have hb8 := below_to hb7 b8
        clear cP hb C6 D6 hb6 C7 D7 hb7 b8 hB6 hc6
        go_wp2_with fail
        generalize hw8 : w7.alloc (.cells (cs5 e rn rK rm rt) 28) = w8 at *
        refine (cQ w8 hb8).mono ?_
        rintro x w9 ⟨rfl, hb⟩
        have C9 := C8.later hb
        have D9 := D8.later hb
        have R9 := R8.later hb
        have hb9 := below_to hb8 hb
        have QA := Blk.new w9 (cs5 e rn rK rm rt) 28
        have bA := below_alloc w9 (.cells (cs5 e rn rK rm rt) 28)
        have CA := C9.later bA
        have DA := D9.later bA
        have RA := R9.later bA
        have hbA := below_to hb9 bA
        clear hw8 cQ hb C8 D8 R8 hb8 C9 D9 R9 hb9 bA
        obtain ⟨cl, c0, c1, c2, c3, c4, c5, c6, c7⟩ := CA.c8
        obtain ⟨dl, d0, d1, d2, d3, d4, d5, d6, d7⟩ := DA.c8
        obtain ⟨rl, r0, r1, r2, r3, r4⟩ := RA.c5
        obtain ⟨ql, q0, q1, q2, q3, q4⟩ := QA.c5
        go_wp2_with fail
        generalize hwA : w9.alloc (.cells (cs5 e rn rK rm rt) 28) = wA at *
        clear hwA cl c0 c1 c2 c3 c4 c5 c6 c7 dl d0 d1 d2 d3 d4 d5 d6 d7 rl r0 r1 r2 r3 r4 ql q0 q1 q2 q3 q4 DA QA hqc hqci hqr hqri
        have kC := fun wz (h : Below wA.heap.size wA wz) => (CA.later h).c8
        have kR := fun wz (h : Below wA.heap.size wA wz) => (RA.later h).c5
        have hAx := fun wz (h : Below wA.heap.size wA wz) => hAw wz (below_to hbA h)
        obtain ⟨tb, HTB, eb⟩ := str_fact cap (HB.out.below hbA)
        clear CA RA hAw
        refine wp_region_held_drew (S := fun w' => Below wA.heap.size wA w') (by kernel_rfl) ((Below.refl _ _).drew) (fun hHeld => ?_)
        refine held_take (i := 0) (v := ?_) rfl (by kernel_rfl) (by kernel_rfl) (by kernel_rfl) (fun _ _ _ h => h) (by rfl) hHeld ?_ ?_
        rotate_left
        · intro wz hSz; go_simp; try with_reducible rfl
        simp only [Act.put, List.setIfInBounds_toArray, List.set_cons_zero, List.set_cons_succ]
        refine held_take (i := 1) (v := ?_) rfl (by kernel_rfl) (by kernel_rfl) (by kernel_rfl) (fun _ _ _ h => h) (by rfl) hHeld ?_ ?_
        rotate_left
        · intro wz hSz; go_simp; try with_reducible rfl
        simp only [Act.put, List.setIfInBounds_toArray, List.set_cons_zero, List.set_cons_succ]
        refine held_take (i := 2) (v := ?_) rfl (by kernel_rfl) (by kernel_rfl) (by kernel_rfl) (fun _ _ _ h => h) (by rfl) hHeld ?_ ?_
        rotate_left
        · intro wz hSz; go_simp; try with_reducible rfl
        simp only [Act.put, List.setIfInBounds_toArray, List.set_cons_zero, List.set_cons_succ]
        refine held_skip (i := 3) rfl (by kernel_rfl) (by kernel_rfl) (by kernel_rfl) (fun _ _ _ h => h) (by rfl) hHeld ?_
        simp only [Act.put, List.setIfInBounds_toArray, List.set_cons_zero, List.set_cons_succ]
        refine held_skip (i := 4) rfl (by kernel_rfl) (by kernel_rfl) (by kernel_rfl) (fun _ _ _ h => h) (by rfl) hHeld ?_
        simp only [Act.put, List.setIfInBounds_toArray, List.set_cons_zero, List.set_cons_succ]
        refine held_skip (i := 5) rfl (by kernel_rfl) (by kernel_rfl) (by kernel_rfl) (fun _ _ _ h => h) (by rfl) hHeld ?_
        simp only [Act.put, List.setIfInBounds_toArray, List.set_cons_zero, List.set_cons_succ]
        refine held_skip (i := 6) rfl (by kernel_rfl) (by kernel_rfl) (by kernel_rfl) (fun _ _ _ h => h) (by rfl) hHeld ?_
        simp only [Act.put, List.setIfInBounds_toArray, List.set_cons_zero, List.set_cons_succ]
        refine held_skip (i := 7) rfl (by kernel_rfl) (by kernel_rfl) (by kernel_rfl) (fun _ _ _ h => h) (by rfl) hHeld ?_
        simp only [Act.put, List.setIfInBounds_toArray, List.set_cons_zero, List.set_cons_succ]
        refine held_skip (i := 8) rfl (by kernel_rfl) (by kernel_rfl) (by kernel_rfl) (fun _ _ _ h => h) (by rfl) hHeld ?_
        simp only [Act.put, List.setIfInBounds_toArray, List.set_cons_zero, List.set_cons_succ]
        refine held_take (i := 9) (v := ?_) rfl (by kernel_rfl) (by kernel_rfl) (by kernel_rfl) (fun _ _ _ h => h) (by rfl) hHeld ?_ ?_
        rotate_left
        · intro wz hSz; go_simp; try with_reducible rfl
        simp only [Act.put, List.setIfInBounds_toArray, List.set_cons_zero, List.set_cons_succ]
        refine held_take (i := 10) (v := ?_) rfl (by kernel_rfl) (by kernel_rfl) (by kernel_rfl) (fun _ _ _ h => h) (by rfl) hHeld ?_ ?_
        rotate_left
        · intro wz hSz; go_simp; try with_reducible rfl
        simp only [Act.put, List.setIfInBounds_toArray, List.set_cons_zero, List.set_cons_succ]
        refine held_take (i := 11) (v := ?_) rfl (by kernel_rfl) (by kernel_rfl) (by kernel_rfl) (fun _ _ _ h => h) (by rfl) hHeld ?_ ?_
        rotate_left
        · intro wz hSz; go_simp; try with_reducible rfl
        simp only [Act.put, List.setIfInBounds_toArray, List.set_cons_zero, List.set_cons_succ]
        refine held_take (i := 12) (v := ?_) rfl (by kernel_rfl) (by kernel_rfl) (by kernel_rfl) (fun _ _ _ h => h) (by rfl) hHeld ?_ ?_
        rotate_left
        · intro wz hSz; go_simp; try with_reducible rfl
        simp only [Act.put, List.setIfInBounds_toArray, List.set_cons_zero, List.set_cons_succ]
        refine held_take (i := 13) (v := ?_) rfl (by kernel_rfl) (by kernel_rfl) (by kernel_rfl) (fun _ _ _ h => h) (by rfl) hHeld ?_ ?_
        rotate_left
        · intro wz hSz; go_simp; try with_reducible rfl
        simp only [Act.put, List.setIfInBounds_toArray, List.set_cons_zero, List.set_cons_succ]
        refine held_take (i := 14) (v := ?_) rfl (by kernel_rfl) (by kernel_rfl) (by kernel_rfl) (fun _ _ _ h => h) (by rfl) hHeld ?_ ?_
        rotate_left
        · intro wz hSz; obtain ⟨q5, q0, q1, q2, q3, q4⟩ := kR wz hSz; go_simp; try with_reducible rfl
        simp only [Act.put, List.setIfInBounds_toArray, List.set_cons_zero, List.set_cons_succ]
        refine held_take (i := 17) (v := ?_) rfl (by kernel_rfl) (by kernel_rfl) (by kernel_rfl) (fun _ _ _ h => h) (by rfl) hHeld ?_ ?_
        rotate_left
        · intro wz hSz; go_simp; try with_reducible rfl
        simp only [Act.put, List.setIfInBounds_toArray, List.set_cons_zero, List.set_cons_succ]
        refine held_take (i := 18) (v := ?_) rfl (by kernel_rfl) (by kernel_rfl) (by kernel_rfl) (fun _ _ _ h => h) (by rfl) hHeld ?_ ?_
        rotate_left
        · intro wz hSz; have q0 := eb wz hSz; go_simp; try with_reducible rfl
        simp only [Act.put, List.setIfInBounds_toArray, List.set_cons_zero, List.set_cons_succ]
        refine held_call (i := 15) (by kernel_rfl) rfl (by rfl) (by go_simp; try with_reducible rfl) (hPP _) ?_
        rintro e wy ⟨B1, bc1, rfl, hD1, _, _, hy⟩
        refine ⟨_, rfl, below_to hHeld hy, ?_⟩
        replace hHeld := below_to hHeld hy
        simp only [Act.put, List.setIfInBounds_toArray, List.set_cons_zero, List.set_cons_succ]
        have tr := run_text_of bc1 hD1 HTB.out.symm
        clear hy hD1
        refine held_read (i := 16) (v := ?_) (by kernel_rfl) rfl (by rfl) hHeld ?_ ?_
        rotate_left
        · go_simp; try with_reducible rfl
        simp only [Act.put, List.setIfInBounds_toArray, List.set_cons_zero, List.set_cons_succ]
        refine held_take (i := 19) (v := .bool true) rfl (by kernel_rfl) (by kernel_rfl) (by kernel_rfl) (fun _ _ _ h => h) (by rfl) hHeld ?_ ?_
        · intro wz hSz; (go_simp; first | done | rfl | simp)
        simp only [Act.put, List.setIfInBounds_toArray, List.set_cons_zero, List.set_cons_succ]
        refine held_take (i := 20) (v := ?_) rfl (by kernel_rfl) (by kernel_rfl) (by kernel_rfl) (fun _ _ _ h => h) (by rfl) hHeld ?_ ?_
        rotate_left
        · intro wz hSz; go_simp; try with_reducible rfl
        simp only [Act.put, List.setIfInBounds_toArray, List.set_cons_zero, List.set_cons_succ]
        refine held_take (i := 21) (v := ?_) rfl (by kernel_rfl) (by kernel_rfl) (by kernel_rfl) (fun _ _ _ h => h) (by rfl) hHeld ?_ ?_
        rotate_left
        · intro wz hSz; go_simp; try with_reducible rfl
        simp only [Act.put, List.setIfInBounds_toArray, List.set_cons_zero, List.set_cons_succ]
        refine held_take (i := 22) (v := ?_) rfl (by kernel_rfl) (by kernel_rfl) (by kernel_rfl) (fun _ _ _ h => h) (by rfl) hHeld ?_ ?_
        rotate_left
        · intro wz hSz; go_simp; try with_reducible rfl
        simp only [Act.put, List.setIfInBounds_toArray, List.set_cons_zero, List.set_cons_succ]
        refine held_call (i := 23) (by kernel_rfl) rfl (by rfl) (by go_simp; try with_reducible rfl) (hAx _ hHeld) ?_
        rintro e wy ⟨rfl, hy⟩
        refine ⟨_, rfl, below_to hHeld hy, ?_⟩
        replace hHeld := below_to hHeld hy
        simp only [Act.put, List.setIfInBounds_toArray, List.set_cons_zero, List.set_cons_succ]
        refine held_take (i := 24) (v := ?_) rfl (by kernel_rfl) (by kernel_rfl) (by kernel_rfl) (fun _ _ _ h => h) (by rfl) hHeld ?_ ?_
        rotate_left
        · intro wz hSz; go_simp; try with_reducible rfl
        simp only [Act.put, List.setIfInBounds_toArray, List.set_cons_zero, List.set_cons_succ]
        refine held_take (i := 25) (v := ?_) rfl (by kernel_rfl) (by kernel_rfl) (by kernel_rfl) (fun _ _ _ h => h) (by rfl) hHeld ?_ ?_
        rotate_left
        · intro wz hSz; go_simp; try with_reducible rfl
        simp only [Act.put, List.setIfInBounds_toArray, List.set_cons_zero, List.set_cons_succ]
        refine wpAnyH_done (by kernel_rfl) ?_ _
        go_wp2
        go_ret
        exact ⟨rfl, below_to hbA hHeld⟩
    | true =>
      cases z with
      | false =>
        replace hPC := hPC (by trivial)
        go_enter Tryz.func5, Tryz.ntmps5
        go_wp2_with fail
        refine (cBy w (Below.refl _ _)).mono ?_
        rintro x w1 ⟨A1, cap1, rfl, hB1, hc1, _, hb1⟩
        go_wp2_with fail
        refine (cG A1 cap1 w1 hB1 hc1 hb1).mono ?_
        rintro x w2 ⟨rfl, hb2⟩
        replace hb2 := below_to hb1 hb2
        have C3 := Blk.new w2 (cs8 kd se sq f ve K n s) 25
        have b3 := below_alloc w2 (.cells (cs8 kd se sq f ve K n s) 25)
        have hb3 := below_to hb2 b3
        clear hB1 hc1 hb1 cG hb2 b3
        go_wp2_with fail
        generalize hw3 : w2.alloc (.cells (cs8 kd se sq f ve K n s) 25) = w3 at *
        refine (cH w3 hb3).mono ?_
        rintro x w4 ⟨rfl, hb⟩
        have C4 := C3.later hb
        have hb4 := below_to hb3 hb
        have D5 := Blk.new w4 (cs8 kd se sq f ve K n s) 25
        have b5 := below_alloc w4 (.cells (cs8 kd se sq f ve K n s) 25)
        have C5 := C4.later b5
        have hb5 := below_to hb4 b5
        clear hw3 cH hb C3 C4 hb3 hb4 b5
        go_wp2_with fail
        generalize hw5 : w4.alloc (.cells (cs8 kd se sq f ve K n s) 25) = w5 at *
        refine (cBy w5 hb5).mono ?_
        rintro x w6 ⟨A6, cap6, rfl, hB6, hc6, _, hb⟩
        have C6 := C5.later hb
        have D6 := D5.later hb
        have hb6 := below_to hb5 hb
        clear hw5 cBy hb C5 D5 hb5
        go_wp2_with fail
        refine (cP A6 cap6 w6 hB6 hc6 hb6).mono ?_
        rintro x w7 ⟨rfl, hb⟩
        have C7 := C6.later hb
        have D7 := D6.later hb
        have hb7 := below_to hb6 hb
        have R8 := Blk.new w7 (cs5 e rn rK rm rt) 28
        have b8 := below_alloc w7 (.cells (cs5 e rn rK rm rt) 28)
        have C8 := C7.later b8
        have D8 := D7.later b8
        have hb8 := below_to hb7 b8
        clear cP hb C6 D6 hb6 C7 D7 hb7 b8 hB6 hc6
        go_wp2_with fail
        generalize hw8 : w7.alloc (.cells (cs5 e rn rK rm rt) 28) = w8 at *
        refine (cQ w8 hb8).mono ?_
        rintro x w9 ⟨rfl, hb⟩
        have C9 := C8.later hb
        have D9 := D8.later hb
        have R9 := R8.later hb
        have hb9 := below_to hb8 hb
        have QA := Blk.new w9 (cs5 e rn rK rm rt) 28
        have bA := below_alloc w9 (.cells (cs5 e rn rK rm rt) 28)
        have CA := C9.later bA
        have DA := D9.later bA
        have RA := R9.later bA
        have hbA := below_to hb9 bA
        clear hw8 cQ hb C8 D8 R8 hb8 C9 D9 R9 hb9 bA
        obtain ⟨cl, c0, c1, c2, c3, c4, c5, c6, c7⟩ := CA.c8
        obtain ⟨dl, d0, d1, d2, d3, d4, d5, d6, d7⟩ := DA.c8
        obtain ⟨rl, r0, r1, r2, r3, r4⟩ := RA.c5
        obtain ⟨ql, q0, q1, q2, q3, q4⟩ := QA.c5
        go_wp2_with fail
        generalize hwA : w9.alloc (.cells (cs5 e rn rK rm rt) 28) = wA at *
        clear hwA cl c0 c1 c2 c3 c4 c5 c6 c7 dl d0 d1 d2 d3 d4 d5 d6 d7 rl r0 r1 r2 r3 r4 ql q0 q1 q2 q3 q4 DA QA hqc hqci hqr hqri
        have kC := fun wz (h : Below wA.heap.size wA wz) => (CA.later h).c8
        have kR := fun wz (h : Below wA.heap.size wA wz) => (RA.later h).c5
        have hAx := fun wz (h : Below wA.heap.size wA wz) => hAw wz (below_to hbA h)
        obtain ⟨tb, HTB, eb⟩ := str_fact cap (HB.out.below hbA)
        clear CA RA hAw
        refine wp_region_held_drew (S := fun w' => Below wA.heap.size wA w') (by kernel_rfl) ((Below.refl _ _).drew) (fun hHeld => ?_)
        refine held_take (i := 0) (v := ?_) rfl (by kernel_rfl) (by kernel_rfl) (by kernel_rfl) (fun _ _ _ h => h) (by rfl) hHeld ?_ ?_
        rotate_left
        · intro wz hSz; go_simp; try with_reducible rfl
        simp only [Act.put, List.setIfInBounds_toArray, List.set_cons_zero, List.set_cons_succ]
        refine held_take (i := 1) (v := ?_) rfl (by kernel_rfl) (by kernel_rfl) (by kernel_rfl) (fun _ _ _ h => h) (by rfl) hHeld ?_ ?_
        rotate_left
        · intro wz hSz; go_simp; try with_reducible rfl
        simp only [Act.put, List.setIfInBounds_toArray, List.set_cons_zero, List.set_cons_succ]
        refine held_take (i := 2) (v := ?_) rfl (by kernel_rfl) (by kernel_rfl) (by kernel_rfl) (fun _ _ _ h => h) (by rfl) hHeld ?_ ?_
        rotate_left
        · intro wz hSz; go_simp; try with_reducible rfl
        simp only [Act.put, List.setIfInBounds_toArray, List.set_cons_zero, List.set_cons_succ]
        refine held_take (i := 3) (v := ?_) rfl (by kernel_rfl) (by kernel_rfl) (by kernel_rfl) (fun _ _ _ h => h) (by rfl) hHeld ?_ ?_
        rotate_left
        · intro wz hSz; obtain ⟨q8, q0, q1, q2, q3, q4, q5, q6, q7⟩ := kC wz hSz; go_simp; try with_reducible rfl
        simp only [Act.put, List.setIfInBounds_toArray, List.set_cons_zero, List.set_cons_succ]
        refine held_take (i := 6) (v := ?_) rfl (by kernel_rfl) (by kernel_rfl) (by kernel_rfl) (fun _ _ _ h => h) (by rfl) hHeld ?_ ?_
        rotate_left
        · intro wz hSz; go_simp; try with_reducible rfl
        simp only [Act.put, List.setIfInBounds_toArray, List.set_cons_zero, List.set_cons_succ]
        refine held_take (i := 7) (v := ?_) rfl (by kernel_rfl) (by kernel_rfl) (by kernel_rfl) (fun _ _ _ h => h) (by rfl) hHeld ?_ ?_
        rotate_left
        · intro wz hSz; have q0 := eb wz hSz; go_simp; try with_reducible rfl
        simp only [Act.put, List.setIfInBounds_toArray, List.set_cons_zero, List.set_cons_succ]
        refine held_call (i := 4) (by kernel_rfl) rfl (by rfl) (by go_simp; try with_reducible rfl) (hPC _) ?_
        rintro e wy ⟨B1, bc1, rfl, hD1, _, _, hy⟩
        refine ⟨_, rfl, below_to hHeld hy, ?_⟩
        replace hHeld := below_to hHeld hy
        simp only [Act.put, List.setIfInBounds_toArray, List.set_cons_zero, List.set_cons_succ]
        have tc := run_text_of bc1 hD1 HTB.out.symm
        clear hy hD1
        refine held_read (i := 5) (v := ?_) (by kernel_rfl) rfl (by rfl) hHeld ?_ ?_
        rotate_left
        · go_simp; try with_reducible rfl
        simp only [Act.put, List.setIfInBounds_toArray, List.set_cons_zero, List.set_cons_succ]
        refine held_take (i := 8) (v := .bool true) rfl (by kernel_rfl) (by kernel_rfl) (by kernel_rfl) (fun _ _ _ h => h) (by rfl) hHeld ?_ ?_
        · intro wz hSz; (go_simp; first | done | rfl | simp)
        simp only [Act.put, List.setIfInBounds_toArray, List.set_cons_zero, List.set_cons_succ]
        refine held_take (i := 9) (v := ?_) rfl (by kernel_rfl) (by kernel_rfl) (by kernel_rfl) (fun _ _ _ h => h) (by rfl) hHeld ?_ ?_
        rotate_left
        · intro wz hSz; go_simp; try with_reducible rfl
        simp only [Act.put, List.setIfInBounds_toArray, List.set_cons_zero, List.set_cons_succ]
        refine held_take (i := 10) (v := ?_) rfl (by kernel_rfl) (by kernel_rfl) (by kernel_rfl) (fun _ _ _ h => h) (by rfl) hHeld ?_ ?_
        rotate_left
        · intro wz hSz; go_simp; try with_reducible rfl
        simp only [Act.put, List.setIfInBounds_toArray, List.set_cons_zero, List.set_cons_succ]
        refine held_take (i := 11) (v := ?_) rfl (by kernel_rfl) (by kernel_rfl) (by kernel_rfl) (fun _ _ _ h => h) (by rfl) hHeld ?_ ?_
        rotate_left
        · intro wz hSz; go_simp; try with_reducible rfl
        simp only [Act.put, List.setIfInBounds_toArray, List.set_cons_zero, List.set_cons_succ]
        refine held_take (i := 12) (v := ?_) rfl (by kernel_rfl) (by kernel_rfl) (by kernel_rfl) (fun _ _ _ h => h) (by rfl) hHeld ?_ ?_
        rotate_left
        · intro wz hSz; go_simp; try with_reducible rfl
        simp only [Act.put, List.setIfInBounds_toArray, List.set_cons_zero, List.set_cons_succ]
        refine held_take (i := 13) (v := ?_) rfl (by kernel_rfl) (by kernel_rfl) (by kernel_rfl) (fun _ _ _ h => h) (by rfl) hHeld ?_ ?_
        rotate_left
        · intro wz hSz; go_simp; try with_reducible rfl
        simp only [Act.put, List.setIfInBounds_toArray, List.set_cons_zero, List.set_cons_succ]
        refine held_skip (i := 14) rfl (by kernel_rfl) (by kernel_rfl) (by kernel_rfl) (fun _ _ _ h => h) (by rfl) hHeld ?_
        simp only [Act.put, List.setIfInBounds_toArray, List.set_cons_zero, List.set_cons_succ]
        refine held_skip (i := 15) rfl (by kernel_rfl) (by kernel_rfl) (by kernel_rfl) (fun _ _ _ h => h) (by rfl) hHeld ?_
        simp only [Act.put, List.setIfInBounds_toArray, List.set_cons_zero, List.set_cons_succ]
        refine held_skip (i := 16) rfl (by kernel_rfl) (by kernel_rfl) (by kernel_rfl) (fun _ _ _ h => h) (by rfl) hHeld ?_
        simp only [Act.put, List.setIfInBounds_toArray, List.set_cons_zero, List.set_cons_succ]
        refine held_skip (i := 17) rfl (by kernel_rfl) (by kernel_rfl) (by kernel_rfl) (fun _ _ _ h => h) (by rfl) hHeld ?_
        simp only [Act.put, List.setIfInBounds_toArray, List.set_cons_zero, List.set_cons_succ]
        refine held_skip (i := 18) rfl (by kernel_rfl) (by kernel_rfl) (by kernel_rfl) (fun _ _ _ h => h) (by rfl) hHeld ?_
        simp only [Act.put, List.setIfInBounds_toArray, List.set_cons_zero, List.set_cons_succ]
        refine held_skip (i := 19) rfl (by kernel_rfl) (by kernel_rfl) (by kernel_rfl) (fun _ _ _ h => h) (by rfl) hHeld ?_
        simp only [Act.put, List.setIfInBounds_toArray, List.set_cons_zero, List.set_cons_succ]
        refine held_take (i := 20) (v := ?_) rfl (by kernel_rfl) (by kernel_rfl) (by kernel_rfl) (fun _ _ _ h => h) (by rfl) hHeld ?_ ?_
        rotate_left
        · intro wz hSz; go_simp; try with_reducible rfl
        simp only [Act.put, List.setIfInBounds_toArray, List.set_cons_zero, List.set_cons_succ]
        refine held_take (i := 21) (v := ?_) rfl (by kernel_rfl) (by kernel_rfl) (by kernel_rfl) (fun _ _ _ h => h) (by rfl) hHeld ?_ ?_
        rotate_left
        · intro wz hSz; go_simp; try with_reducible rfl
        simp only [Act.put, List.setIfInBounds_toArray, List.set_cons_zero, List.set_cons_succ]
        refine held_take (i := 22) (v := ?_) rfl (by kernel_rfl) (by kernel_rfl) (by kernel_rfl) (fun _ _ _ h => h) (by rfl) hHeld ?_ ?_
        rotate_left
        · intro wz hSz; go_simp; try with_reducible rfl
        simp only [Act.put, List.setIfInBounds_toArray, List.set_cons_zero, List.set_cons_succ]
        refine held_call (i := 23) (by kernel_rfl) rfl (by rfl) (by go_simp; try with_reducible rfl) (hAx _ hHeld) ?_
        rintro e wy ⟨rfl, hy⟩
        refine ⟨_, rfl, below_to hHeld hy, ?_⟩
        replace hHeld := below_to hHeld hy
        simp only [Act.put, List.setIfInBounds_toArray, List.set_cons_zero, List.set_cons_succ]
        refine held_take (i := 24) (v := ?_) rfl (by kernel_rfl) (by kernel_rfl) (by kernel_rfl) (fun _ _ _ h => h) (by rfl) hHeld ?_ ?_
        rotate_left
        · intro wz hSz; go_simp; try with_reducible rfl
        simp only [Act.put, List.setIfInBounds_toArray, List.set_cons_zero, List.set_cons_succ]
        refine held_take (i := 25) (v := ?_) rfl (by kernel_rfl) (by kernel_rfl) (by kernel_rfl) (fun _ _ _ h => h) (by rfl) hHeld ?_ ?_
        rotate_left
        · intro wz hSz; go_simp; try with_reducible rfl
        simp only [Act.put, List.setIfInBounds_toArray, List.set_cons_zero, List.set_cons_succ]
        refine wpAnyH_done (by kernel_rfl) ?_ _
        go_wp2
        go_ret
        exact ⟨rfl, below_to hbA hHeld⟩
      | true =>
        replace hPC := hPC (by trivial)
        replace hPP := hPP (by trivial)
        go_enter Tryz.func5, Tryz.ntmps5
        go_wp2_with fail
        refine (cBy w (Below.refl _ _)).mono ?_
        rintro x w1 ⟨A1, cap1, rfl, hB1, hc1, _, hb1⟩
        go_wp2_with fail
        refine (cG A1 cap1 w1 hB1 hc1 hb1).mono ?_
        rintro x w2 ⟨rfl, hb2⟩
        replace hb2 := below_to hb1 hb2
        have C3 := Blk.new w2 (cs8 kd se sq f ve K n s) 25
        have b3 := below_alloc w2 (.cells (cs8 kd se sq f ve K n s) 25)
        have hb3 := below_to hb2 b3
        clear hB1 hc1 hb1 cG hb2 b3
        go_wp2_with fail
        generalize hw3 : w2.alloc (.cells (cs8 kd se sq f ve K n s) 25) = w3 at *
        refine (cH w3 hb3).mono ?_
        rintro x w4 ⟨rfl, hb⟩
        have C4 := C3.later hb
        have hb4 := below_to hb3 hb
        have D5 := Blk.new w4 (cs8 kd se sq f ve K n s) 25
        have b5 := below_alloc w4 (.cells (cs8 kd se sq f ve K n s) 25)
        have C5 := C4.later b5
        have hb5 := below_to hb4 b5
        clear hw3 cH hb C3 C4 hb3 hb4 b5
        go_wp2_with fail
        generalize hw5 : w4.alloc (.cells (cs8 kd se sq f ve K n s) 25) = w5 at *
        refine (cBy w5 hb5).mono ?_
        rintro x w6 ⟨A6, cap6, rfl, hB6, hc6, _, hb⟩
        have C6 := C5.later hb
        have D6 := D5.later hb
        have hb6 := below_to hb5 hb
        clear hw5 cBy hb C5 D5 hb5
        go_wp2_with fail
        refine (cP A6 cap6 w6 hB6 hc6 hb6).mono ?_
        rintro x w7 ⟨rfl, hb⟩
        have C7 := C6.later hb
        have D7 := D6.later hb
        have hb7 := below_to hb6 hb
        have R8 := Blk.new w7 (cs5 e rn rK rm rt) 28
        have b8 := below_alloc w7 (.cells (cs5 e rn rK rm rt) 28)
        have C8 := C7.later b8
        have D8 := D7.later b8
        have hb8 := below_to hb7 b8
        clear cP hb C6 D6 hb6 C7 D7 hb7 b8 hB6 hc6
        go_wp2_with fail
        generalize hw8 : w7.alloc (.cells (cs5 e rn rK rm rt) 28) = w8 at *
        refine (cQ w8 hb8).mono ?_
        rintro x w9 ⟨rfl, hb⟩
        have C9 := C8.later hb
        have D9 := D8.later hb
        have R9 := R8.later hb
        have hb9 := below_to hb8 hb
        have QA := Blk.new w9 (cs5 e rn rK rm rt) 28
        have bA := below_alloc w9 (.cells (cs5 e rn rK rm rt) 28)
        have CA := C9.later bA
        have DA := D9.later bA
        have RA := R9.later bA
        have hbA := below_to hb9 bA
        clear hw8 cQ hb C8 D8 R8 hb8 C9 D9 R9 hb9 bA
        obtain ⟨cl, c0, c1, c2, c3, c4, c5, c6, c7⟩ := CA.c8
        obtain ⟨dl, d0, d1, d2, d3, d4, d5, d6, d7⟩ := DA.c8
        obtain ⟨rl, r0, r1, r2, r3, r4⟩ := RA.c5
        obtain ⟨ql, q0, q1, q2, q3, q4⟩ := QA.c5
        go_wp2_with fail
        generalize hwA : w9.alloc (.cells (cs5 e rn rK rm rt) 28) = wA at *
        clear hwA cl c0 c1 c2 c3 c4 c5 c6 c7 dl d0 d1 d2 d3 d4 d5 d6 d7 rl r0 r1 r2 r3 r4 ql q0 q1 q2 q3 q4 DA QA hqc hqci hqr hqri
        have kC := fun wz (h : Below wA.heap.size wA wz) => (CA.later h).c8
        have kR := fun wz (h : Below wA.heap.size wA wz) => (RA.later h).c5
        have hAx := fun wz (h : Below wA.heap.size wA wz) => hAw wz (below_to hbA h)
        obtain ⟨tb, HTB, eb⟩ := str_fact cap (HB.out.below hbA)
        clear CA RA hAw
        refine wp_region_held_drew (S := fun w' => Below wA.heap.size wA w') (by kernel_rfl) ((Below.refl _ _).drew) (fun hHeld => ?_)
        refine held_take (i := 0) (v := ?_) rfl (by kernel_rfl) (by kernel_rfl) (by kernel_rfl) (fun _ _ _ h => h) (by rfl) hHeld ?_ ?_
        rotate_left
        · intro wz hSz; go_simp; try with_reducible rfl
        simp only [Act.put, List.setIfInBounds_toArray, List.set_cons_zero, List.set_cons_succ]
        refine held_take (i := 1) (v := ?_) rfl (by kernel_rfl) (by kernel_rfl) (by kernel_rfl) (fun _ _ _ h => h) (by rfl) hHeld ?_ ?_
        rotate_left
        · intro wz hSz; go_simp; try with_reducible rfl
        simp only [Act.put, List.setIfInBounds_toArray, List.set_cons_zero, List.set_cons_succ]
        refine held_take (i := 2) (v := ?_) rfl (by kernel_rfl) (by kernel_rfl) (by kernel_rfl) (fun _ _ _ h => h) (by rfl) hHeld ?_ ?_
        rotate_left
        · intro wz hSz; go_simp; try with_reducible rfl
        simp only [Act.put, List.setIfInBounds_toArray, List.set_cons_zero, List.set_cons_succ]
        refine held_take (i := 3) (v := ?_) rfl (by kernel_rfl) (by kernel_rfl) (by kernel_rfl) (fun _ _ _ h => h) (by rfl) hHeld ?_ ?_
        rotate_left
        · intro wz hSz; obtain ⟨q8, q0, q1, q2, q3, q4, q5, q6, q7⟩ := kC wz hSz; go_simp; try with_reducible rfl
        simp only [Act.put, List.setIfInBounds_toArray, List.set_cons_zero, List.set_cons_succ]
        refine held_take (i := 6) (v := ?_) rfl (by kernel_rfl) (by kernel_rfl) (by kernel_rfl) (fun _ _ _ h => h) (by rfl) hHeld ?_ ?_
        rotate_left
        · intro wz hSz; go_simp; try with_reducible rfl
        simp only [Act.put, List.setIfInBounds_toArray, List.set_cons_zero, List.set_cons_succ]
        refine held_take (i := 7) (v := ?_) rfl (by kernel_rfl) (by kernel_rfl) (by kernel_rfl) (fun _ _ _ h => h) (by rfl) hHeld ?_ ?_
        rotate_left
        · intro wz hSz; have q0 := eb wz hSz; go_simp; try with_reducible rfl
        simp only [Act.put, List.setIfInBounds_toArray, List.set_cons_zero, List.set_cons_succ]
        refine held_call (i := 4) (by kernel_rfl) rfl (by rfl) (by go_simp; try with_reducible rfl) (hPC _) ?_
        rintro e wy ⟨B1, bc1, rfl, hD1, _, _, hy⟩
        refine ⟨_, rfl, below_to hHeld hy, ?_⟩
        replace hHeld := below_to hHeld hy
        simp only [Act.put, List.setIfInBounds_toArray, List.set_cons_zero, List.set_cons_succ]
        have tc := run_text_of bc1 hD1 HTB.out.symm
        clear hy hD1
        refine held_read (i := 5) (v := ?_) (by kernel_rfl) rfl (by rfl) hHeld ?_ ?_
        rotate_left
        · go_simp; try with_reducible rfl
        simp only [Act.put, List.setIfInBounds_toArray, List.set_cons_zero, List.set_cons_succ]
        refine held_take (i := 8) (v := .bool true) rfl (by kernel_rfl) (by kernel_rfl) (by kernel_rfl) (fun _ _ _ h => h) (by rfl) hHeld ?_ ?_
        · intro wz hSz; (go_simp; first | done | rfl | simp)
        simp only [Act.put, List.setIfInBounds_toArray, List.set_cons_zero, List.set_cons_succ]
        refine held_take (i := 9) (v := ?_) rfl (by kernel_rfl) (by kernel_rfl) (by kernel_rfl) (fun _ _ _ h => h) (by rfl) hHeld ?_ ?_
        rotate_left
        · intro wz hSz; go_simp; try with_reducible rfl
        simp only [Act.put, List.setIfInBounds_toArray, List.set_cons_zero, List.set_cons_succ]
        refine held_take (i := 10) (v := ?_) rfl (by kernel_rfl) (by kernel_rfl) (by kernel_rfl) (fun _ _ _ h => h) (by rfl) hHeld ?_ ?_
        rotate_left
        · intro wz hSz; go_simp; try with_reducible rfl
        simp only [Act.put, List.setIfInBounds_toArray, List.set_cons_zero, List.set_cons_succ]
        refine held_take (i := 11) (v := ?_) rfl (by kernel_rfl) (by kernel_rfl) (by kernel_rfl) (fun _ _ _ h => h) (by rfl) hHeld ?_ ?_
        rotate_left
        · intro wz hSz; go_simp; try with_reducible rfl
        simp only [Act.put, List.setIfInBounds_toArray, List.set_cons_zero, List.set_cons_succ]
        refine held_take (i := 12) (v := ?_) rfl (by kernel_rfl) (by kernel_rfl) (by kernel_rfl) (fun _ _ _ h => h) (by rfl) hHeld ?_ ?_
        rotate_left
        · intro wz hSz; go_simp; try with_reducible rfl
        simp only [Act.put, List.setIfInBounds_toArray, List.set_cons_zero, List.set_cons_succ]
        refine held_take (i := 13) (v := ?_) rfl (by kernel_rfl) (by kernel_rfl) (by kernel_rfl) (fun _ _ _ h => h) (by rfl) hHeld ?_ ?_
        rotate_left
        · intro wz hSz; go_simp; try with_reducible rfl
        simp only [Act.put, List.setIfInBounds_toArray, List.set_cons_zero, List.set_cons_succ]
        refine held_take (i := 14) (v := ?_) rfl (by kernel_rfl) (by kernel_rfl) (by kernel_rfl) (fun _ _ _ h => h) (by rfl) hHeld ?_ ?_
        rotate_left
        · intro wz hSz; obtain ⟨q5, q0, q1, q2, q3, q4⟩ := kR wz hSz; go_simp; try with_reducible rfl
        simp only [Act.put, List.setIfInBounds_toArray, List.set_cons_zero, List.set_cons_succ]
        refine held_take (i := 17) (v := ?_) rfl (by kernel_rfl) (by kernel_rfl) (by kernel_rfl) (fun _ _ _ h => h) (by rfl) hHeld ?_ ?_
        rotate_left
        · intro wz hSz; go_simp; try with_reducible rfl
        simp only [Act.put, List.setIfInBounds_toArray, List.set_cons_zero, List.set_cons_succ]
        refine held_take (i := 18) (v := ?_) rfl (by kernel_rfl) (by kernel_rfl) (by kernel_rfl) (fun _ _ _ h => h) (by rfl) hHeld ?_ ?_
        rotate_left
        · intro wz hSz; have q0 := eb wz hSz; go_simp; try with_reducible rfl
        simp only [Act.put, List.setIfInBounds_toArray, List.set_cons_zero, List.set_cons_succ]
        refine held_call (i := 15) (by kernel_rfl) rfl (by rfl) (by go_simp; try with_reducible rfl) (hPP _) ?_
        rintro e wy ⟨B1, bc1, rfl, hD1, _, _, hy⟩
        refine ⟨_, rfl, below_to hHeld hy, ?_⟩
        replace hHeld := below_to hHeld hy
        simp only [Act.put, List.setIfInBounds_toArray, List.set_cons_zero, List.set_cons_succ]
        have tr := run_text_of bc1 hD1 HTB.out.symm
        clear hy hD1
        refine held_read (i := 16) (v := ?_) (by kernel_rfl) rfl (by rfl) hHeld ?_ ?_
        rotate_left
        · go_simp; try with_reducible rfl
        simp only [Act.put, List.setIfInBounds_toArray, List.set_cons_zero, List.set_cons_succ]
        refine held_take (i := 19) (v := .bool true) rfl (by kernel_rfl) (by kernel_rfl) (by kernel_rfl) (fun _ _ _ h => h) (by rfl) hHeld ?_ ?_
        · intro wz hSz; (go_simp; first | done | rfl | simp)
        simp only [Act.put, List.setIfInBounds_toArray, List.set_cons_zero, List.set_cons_succ]
        refine held_take (i := 20) (v := ?_) rfl (by kernel_rfl) (by kernel_rfl) (by kernel_rfl) (fun _ _ _ h => h) (by rfl) hHeld ?_ ?_
        rotate_left
        · intro wz hSz; go_simp; try with_reducible rfl
        simp only [Act.put, List.setIfInBounds_toArray, List.set_cons_zero, List.set_cons_succ]
        refine held_take (i := 21) (v := ?_) rfl (by kernel_rfl) (by kernel_rfl) (by kernel_rfl) (fun _ _ _ h => h) (by rfl) hHeld ?_ ?_
        rotate_left
        · intro wz hSz; go_simp; try with_reducible rfl
        simp only [Act.put, List.setIfInBounds_toArray, List.set_cons_zero, List.set_cons_succ]
        refine held_take (i := 22) (v := ?_) rfl (by kernel_rfl) (by kernel_rfl) (by kernel_rfl) (fun _ _ _ h => h) (by rfl) hHeld ?_ ?_
        rotate_left
        · intro wz hSz; go_simp; try with_reducible rfl
        simp only [Act.put, List.setIfInBounds_toArray, List.set_cons_zero, List.set_cons_succ]
        refine held_call (i := 23) (by kernel_rfl) rfl (by rfl) (by go_simp; try with_reducible rfl) (hAx _ hHeld) ?_
        rintro e wy ⟨rfl, hy⟩
        refine ⟨_, rfl, below_to hHeld hy, ?_⟩
        replace hHeld := below_to hHeld hy
        simp only [Act.put, List.setIfInBounds_toArray, List.set_cons_zero, List.set_cons_succ]
        refine held_take (i := 24) (v := ?_) rfl (by kernel_rfl) (by kernel_rfl) (by kernel_rfl) (fun _ _ _ h => h) (by rfl) hHeld ?_ ?_
        rotate_left
        · intro wz hSz; go_simp; try with_reducible rfl
        simp only [Act.put, List.setIfInBounds_toArray, List.set_cons_zero, List.set_cons_succ]
        refine held_take (i := 25) (v := ?_) rfl (by kernel_rfl) (by kernel_rfl) (by kernel_rfl) (fun _ _ _ h => h) (by rfl) hHeld ?_ ?_
        rotate_left
        · intro wz hSz; go_simp; try with_reducible rfl
        simp only [Act.put, List.setIfInBounds_toArray, List.set_cons_zero, List.set_cons_succ]
        refine wpAnyH_done (by kernel_rfl) ?_ _
        go_wp2
        go_ret
        exact ⟨rfl, below_to hbA hHeld⟩
  · have hl5z : (5000 : Int) < (L.length : Int) := by omega
    have hA := hAw w (Below.refl _ _)
    have hlz : (L.length : Int) ≤ 9223372036854775807 := by omega
    clear hB hcap hE hAw
    go_enter Tryz.func5, Tryz.ntmps5
    go_wp2_with fail
    refine hA.mono ?_
    rintro x w1 ⟨rfl, hb1⟩
    go_wp2
    go_ret
    exact ⟨rfl, hb1⟩
end Go.Proofs.YtkbeemkmcnfiiaaGreatDoor
