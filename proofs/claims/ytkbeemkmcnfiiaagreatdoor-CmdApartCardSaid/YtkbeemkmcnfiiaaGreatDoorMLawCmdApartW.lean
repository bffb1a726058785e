/- The statement CmdApart: unlike commands that may be have unlike bytes, unlike replies, too. Conditions: none but what the card ties (the library's variables hold what their texts lay). -/
import Derived.Test.YtkbeemkmcnfiiaaGreatDoorMCmAny
import Derived.Test.YtkbeemkmcnfiiaaGreatDoorMRpK
import Derived.Test.YtkbeemkmcnfiiaaGreatDoorMHeld2
import Derived.Deep.CutRange
namespace Go.Proofs.YtkbeemkmcnfiiaaGreatDoor
open Go.ChangeShapes Go.WideShapes Go.ChangeAt Go.RowKit Go.Lib

theorem txt_inj {a b : List UInt8} (h : (⟨a.toArray⟩ : ByteArray) = ⟨b.toArray⟩) : a = b := by
  injection h with h
  exact List.toArray_inj h
theorem putC_same {c d : Cm} (hc : c.In) (hd : d.In) (h1 : cmdB c = true) (h2 : cmdB d = true) : ((⟨(putC c).toArray⟩ : ByteArray) == ⟨(putC d).toArray⟩) = sameC c.kd c.se c.sq c.f c.ve c.K c.n c.s d.kd d.se d.sq d.f d.ve d.K d.n d.s := by
  rw [Bool.eq_iff_iff, beqS, sameC_iff]
  constructor
  · intro h
    obtain rfl := putC_inj hc hd h1 h2 (txt_inj h)
    exact ⟨rfl, rfl, rfl, rfl, rfl, rfl, rfl, rfl⟩
  · obtain ⟨a1, a2, a3, a4, a5, a6, a7, a8⟩ := c
    obtain ⟨b1, b2, b3, b4, b5, b6, b7, b8⟩ := d
    rintro ⟨g1, g2, g3, g4, g5, g6, g7, g8⟩
    dsimp only at g1 g2 g3 g4 g5 g6 g7 g8
    subst g1 g2 g3 g4 g5 g6 g7 g8
    rfl
theorem putP_same {c d : Rp} (hc : c.In) (hd : d.In) (h1 : repB c = true) (h2 : repB d = true) : ((⟨(putP c).toArray⟩ : ByteArray) == ⟨(putP d).toArray⟩) = sameR c.e c.n c.K c.m c.s d.e d.n d.K d.m d.s := by
  rw [Bool.eq_iff_iff, beqS, sameR_iff]
  constructor
  · intro h
    obtain rfl := putP_inj hc hd h1 h2 (txt_inj h)
    exact ⟨rfl, rfl, rfl, rfl, rfl⟩
  · obtain ⟨a1, a2, a3, a4, a5⟩ := c
    obtain ⟨b1, b2, b3, b4, b5⟩ := d
    rintro ⟨g1, g2, g3, g4, g5⟩
    dsimp only at g1 g2 g3 g4 g5
    subst g1 g2 g3 g4 g5
    rfl

/-- What the walk has at hand: four blocks, of two commands, two replies. -/
structure Four4 (w w1 : World) (a b : Cm) (r s : Rp) : Prop where
  below : Below w.heap.size w w1
  a : Blk w1 w.heap.size 25 a.cs
  b : Blk w1 (w.heap.size + 1) 25 b.cs
  r : Blk w1 (w.heap.size + 1 + 1) 28 r.cs
  s : Blk w1 (w.heap.size + 1 + 1 + 1) 28 s.cs
theorem four4_new (w : World) (a b : Cm) (r s : Rp) : Four4 w ((((w.alloc (.cells a.cs 25)).alloc (.cells b.cs 25)).alloc (.cells r.cs 28)).alloc (.cells s.cs 28)) a b r s := by
  obtain ⟨x1, h1⟩ : ∃ x, w.alloc (.cells a.cs 25) = x := ⟨_, rfl⟩
  have b1 := below_alloc w (.cells a.cs 25)
  have n1 := Blk.new w a.cs 25
  have z1 : (w.alloc (.cells a.cs 25)).heap.size = w.heap.size + 1 := by simp
  rw [h1] at b1 n1 z1 ⊢
  obtain ⟨x2, h2⟩ : ∃ x, x1.alloc (.cells b.cs 25) = x := ⟨_, rfl⟩
  have b2 := below_alloc x1 (.cells b.cs 25)
  have n2 := Blk.new x1 b.cs 25
  have z2 : (x1.alloc (.cells b.cs 25)).heap.size = x1.heap.size + 1 := by simp
  rw [h2] at b2 n2 z2 ⊢
  obtain ⟨x3, h3⟩ : ∃ x, x2.alloc (.cells r.cs 28) = x := ⟨_, rfl⟩
  have b3 := below_alloc x2 (.cells r.cs 28)
  have n3 := Blk.new x2 r.cs 28
  have z3 : (x2.alloc (.cells r.cs 28)).heap.size = x2.heap.size + 1 := by simp
  rw [h3] at b3 n3 z3 ⊢
  have b4 := below_alloc x3 (.cells s.cs 28)
  have n4 := Blk.new x3 s.cs 28
  rw [z1] at n2
  rw [z2, z1] at n3
  rw [z3, z2, z1] at n4
  exact ⟨below_to (below_to (below_to b1 b2) b3) b4, ((n1.later b2).later b3).later b4, (n2.later b3).later b4, n3.later b4, n4⟩

set_option maxHeartbeats 4000000 in
set_option maxRecDepth 100000 in
theorem cmdapart_walk (a b : Cm) (r s : Rp) (w : World) (ai : a.In) (af : a.f.size ≤ maxLen) (az : a.s.size ≤ maxLen) (bi : b.In) (bf : b.f.size ≤ maxLen) (bz : b.s.size ≤ maxLen) (ri : r.In) (rs : r.s.size ≤ maxLen) (si : s.In) (ss : s.s.size ≤ maxLen) (hE : Env7 w) :
    Calls Tryz.prog 7 #[a.v, b.v, r.v, s.v] w fun e w' => e = .returned (.bool true) ∧ Below w.heap.size w w' := by
  have F := four4_new w a b r s
  obtain ⟨w1, hw1⟩ : ∃ w1, (((w.alloc (.cells a.cs 25)).alloc (.cells b.cs 25)).alloc (.cells r.cs 28)).alloc (.cells s.cs 28) = w1 := ⟨_, rfl⟩
  rw [hw1] at F
  obtain ⟨hbw1, FA, FB, FR, FQ⟩ := F
  have hE1 := hE.later hbw1
  have hAw := fun w' (hb : Below w1.heap.size w1 w') => cmawake_any w' (hE1.later hb).tabs
  have cS := short_any a w1 af az
  have cT := fun w' => short_any b w' bf bz
  have cA := fun w' (hb : Below w1.heap.size w1 w') => rcheck_any a ai w' (hE1.later hb) (by unfold maxLen at af; omega)
  have cB := fun w' (hb : Below w1.heap.size w1 w') => rcheck_any b bi w' (hE1.later hb) (by unfold maxLen at bf; omega)
  have cR := fun w' => rreply_any r ri w'
  have cQ := fun w' => rreply_any s si w'
  have kA := fun wz (h : Below w1.heap.size w1 wz) => (FA.later h).c8
  have kB := fun wz (h : Below w1.heap.size w1 wz) => (FB.later h).c8
  have kR := fun wz (h : Below w1.heap.size w1 wz) => (FR.later h).c5
  have kQ := fun wz (h : Below w1.heap.size w1 wz) => (FQ.later h).c5
  have pA := fun (h : cmdB a = true) (h2 : shortB a = true) w' => pput_any a ai (cmdB_kind h) w' (by unfold shortB at h2; simp only [Bool.and_eq_true, decide_eq_true_eq] at h2; rw [size_list]; omega) (by unfold shortB at h2; simp only [Bool.and_eq_true, decide_eq_true_eq] at h2; rw [size_list]; omega)
  have pB := fun (h : cmdB b = true) (h2 : shortB b = true) w' => pput_any b bi (cmdB_kind h) w' (by unfold shortB at h2; simp only [Bool.and_eq_true, decide_eq_true_eq] at h2; rw [size_list]; omega) (by unfold shortB at h2; simp only [Bool.and_eq_true, decide_eq_true_eq] at h2; rw [size_list]; omega)
  have pR := fun (h : r.s.size ≤ 1000) w' => pputr_any r ri w' (by rw [size_list]; omega)
  have pQ := fun (h : s.s.size ≤ 1000) w' => pputr_any s si w' (by rw [size_list]; omega)
  have hTC := fun h1 h2 => putC_same (c := a) (d := b) ai bi h1 h2
  have hTR := fun h1 h2 => putP_same (c := r) (d := s) ri si h1 h2
  obtain ⟨XA, hXA⟩ : ∃ X, putC a = X := ⟨_, rfl⟩
  obtain ⟨XB, hXB⟩ : ∃ X, putC b = X := ⟨_, rfl⟩
  obtain ⟨XR, hXR⟩ : ∃ X, putP r = X := ⟨_, rfl⟩
  obtain ⟨XQ, hXQ⟩ : ∃ X, putP s = X := ⟨_, rfl⟩
  simp only [hXA] at pA hTC
  simp only [hXB] at pB hTC
  simp only [hXR] at pR hTR
  simp only [hXQ] at pQ hTR
  obtain ⟨UA, hUA⟩ : ∃ U : ByteArray, (⟨XA.toArray⟩ : ByteArray) = U := ⟨_, rfl⟩
  obtain ⟨UB, hUB⟩ : ∃ U : ByteArray, (⟨XB.toArray⟩ : ByteArray) = U := ⟨_, rfl⟩
  obtain ⟨UR, hUR⟩ : ∃ U : ByteArray, (⟨XR.toArray⟩ : ByteArray) = U := ⟨_, rfl⟩
  obtain ⟨UQ, hUQ⟩ : ∃ U : ByteArray, (⟨XQ.toArray⟩ : ByteArray) = U := ⟨_, rfl⟩
  simp only [hUA, hUB, beq_toListBytes] at hTC
  simp only [hUR, hUQ, beq_toListBytes] at hTR
  have HTA := Lib.hid hUA
  have HTB := Lib.hid hUB
  have HTR := Lib.hid hUR
  have HTQ := Lib.hid hUQ
  have hqC := fun w => eqlIn_cmd a.kd a.se a.sq a.f a.ve a.K a.n a.s b.kd b.se b.sq b.f b.ve b.K b.n b.s w
  have hqR := fun w => eqlIn_rep r.e r.n r.K r.m r.s s.e s.n s.K s.m s.s w
  generalize sameC a.kd a.se a.sq a.f a.ve a.K a.n a.s b.kd b.se b.sq b.f b.ve b.K b.n b.s = ZC at *
  generalize sameR r.e r.n r.K r.m r.s s.e s.n s.K s.m s.s = ZR at *
  obtain ⟨BA, hBA⟩ : ∃ B, cmdB a = B := ⟨_, rfl⟩
  obtain ⟨BB, hBB⟩ : ∃ B, cmdB b = B := ⟨_, rfl⟩
  obtain ⟨BR, hBR⟩ : ∃ B, repB r = B := ⟨_, rfl⟩
  obtain ⟨BQ, hBQ⟩ : ∃ B, repB s = B := ⟨_, rfl⟩
  obtain ⟨SA, hSA⟩ : ∃ B, shortB a = B := ⟨_, rfl⟩
  obtain ⟨SB, hSB⟩ : ∃ B, shortB b = B := ⟨_, rfl⟩
  simp only [hBA] at cA pA hTC
  simp only [hBB] at cB pB hTC
  simp only [hBR] at cR hTR
  simp only [hBQ] at cQ hTR
  simp only [hSA] at cS pA
  simp only [hSB] at cT pB
  obtain ⟨akd, ase, asq, af_, ave, aK, an, as_⟩ := a
  obtain ⟨bkd, bse, bsq, bf_, bve, bK, bn, bs_⟩ := b
  obtain ⟨re, rn, rK, rm, rs_⟩ := r
  obtain ⟨se, sn, sK, sm, ss_⟩ := s
  simp only [Cm.v, Cm.cs, Rp.v, Rp.cs] at hw1 FA FB FR FQ cS cT cA cB cR cQ kA kB kR kQ pA pB pR pQ hqC hqR rs ss ⊢
  unfold maxLen at rs ss
  clear ai bi ri si hE hE1 hXA hXB hXR hXQ hUA hUB hUR hUQ hBA hBB hBR hBQ hSA hSB af az bf bz
  clear FB FR FQ
  cases SA with
  | false =>
    go_enter Tryz.func7, Tryz.ntmps7
    obtain ⟨hl, c0, c1, c2, c3, c4, c5, c6, c7⟩ := FA.c8
    go_wp2_with fail
    refine cS.mono ?_
    rintro x w2 ⟨rfl, hb2⟩
    clear hl c0 c1 c2 c3 c4 c5 c6 c7 cS
    have hA := hAw w2 hb2
    have hbw2 := below_to hbw1 hb2
    clear hw1
    go_wp2_with fail
    refine hA.mono ?_
    rintro x w9 ⟨rfl, hb9⟩
    go_wp2
    go_ret
    exact ⟨rfl, below_to hbw2 hb9⟩
  | true =>
    cases SB with
    | false =>
      go_enter Tryz.func7, Tryz.ntmps7
      obtain ⟨hl, c0, c1, c2, c3, c4, c5, c6, c7⟩ := FA.c8
      go_wp2_with fail
      refine cS.mono ?_
      rintro x w2 ⟨rfl, hb2⟩
      clear hl c0 c1 c2 c3 c4 c5 c6 c7 cS
      obtain ⟨hl, c0, c1, c2, c3, c4, c5, c6, c7⟩ := kB w2 hb2
      go_wp2_with fail
      refine (cT w2).mono ?_
      rintro x w3 ⟨rfl, hb3⟩
      replace hb3 := below_to hb2 hb3
      clear hl c0 c1 c2 c3 c4 c5 c6 c7 cT
      have hA := hAw w3 hb3
      have hbw3 := below_to hbw1 hb3
      clear hw1
      go_wp2_with fail
      refine hA.mono ?_
      rintro x w9 ⟨rfl, hb9⟩
      go_wp2
      go_ret
      exact ⟨rfl, below_to hbw3 hb9⟩
    | true =>
      by_cases hr : rs_.size ≤ 1000
      · have hrz : ¬ (1000 : Int) < (rs_.size : Int) := by omega
        have hrd : decide ((1000 : Int) < (rs_.size : Int)) = false := decide_eq_false hrz
        by_cases hs : ss_.size ≤ 1000
        · have hsz : ¬ (1000 : Int) < (ss_.size : Int) := by omega
          have hsd : decide ((1000 : Int) < (ss_.size : Int)) = false := decide_eq_false hsz
          replace pR := pR hr
          replace pQ := pQ hs
          go_enter Tryz.func7, Tryz.ntmps7
          obtain ⟨hl, c0, c1, c2, c3, c4, c5, c6, c7⟩ := FA.c8
          go_wp2_with fail
          refine cS.mono ?_
          rintro x w2 ⟨rfl, hb2⟩
          clear hl c0 c1 c2 c3 c4 c5 c6 c7 cS hw1
          obtain ⟨hl, c0, c1, c2, c3, c4, c5, c6, c7⟩ := kB w2 hb2
          go_wp2_with fail
          refine (cT w2).mono ?_
          rintro x w3 ⟨rfl, hb3⟩
          replace hb3 := below_to hb2 hb3
          clear hl c0 c1 c2 c3 c4 c5 c6 c7 cT hb2
          obtain ⟨hl, r0, r1, r2, r3, r4⟩ := kR w3 hb3
          obtain ⟨hql, q0, q1, q2, q3, q4⟩ := kQ w3 hb3
          have hb2 := hb3
          go_upto_region 3 with (fail)
          clear hl r0 r1 r2 r3 r4 hql q0 q1 q2 q3 q4 hrz hrd hsz hsd
          go_cut [50] from 9 (fun s50 wx => s50 = .bool false ∧ Hid (Below w1.heap.size w1 wx))
          case first =>
            cases BA with
            | false =>
              refine wp_region_held_drew (S := fun w' => Below w1.heap.size w1 w') (by kernel_rfl) (hb2.drew) (fun hHeld => ?_)
              refine held_take (i := 0) (v := ?_) rfl (by kernel_rfl) (by kernel_rfl) (by kernel_rfl) (fun _ _ _ h => h) (by rfl) hHeld ?_ ?_
              rotate_left
              · intro wz hSz; obtain ⟨q8, q0, q1, q2, q3, q4, q5, q6, q7⟩ := kA wz hSz; go_simp; try with_reducible rfl
              simp only [Act.put, List.setIfInBounds_toArray, List.set_cons_zero, List.set_cons_succ]
              refine held_call (i := 1) (by kernel_rfl) rfl (by rfl) (by go_simp; try with_reducible rfl) (cA _ hHeld) ?_
              rintro e wy ⟨rfl, hy⟩
              refine ⟨_, rfl, below_to hHeld hy, ?_⟩
              replace hHeld := below_to hHeld hy
              simp only [Act.put, List.setIfInBounds_toArray, List.set_cons_zero, List.set_cons_succ]
              clear hy
              refine held_take (i := 2) (v := ?_) rfl (by kernel_rfl) (by kernel_rfl) (by kernel_rfl) (fun _ _ _ h => h) (by rfl) hHeld ?_ ?_
              rotate_left
              · intro wz hSz; go_simp; try with_reducible rfl
              simp only [Act.put, List.setIfInBounds_toArray, List.set_cons_zero, List.set_cons_succ]
              refine held_skip (i := 3) rfl (by kernel_rfl) (by kernel_rfl) (by kernel_rfl) (fun _ _ _ h => h) (by rfl) hHeld ?_
              simp only [Act.put, List.setIfInBounds_toArray, List.set_cons_zero, List.set_cons_succ]
              refine held_skip (i := 4) rfl (by kernel_rfl) (by kernel_rfl) (by kernel_rfl) (fun _ _ _ h => h) (by rfl) hHeld ?_
              simp only [Act.put, List.setIfInBounds_toArray, List.set_cons_zero, List.set_cons_succ]
              refine held_take (i := 5) (v := ?_) rfl (by kernel_rfl) (by kernel_rfl) (by kernel_rfl) (fun _ _ _ h => h) (by rfl) hHeld ?_ ?_
              rotate_left
              · intro wz hSz; go_simp; try with_reducible rfl
              simp only [Act.put, List.setIfInBounds_toArray, List.set_cons_zero, List.set_cons_succ]
              refine held_take (i := 6) (v := ?_) rfl (by kernel_rfl) (by kernel_rfl) (by kernel_rfl) (fun _ _ _ h => h) (by rfl) hHeld ?_ ?_
              rotate_left
              · intro wz hSz; go_simp; try with_reducible rfl
              simp only [Act.put, List.setIfInBounds_toArray, List.set_cons_zero, List.set_cons_succ]
              refine held_skip (i := 7) rfl (by kernel_rfl) (by kernel_rfl) (by kernel_rfl) (fun _ _ _ h => h) (by rfl) hHeld ?_
              simp only [Act.put, List.setIfInBounds_toArray, List.set_cons_zero, List.set_cons_succ]
              refine held_skip (i := 8) rfl (by kernel_rfl) (by kernel_rfl) (by kernel_rfl) (fun _ _ _ h => h) (by rfl) hHeld ?_
              simp only [Act.put, List.setIfInBounds_toArray, List.set_cons_zero, List.set_cons_succ]
              refine held_skip (i := 9) rfl (by kernel_rfl) (by kernel_rfl) (by kernel_rfl) (fun _ _ _ h => h) (by rfl) hHeld ?_
              simp only [Act.put, List.setIfInBounds_toArray, List.set_cons_zero, List.set_cons_succ]
              refine held_skip (i := 10) rfl (by kernel_rfl) (by kernel_rfl) (by kernel_rfl) (fun _ _ _ h => h) (by rfl) hHeld ?_
              simp only [Act.put, List.setIfInBounds_toArray, List.set_cons_zero, List.set_cons_succ]
              refine held_skip (i := 11) rfl (by kernel_rfl) (by kernel_rfl) (by kernel_rfl) (fun _ _ _ h => h) (by rfl) hHeld ?_
              simp only [Act.put, List.setIfInBounds_toArray, List.set_cons_zero, List.set_cons_succ]
              refine held_skip (i := 12) rfl (by kernel_rfl) (by kernel_rfl) (by kernel_rfl) (fun _ _ _ h => h) (by rfl) hHeld ?_
              simp only [Act.put, List.setIfInBounds_toArray, List.set_cons_zero, List.set_cons_succ]
              refine held_skip (i := 13) rfl (by kernel_rfl) (by kernel_rfl) (by kernel_rfl) (fun _ _ _ h => h) (by rfl) hHeld ?_
              simp only [Act.put, List.setIfInBounds_toArray, List.set_cons_zero, List.set_cons_succ]
              refine held_skip (i := 14) rfl (by kernel_rfl) (by kernel_rfl) (by kernel_rfl) (fun _ _ _ h => h) (by rfl) hHeld ?_
              simp only [Act.put, List.setIfInBounds_toArray, List.set_cons_zero, List.set_cons_succ]
              refine held_skip (i := 15) rfl (by kernel_rfl) (by kernel_rfl) (by kernel_rfl) (fun _ _ _ h => h) (by rfl) hHeld ?_
              simp only [Act.put, List.setIfInBounds_toArray, List.set_cons_zero, List.set_cons_succ]
              refine held_skip (i := 16) rfl (by kernel_rfl) (by kernel_rfl) (by kernel_rfl) (fun _ _ _ h => h) (by rfl) hHeld ?_
              simp only [Act.put, List.setIfInBounds_toArray, List.set_cons_zero, List.set_cons_succ]
              refine held_skip (i := 17) rfl (by kernel_rfl) (by kernel_rfl) (by kernel_rfl) (fun _ _ _ h => h) (by rfl) hHeld ?_
              simp only [Act.put, List.setIfInBounds_toArray, List.set_cons_zero, List.set_cons_succ]
              refine held_take (i := 18) (v := ?_) rfl (by kernel_rfl) (by kernel_rfl) (by kernel_rfl) (fun _ _ _ h => h) (by rfl) hHeld ?_ ?_
              rotate_left
              · intro wz hSz; go_simp; try with_reducible rfl
              simp only [Act.put, List.setIfInBounds_toArray, List.set_cons_zero, List.set_cons_succ]
              refine wpAnyH_done (by kernel_rfl) ?_ _
              go_wp2_with fail
              go_meet
              exact ⟨rfl, Lib.hid hHeld⟩
            | true =>
              cases BB with
              | false =>
                refine wp_region_held_drew (S := fun w' => Below w1.heap.size w1 w') (by kernel_rfl) (hb2.drew) (fun hHeld => ?_)
                refine held_take (i := 0) (v := ?_) rfl (by kernel_rfl) (by kernel_rfl) (by kernel_rfl) (fun _ _ _ h => h) (by rfl) hHeld ?_ ?_
                rotate_left
                · intro wz hSz; obtain ⟨q8, q0, q1, q2, q3, q4, q5, q6, q7⟩ := kA wz hSz; go_simp; try with_reducible rfl
                simp only [Act.put, List.setIfInBounds_toArray, List.set_cons_zero, List.set_cons_succ]
                refine held_call (i := 1) (by kernel_rfl) rfl (by rfl) (by go_simp; try with_reducible rfl) (cA _ hHeld) ?_
                rintro e wy ⟨rfl, hy⟩
                refine ⟨_, rfl, below_to hHeld hy, ?_⟩
                replace hHeld := below_to hHeld hy
                simp only [Act.put, List.setIfInBounds_toArray, List.set_cons_zero, List.set_cons_succ]
                clear hy
                refine held_take (i := 2) (v := ?_) rfl (by kernel_rfl) (by kernel_rfl) (by kernel_rfl) (fun _ _ _ h => h) (by rfl) hHeld ?_ ?_
                rotate_left
                · intro wz hSz; go_simp; try with_reducible rfl
                simp only [Act.put, List.setIfInBounds_toArray, List.set_cons_zero, List.set_cons_succ]
                refine held_take (i := 3) (v := ?_) rfl (by kernel_rfl) (by kernel_rfl) (by kernel_rfl) (fun _ _ _ h => h) (by rfl) hHeld ?_ ?_
                rotate_left
                · intro wz hSz; obtain ⟨q8, q0, q1, q2, q3, q4, q5, q6, q7⟩ := kB wz hSz; go_simp; try with_reducible rfl
                simp only [Act.put, List.setIfInBounds_toArray, List.set_cons_zero, List.set_cons_succ]
                refine held_call (i := 4) (by kernel_rfl) rfl (by rfl) (by go_simp; try with_reducible rfl) (cB _ hHeld) ?_
                rintro e wy ⟨rfl, hy⟩
                refine ⟨_, rfl, below_to hHeld hy, ?_⟩
                replace hHeld := below_to hHeld hy
                simp only [Act.put, List.setIfInBounds_toArray, List.set_cons_zero, List.set_cons_succ]
                clear hy
                refine held_take (i := 5) (v := ?_) rfl (by kernel_rfl) (by kernel_rfl) (by kernel_rfl) (fun _ _ _ h => h) (by rfl) hHeld ?_ ?_
                rotate_left
                · intro wz hSz; go_simp; try with_reducible rfl
                simp only [Act.put, List.setIfInBounds_toArray, List.set_cons_zero, List.set_cons_succ]
                refine held_take (i := 6) (v := ?_) rfl (by kernel_rfl) (by kernel_rfl) (by kernel_rfl) (fun _ _ _ h => h) (by rfl) hHeld ?_ ?_
                rotate_left
                · intro wz hSz; go_simp; try with_reducible rfl
                simp only [Act.put, List.setIfInBounds_toArray, List.set_cons_zero, List.set_cons_succ]
                refine held_skip (i := 7) rfl (by kernel_rfl) (by kernel_rfl) (by kernel_rfl) (fun _ _ _ h => h) (by rfl) hHeld ?_
                simp only [Act.put, List.setIfInBounds_toArray, List.set_cons_zero, List.set_cons_succ]
                refine held_skip (i := 8) rfl (by kernel_rfl) (by kernel_rfl) (by kernel_rfl) (fun _ _ _ h => h) (by rfl) hHeld ?_
                simp only [Act.put, List.setIfInBounds_toArray, List.set_cons_zero, List.set_cons_succ]
                refine held_skip (i := 9) rfl (by kernel_rfl) (by kernel_rfl) (by kernel_rfl) (fun _ _ _ h => h) (by rfl) hHeld ?_
                simp only [Act.put, List.setIfInBounds_toArray, List.set_cons_zero, List.set_cons_succ]
                refine held_skip (i := 10) rfl (by kernel_rfl) (by kernel_rfl) (by kernel_rfl) (fun _ _ _ h => h) (by rfl) hHeld ?_
                simp only [Act.put, List.setIfInBounds_toArray, List.set_cons_zero, List.set_cons_succ]
                refine held_skip (i := 11) rfl (by kernel_rfl) (by kernel_rfl) (by kernel_rfl) (fun _ _ _ h => h) (by rfl) hHeld ?_
                simp only [Act.put, List.setIfInBounds_toArray, List.set_cons_zero, List.set_cons_succ]
                refine held_skip (i := 12) rfl (by kernel_rfl) (by kernel_rfl) (by kernel_rfl) (fun _ _ _ h => h) (by rfl) hHeld ?_
                simp only [Act.put, List.setIfInBounds_toArray, List.set_cons_zero, List.set_cons_succ]
                refine held_skip (i := 13) rfl (by kernel_rfl) (by kernel_rfl) (by kernel_rfl) (fun _ _ _ h => h) (by rfl) hHeld ?_
                simp only [Act.put, List.setIfInBounds_toArray, List.set_cons_zero, List.set_cons_succ]
                refine held_skip (i := 14) rfl (by kernel_rfl) (by kernel_rfl) (by kernel_rfl) (fun _ _ _ h => h) (by rfl) hHeld ?_
                simp only [Act.put, List.setIfInBounds_toArray, List.set_cons_zero, List.set_cons_succ]
                refine held_skip (i := 15) rfl (by kernel_rfl) (by kernel_rfl) (by kernel_rfl) (fun _ _ _ h => h) (by rfl) hHeld ?_
                simp only [Act.put, List.setIfInBounds_toArray, List.set_cons_zero, List.set_cons_succ]
                refine held_skip (i := 16) rfl (by kernel_rfl) (by kernel_rfl) (by kernel_rfl) (fun _ _ _ h => h) (by rfl) hHeld ?_
                simp only [Act.put, List.setIfInBounds_toArray, List.set_cons_zero, List.set_cons_succ]
                refine held_skip (i := 17) rfl (by kernel_rfl) (by kernel_rfl) (by kernel_rfl) (fun _ _ _ h => h) (by rfl) hHeld ?_
                simp only [Act.put, List.setIfInBounds_toArray, List.set_cons_zero, List.set_cons_succ]
                refine held_take (i := 18) (v := ?_) rfl (by kernel_rfl) (by kernel_rfl) (by kernel_rfl) (fun _ _ _ h => h) (by rfl) hHeld ?_ ?_
                rotate_left
                · intro wz hSz; go_simp; try with_reducible rfl
                simp only [Act.put, List.setIfInBounds_toArray, List.set_cons_zero, List.set_cons_succ]
                refine wpAnyH_done (by kernel_rfl) ?_ _
                go_wp2_with fail
                go_meet
                exact ⟨rfl, Lib.hid hHeld⟩
              | true =>
                replace pA := pA (by trivial) (by trivial)
                replace pB := pB (by trivial) (by trivial)
                replace hTC := hTC (by trivial) (by trivial)
                refine wp_region_held_drew (S := fun w' => Below w1.heap.size w1 w') (by kernel_rfl) (hb2.drew) (fun hHeld => ?_)
                refine held_take (i := 0) (v := ?_) rfl (by kernel_rfl) (by kernel_rfl) (by kernel_rfl) (fun _ _ _ h => h) (by rfl) hHeld ?_ ?_
                rotate_left
                · intro wz hSz; obtain ⟨q8, q0, q1, q2, q3, q4, q5, q6, q7⟩ := kA wz hSz; go_simp; try with_reducible rfl
                simp only [Act.put, List.setIfInBounds_toArray, List.set_cons_zero, List.set_cons_succ]
                refine held_call (i := 1) (by kernel_rfl) rfl (by rfl) (by go_simp; try with_reducible rfl) (cA _ hHeld) ?_
                rintro e wy ⟨rfl, hy⟩
                refine ⟨_, rfl, below_to hHeld hy, ?_⟩
                replace hHeld := below_to hHeld hy
                simp only [Act.put, List.setIfInBounds_toArray, List.set_cons_zero, List.set_cons_succ]
                clear hy
                refine held_take (i := 2) (v := ?_) rfl (by kernel_rfl) (by kernel_rfl) (by kernel_rfl) (fun _ _ _ h => h) (by rfl) hHeld ?_ ?_
                rotate_left
                · intro wz hSz; go_simp; try with_reducible rfl
                simp only [Act.put, List.setIfInBounds_toArray, List.set_cons_zero, List.set_cons_succ]
                refine held_take (i := 3) (v := ?_) rfl (by kernel_rfl) (by kernel_rfl) (by kernel_rfl) (fun _ _ _ h => h) (by rfl) hHeld ?_ ?_
                rotate_left
                · intro wz hSz; obtain ⟨q8, q0, q1, q2, q3, q4, q5, q6, q7⟩ := kB wz hSz; go_simp; try with_reducible rfl
                simp only [Act.put, List.setIfInBounds_toArray, List.set_cons_zero, List.set_cons_succ]
                refine held_call (i := 4) (by kernel_rfl) rfl (by rfl) (by go_simp; try with_reducible rfl) (cB _ hHeld) ?_
                rintro e wy ⟨rfl, hy⟩
                refine ⟨_, rfl, below_to hHeld hy, ?_⟩
                replace hHeld := below_to hHeld hy
                simp only [Act.put, List.setIfInBounds_toArray, List.set_cons_zero, List.set_cons_succ]
                clear hy
                refine held_take (i := 5) (v := ?_) rfl (by kernel_rfl) (by kernel_rfl) (by kernel_rfl) (fun _ _ _ h => h) (by rfl) hHeld ?_ ?_
                rotate_left
                · intro wz hSz; go_simp; try with_reducible rfl
                simp only [Act.put, List.setIfInBounds_toArray, List.set_cons_zero, List.set_cons_succ]
                refine held_take (i := 6) (v := ?_) rfl (by kernel_rfl) (by kernel_rfl) (by kernel_rfl) (fun _ _ _ h => h) (by rfl) hHeld ?_ ?_
                rotate_left
                · intro wz hSz; go_simp; try with_reducible rfl
                simp only [Act.put, List.setIfInBounds_toArray, List.set_cons_zero, List.set_cons_succ]
                refine held_take (i := 7) (v := ?_) rfl (by kernel_rfl) (by kernel_rfl) (by kernel_rfl) (fun _ _ _ h => h) (by rfl) hHeld ?_ ?_
                rotate_left
                · intro wz hSz; obtain ⟨q8, q0, q1, q2, q3, q4, q5, q6, q7⟩ := kA wz hSz; go_simp; try with_reducible rfl
                simp only [Act.put, List.setIfInBounds_toArray, List.set_cons_zero, List.set_cons_succ]
                refine held_take (i := 10) (v := ?_) rfl (by kernel_rfl) (by kernel_rfl) (by kernel_rfl) (fun _ _ _ h => h) (by rfl) hHeld ?_ ?_
                rotate_left
                · intro wz hSz; obtain ⟨q8, q0, q1, q2, q3, q4, q5, q6, q7⟩ := kB wz hSz; go_simp; try with_reducible rfl
                simp only [Act.put, List.setIfInBounds_toArray, List.set_cons_zero, List.set_cons_succ]
                refine held_take (i := 14) (v := ?_) rfl (by kernel_rfl) (by kernel_rfl) (by kernel_rfl) (fun _ _ _ h => h) (by rfl) hHeld ?_ ?_
                rotate_left
                · intro wz hSz; obtain ⟨q8, q0, q1, q2, q3, q4, q5, q6, q7⟩ := kA wz hSz; go_simp; try with_reducible rfl
                simp only [Act.put, List.setIfInBounds_toArray, List.set_cons_zero, List.set_cons_succ]
                refine held_take (i := 15) (v := ?_) rfl (by kernel_rfl) (by kernel_rfl) (by kernel_rfl) (fun _ _ _ h => h) (by rfl) hHeld ?_ ?_
                rotate_left
                · intro wz hSz; obtain ⟨q8, q0, q1, q2, q3, q4, q5, q6, q7⟩ := kB wz hSz; go_simp; try with_reducible rfl
                simp only [Act.put, List.setIfInBounds_toArray, List.set_cons_zero, List.set_cons_succ]
                refine held_take (i := 16) (v := .bool ZC) rfl (by kernel_rfl) (by kernel_rfl) (by kernel_rfl) (fun _ _ _ h => h) (by rfl) hHeld ?_ ?_
                · intro wz hSz; (go_simp; first | done | rfl | simp [hqC])
                simp only [Act.put, List.setIfInBounds_toArray, List.set_cons_zero, List.set_cons_succ]
                refine held_call (i := 8) (by kernel_rfl) rfl (by rfl) (by go_simp; try with_reducible rfl) (pA _) ?_
                rintro e wy ⟨A1, p1, rfl, hB1, _, _, hy⟩
                refine ⟨_, rfl, below_to hHeld hy, ?_⟩
                replace hHeld := below_to hHeld hy
                simp only [Act.put, List.setIfInBounds_toArray, List.set_cons_zero, List.set_cons_succ]
                have r1 := run_text_of p1 hB1 HTA.out
                clear hy
                refine held_make_call (i := 9) (j := 11) (v := .string UA) (by kernel_rfl) rfl rfl (by rfl) (by rfl) hHeld (by go_simp; try with_reducible rfl) (by go_simp; try with_reducible rfl) (pB _) ?_ ?_
                · simp only [Act.put, List.setIfInBounds_toArray, List.set_cons_zero, List.set_cons_succ]
                  refine held_call (i := 11) (by kernel_rfl) rfl (by rfl) (by go_simp; try with_reducible rfl) (pB _) ?_
                  rintro e wy ⟨A2, p2, rfl, hB2, _, _, hy⟩
                  refine ⟨_, rfl, below_to hHeld hy, ?_⟩
                  replace hHeld := below_to hHeld hy
                  simp only [Act.put, List.setIfInBounds_toArray, List.set_cons_zero, List.set_cons_succ]
                  have r2 := run_text_of p2 hB2 HTB.out
                  clear hy
                  refine held_read (i := 12) (v := ?_) (by kernel_rfl) rfl (by rfl) hHeld ?_ ?_
                  rotate_left
                  · go_simp; try with_reducible rfl
                  simp only [Act.put, List.setIfInBounds_toArray, List.set_cons_zero, List.set_cons_succ]
                  refine held_take (i := 13) (v := .bool ZC) rfl (by kernel_rfl) (by kernel_rfl) (by kernel_rfl) (fun _ _ _ h => h) (by rfl) hHeld ?_ ?_
                  · intro wz hSz; (go_simp; first | done | rfl | exact hTC | simp [hTC])
                  simp only [Act.put, List.setIfInBounds_toArray, List.set_cons_zero, List.set_cons_succ]
                  refine held_take (i := 17) (v := .bool false) rfl (by kernel_rfl) (by kernel_rfl) (by kernel_rfl) (fun _ _ _ h => h) (by rfl) hHeld ?_ ?_
                  · intro wz hSz; (go_simp; first | done | rfl | simp)
                  simp only [Act.put, List.setIfInBounds_toArray, List.set_cons_zero, List.set_cons_succ]
                  refine held_take (i := 18) (v := ?_) rfl (by kernel_rfl) (by kernel_rfl) (by kernel_rfl) (fun _ _ _ h => h) (by rfl) hHeld ?_ ?_
                  rotate_left
                  · intro wz hSz; go_simp; try with_reducible rfl
                  simp only [Act.put, List.setIfInBounds_toArray, List.set_cons_zero, List.set_cons_succ]
                  refine wpAnyH_done (by kernel_rfl) ?_ _
                  go_wp2_with fail
                  go_meet
                  exact ⟨rfl, Lib.hid hHeld⟩
                · rintro e wy ⟨A2, p2, rfl, hB2, _, _, hy⟩
                  refine ⟨_, rfl, below_to hHeld hy, ?_⟩
                  replace hHeld := below_to hHeld hy
                  have r3 := run_text_of p1 (hB1.below hy) HTA.out
                  have r2 := run_text_of p2 hB2 HTB.out
                  clear hy r1
                  simp only [Act.put, List.setIfInBounds_toArray, List.set_cons_zero, List.set_cons_succ]
                  refine held_read_read (i := 9) (j := 12) (v := .string UA) (v2 := .string UB) (by kernel_rfl) rfl rfl (by rfl) (by rfl) hHeld (by go_simp; try with_reducible rfl) (by go_simp; try with_reducible rfl) ?_ ?_
                  · simp only [Act.put, List.setIfInBounds_toArray, List.set_cons_zero, List.set_cons_succ]
                    refine held_read (i := 12) (v := ?_) (by kernel_rfl) rfl (by rfl) hHeld ?_ ?_
                    rotate_left
                    · go_simp; try with_reducible rfl
                    simp only [Act.put, List.setIfInBounds_toArray, List.set_cons_zero, List.set_cons_succ]
                    refine held_take (i := 13) (v := .bool ZC) rfl (by kernel_rfl) (by kernel_rfl) (by kernel_rfl) (fun _ _ _ h => h) (by rfl) hHeld ?_ ?_
                    · intro wz hSz; (go_simp; first | done | rfl | exact hTC | simp [hTC])
                    simp only [Act.put, List.setIfInBounds_toArray, List.set_cons_zero, List.set_cons_succ]
                    refine held_take (i := 17) (v := .bool false) rfl (by kernel_rfl) (by kernel_rfl) (by kernel_rfl) (fun _ _ _ h => h) (by rfl) hHeld ?_ ?_
                    · intro wz hSz; (go_simp; first | done | rfl | simp)
                    simp only [Act.put, List.setIfInBounds_toArray, List.set_cons_zero, List.set_cons_succ]
                    refine held_take (i := 18) (v := ?_) rfl (by kernel_rfl) (by kernel_rfl) (by kernel_rfl) (fun _ _ _ h => h) (by rfl) hHeld ?_ ?_
                    rotate_left
                    · intro wz hSz; go_simp; try with_reducible rfl
                    simp only [Act.put, List.setIfInBounds_toArray, List.set_cons_zero, List.set_cons_succ]
                    refine wpAnyH_done (by kernel_rfl) ?_ _
                    go_wp2_with fail
                    go_meet
                    exact ⟨rfl, Lib.hid hHeld⟩
                  · simp only [Act.put, List.setIfInBounds_toArray, List.set_cons_zero, List.set_cons_succ]
                    refine held_read (i := 9) (v := ?_) (by kernel_rfl) rfl (by rfl) hHeld ?_ ?_
                    rotate_left
                    · go_simp; try with_reducible rfl
                    simp only [Act.put, List.setIfInBounds_toArray, List.set_cons_zero, List.set_cons_succ]
                    refine held_take (i := 13) (v := .bool ZC) rfl (by kernel_rfl) (by kernel_rfl) (by kernel_rfl) (fun _ _ _ h => h) (by rfl) hHeld ?_ ?_
                    · intro wz hSz; (go_simp; first | done | rfl | exact hTC | simp [hTC])
                    simp only [Act.put, List.setIfInBounds_toArray, List.set_cons_zero, List.set_cons_succ]
                    refine held_take (i := 17) (v := .bool false) rfl (by kernel_rfl) (by kernel_rfl) (by kernel_rfl) (fun _ _ _ h => h) (by rfl) hHeld ?_ ?_
                    · intro wz hSz; (go_simp; first | done | rfl | simp)
                    simp only [Act.put, List.setIfInBounds_toArray, List.set_cons_zero, List.set_cons_succ]
                    refine held_take (i := 18) (v := ?_) rfl (by kernel_rfl) (by kernel_rfl) (by kernel_rfl) (fun _ _ _ h => h) (by rfl) hHeld ?_ ?_
                    rotate_left
                    · intro wz hSz; go_simp; try with_reducible rfl
                    simp only [Act.put, List.setIfInBounds_toArray, List.set_cons_zero, List.set_cons_succ]
                    refine wpAnyH_done (by kernel_rfl) ?_ _
                    go_wp2_with fail
                    go_meet
                    exact ⟨rfl, Lib.hid hHeld⟩
          case rest =>
            obtain ⟨rfl, HBC⟩ := hcut
            clear cA cB pA pB hTC hqC kA kB
            go_upto_region 5 with (fail)
            go_cut [69] from 9 (fun s69 wx => s69 = .bool false ∧ Hid (Below w1.heap.size w1 wx))
            case first =>
              cases BR with
              | false =>
                refine wp_region_held_drew (S := fun w' => Below w1.heap.size w1 w') (by kernel_rfl) (HBC.out.drew) (fun hHeld => ?_)
                refine held_take (i := 0) (v := ?_) rfl (by kernel_rfl) (by kernel_rfl) (by kernel_rfl) (fun _ _ _ h => h) (by rfl) hHeld ?_ ?_
                rotate_left
                · intro wz hSz; obtain ⟨q8, q0, q1, q2, q3, q4⟩ := kR wz hSz; go_simp; try with_reducible rfl
                simp only [Act.put, List.setIfInBounds_toArray, List.set_cons_zero, List.set_cons_succ]
                refine held_call (i := 1) (by kernel_rfl) rfl (by rfl) (by go_simp; try with_reducible rfl) (cR _) ?_
                rintro e wy ⟨rfl, hy⟩
                refine ⟨_, rfl, below_to hHeld hy, ?_⟩
                replace hHeld := below_to hHeld hy
                simp only [Act.put, List.setIfInBounds_toArray, List.set_cons_zero, List.set_cons_succ]
                clear hy
                refine held_take (i := 2) (v := ?_) rfl (by kernel_rfl) (by kernel_rfl) (by kernel_rfl) (fun _ _ _ h => h) (by rfl) hHeld ?_ ?_
                rotate_left
                · intro wz hSz; go_simp; try with_reducible rfl
                simp only [Act.put, List.setIfInBounds_toArray, List.set_cons_zero, List.set_cons_succ]
                refine held_skip (i := 3) rfl (by kernel_rfl) (by kernel_rfl) (by kernel_rfl) (fun _ _ _ h => h) (by rfl) hHeld ?_
                simp only [Act.put, List.setIfInBounds_toArray, List.set_cons_zero, List.set_cons_succ]
                refine held_skip (i := 4) rfl (by kernel_rfl) (by kernel_rfl) (by kernel_rfl) (fun _ _ _ h => h) (by rfl) hHeld ?_
                simp only [Act.put, List.setIfInBounds_toArray, List.set_cons_zero, List.set_cons_succ]
                refine held_take (i := 5) (v := ?_) rfl (by kernel_rfl) (by kernel_rfl) (by kernel_rfl) (fun _ _ _ h => h) (by rfl) hHeld ?_ ?_
                rotate_left
                · intro wz hSz; go_simp; try with_reducible rfl
                simp only [Act.put, List.setIfInBounds_toArray, List.set_cons_zero, List.set_cons_succ]
                refine held_take (i := 6) (v := ?_) rfl (by kernel_rfl) (by kernel_rfl) (by kernel_rfl) (fun _ _ _ h => h) (by rfl) hHeld ?_ ?_
                rotate_left
                · intro wz hSz; go_simp; try with_reducible rfl
                simp only [Act.put, List.setIfInBounds_toArray, List.set_cons_zero, List.set_cons_succ]
                refine held_skip (i := 7) rfl (by kernel_rfl) (by kernel_rfl) (by kernel_rfl) (fun _ _ _ h => h) (by rfl) hHeld ?_
                simp only [Act.put, List.setIfInBounds_toArray, List.set_cons_zero, List.set_cons_succ]
                refine held_skip (i := 8) rfl (by kernel_rfl) (by kernel_rfl) (by kernel_rfl) (fun _ _ _ h => h) (by rfl) hHeld ?_
                simp only [Act.put, List.setIfInBounds_toArray, List.set_cons_zero, List.set_cons_succ]
                refine held_skip (i := 9) rfl (by kernel_rfl) (by kernel_rfl) (by kernel_rfl) (fun _ _ _ h => h) (by rfl) hHeld ?_
                simp only [Act.put, List.setIfInBounds_toArray, List.set_cons_zero, List.set_cons_succ]
                refine held_skip (i := 10) rfl (by kernel_rfl) (by kernel_rfl) (by kernel_rfl) (fun _ _ _ h => h) (by rfl) hHeld ?_
                simp only [Act.put, List.setIfInBounds_toArray, List.set_cons_zero, List.set_cons_succ]
                refine held_skip (i := 11) rfl (by kernel_rfl) (by kernel_rfl) (by kernel_rfl) (fun _ _ _ h => h) (by rfl) hHeld ?_
                simp only [Act.put, List.setIfInBounds_toArray, List.set_cons_zero, List.set_cons_succ]
                refine held_skip (i := 12) rfl (by kernel_rfl) (by kernel_rfl) (by kernel_rfl) (fun _ _ _ h => h) (by rfl) hHeld ?_
                simp only [Act.put, List.setIfInBounds_toArray, List.set_cons_zero, List.set_cons_succ]
                refine held_skip (i := 13) rfl (by kernel_rfl) (by kernel_rfl) (by kernel_rfl) (fun _ _ _ h => h) (by rfl) hHeld ?_
                simp only [Act.put, List.setIfInBounds_toArray, List.set_cons_zero, List.set_cons_succ]
                refine held_skip (i := 14) rfl (by kernel_rfl) (by kernel_rfl) (by kernel_rfl) (fun _ _ _ h => h) (by rfl) hHeld ?_
                simp only [Act.put, List.setIfInBounds_toArray, List.set_cons_zero, List.set_cons_succ]
                refine held_skip (i := 15) rfl (by kernel_rfl) (by kernel_rfl) (by kernel_rfl) (fun _ _ _ h => h) (by rfl) hHeld ?_
                simp only [Act.put, List.setIfInBounds_toArray, List.set_cons_zero, List.set_cons_succ]
                refine held_skip (i := 16) rfl (by kernel_rfl) (by kernel_rfl) (by kernel_rfl) (fun _ _ _ h => h) (by rfl) hHeld ?_
                simp only [Act.put, List.setIfInBounds_toArray, List.set_cons_zero, List.set_cons_succ]
                refine held_skip (i := 17) rfl (by kernel_rfl) (by kernel_rfl) (by kernel_rfl) (fun _ _ _ h => h) (by rfl) hHeld ?_
                simp only [Act.put, List.setIfInBounds_toArray, List.set_cons_zero, List.set_cons_succ]
                refine held_take (i := 18) (v := ?_) rfl (by kernel_rfl) (by kernel_rfl) (by kernel_rfl) (fun _ _ _ h => h) (by rfl) hHeld ?_ ?_
                rotate_left
                · intro wz hSz; go_simp; try with_reducible rfl
                simp only [Act.put, List.setIfInBounds_toArray, List.set_cons_zero, List.set_cons_succ]
                refine wpAnyH_done (by kernel_rfl) ?_ _
                go_wp2_with fail
                go_meet
                exact ⟨rfl, Lib.hid hHeld⟩
              | true =>
                cases BQ with
                | false =>
                  refine wp_region_held_drew (S := fun w' => Below w1.heap.size w1 w') (by kernel_rfl) (HBC.out.drew) (fun hHeld => ?_)
                  refine held_take (i := 0) (v := ?_) rfl (by kernel_rfl) (by kernel_rfl) (by kernel_rfl) (fun _ _ _ h => h) (by rfl) hHeld ?_ ?_
                  rotate_left
                  · intro wz hSz; obtain ⟨q8, q0, q1, q2, q3, q4⟩ := kR wz hSz; go_simp; try with_reducible rfl
                  simp only [Act.put, List.setIfInBounds_toArray, List.set_cons_zero, List.set_cons_succ]
                  refine held_call (i := 1) (by kernel_rfl) rfl (by rfl) (by go_simp; try with_reducible rfl) (cR _) ?_
                  rintro e wy ⟨rfl, hy⟩
                  refine ⟨_, rfl, below_to hHeld hy, ?_⟩
                  replace hHeld := below_to hHeld hy
                  simp only [Act.put, List.setIfInBounds_toArray, List.set_cons_zero, List.set_cons_succ]
                  clear hy
                  refine held_take (i := 2) (v := ?_) rfl (by kernel_rfl) (by kernel_rfl) (by kernel_rfl) (fun _ _ _ h => h) (by rfl) hHeld ?_ ?_
                  rotate_left
                  · intro wz hSz; go_simp; try with_reducible rfl
                  simp only [Act.put, List.setIfInBounds_toArray, List.set_cons_zero, List.set_cons_succ]
                  refine held_take (i := 3) (v := ?_) rfl (by kernel_rfl) (by kernel_rfl) (by kernel_rfl) (fun _ _ _ h => h) (by rfl) hHeld ?_ ?_
                  rotate_left
                  · intro wz hSz; obtain ⟨q8, q0, q1, q2, q3, q4⟩ := kQ wz hSz; go_simp; try with_reducible rfl
                  simp only [Act.put, List.setIfInBounds_toArray, List.set_cons_zero, List.set_cons_succ]
                  refine held_call (i := 4) (by kernel_rfl) rfl (by rfl) (by go_simp; try with_reducible rfl) (cQ _) ?_
                  rintro e wy ⟨rfl, hy⟩
                  refine ⟨_, rfl, below_to hHeld hy, ?_⟩
                  replace hHeld := below_to hHeld hy
                  simp only [Act.put, List.setIfInBounds_toArray, List.set_cons_zero, List.set_cons_succ]
                  clear hy
                  refine held_take (i := 5) (v := ?_) rfl (by kernel_rfl) (by kernel_rfl) (by kernel_rfl) (fun _ _ _ h => h) (by rfl) hHeld ?_ ?_
                  rotate_left
                  · intro wz hSz; go_simp; try with_reducible rfl
                  simp only [Act.put, List.setIfInBounds_toArray, List.set_cons_zero, List.set_cons_succ]
                  refine held_take (i := 6) (v := ?_) rfl (by kernel_rfl) (by kernel_rfl) (by kernel_rfl) (fun _ _ _ h => h) (by rfl) hHeld ?_ ?_
                  rotate_left
                  · intro wz hSz; go_simp; try with_reducible rfl
                  simp only [Act.put, List.setIfInBounds_toArray, List.set_cons_zero, List.set_cons_succ]
                  refine held_skip (i := 7) rfl (by kernel_rfl) (by kernel_rfl) (by kernel_rfl) (fun _ _ _ h => h) (by rfl) hHeld ?_
                  simp only [Act.put, List.setIfInBounds_toArray, List.set_cons_zero, List.set_cons_succ]
                  refine held_skip (i := 8) rfl (by kernel_rfl) (by kernel_rfl) (by kernel_rfl) (fun _ _ _ h => h) (by rfl) hHeld ?_
                  simp only [Act.put, List.setIfInBounds_toArray, List.set_cons_zero, List.set_cons_succ]
                  refine held_skip (i := 9) rfl (by kernel_rfl) (by kernel_rfl) (by kernel_rfl) (fun _ _ _ h => h) (by rfl) hHeld ?_
                  simp only [Act.put, List.setIfInBounds_toArray, List.set_cons_zero, List.set_cons_succ]
                  refine held_skip (i := 10) rfl (by kernel_rfl) (by kernel_rfl) (by kernel_rfl) (fun _ _ _ h => h) (by rfl) hHeld ?_
                  simp only [Act.put, List.setIfInBounds_toArray, List.set_cons_zero, List.set_cons_succ]
                  refine held_skip (i := 11) rfl (by kernel_rfl) (by kernel_rfl) (by kernel_rfl) (fun _ _ _ h => h) (by rfl) hHeld ?_
                  simp only [Act.put, List.setIfInBounds_toArray, List.set_cons_zero, List.set_cons_succ]
                  refine held_skip (i := 12) rfl (by kernel_rfl) (by kernel_rfl) (by kernel_rfl) (fun _ _ _ h => h) (by rfl) hHeld ?_
                  simp only [Act.put, List.setIfInBounds_toArray, List.set_cons_zero, List.set_cons_succ]
                  refine held_skip (i := 13) rfl (by kernel_rfl) (by kernel_rfl) (by kernel_rfl) (fun _ _ _ h => h) (by rfl) hHeld ?_
                  simp only [Act.put, List.setIfInBounds_toArray, List.set_cons_zero, List.set_cons_succ]
                  refine held_skip (i := 14) rfl (by kernel_rfl) (by kernel_rfl) (by kernel_rfl) (fun _ _ _ h => h) (by rfl) hHeld ?_
                  simp only [Act.put, List.setIfInBounds_toArray, List.set_cons_zero, List.set_cons_succ]
                  refine held_skip (i := 15) rfl (by kernel_rfl) (by kernel_rfl) (by kernel_rfl) (fun _ _ _ h => h) (by rfl) hHeld ?_
                  simp only [Act.put, List.setIfInBounds_toArray, List.set_cons_zero, List.set_cons_succ]
                  refine held_skip (i := 16) rfl (by kernel_rfl) (by kernel_rfl) (by kernel_rfl) (fun _ _ _ h => h) (by rfl) hHeld ?_
                  simp only [Act.put, List.setIfInBounds_toArray, List.set_cons_zero, List.set_cons_succ]
                  refine held_skip (i := 17) rfl (by kernel_rfl) (by kernel_rfl) (by kernel_rfl) (fun _ _ _ h => h) (by rfl) hHeld ?_
                  simp only [Act.put, List.setIfInBounds_toArray, List.set_cons_zero, List.set_cons_succ]
                  refine held_take (i := 18) (v := ?_) rfl (by kernel_rfl) (by kernel_rfl) (by kernel_rfl) (fun _ _ _ h => h) (by rfl) hHeld ?_ ?_
                  rotate_left
                  · intro wz hSz; go_simp; try with_reducible rfl
                  simp only [Act.put, List.setIfInBounds_toArray, List.set_cons_zero, List.set_cons_succ]
                  refine wpAnyH_done (by kernel_rfl) ?_ _
                  go_wp2_with fail
                  go_meet
                  exact ⟨rfl, Lib.hid hHeld⟩
                | true =>
                  replace hTR := hTR (by trivial) (by trivial)
                  refine wp_region_held_drew (S := fun w' => Below w1.heap.size w1 w') (by kernel_rfl) (HBC.out.drew) (fun hHeld => ?_)
                  refine held_take (i := 0) (v := ?_) rfl (by kernel_rfl) (by kernel_rfl) (by kernel_rfl) (fun _ _ _ h => h) (by rfl) hHeld ?_ ?_
                  rotate_left
                  · intro wz hSz; obtain ⟨q8, q0, q1, q2, q3, q4⟩ := kR wz hSz; go_simp; try with_reducible rfl
                  simp only [Act.put, List.setIfInBounds_toArray, List.set_cons_zero, List.set_cons_succ]
                  refine held_call (i := 1) (by kernel_rfl) rfl (by rfl) (by go_simp; try with_reducible rfl) (cR _) ?_
                  rintro e wy ⟨rfl, hy⟩
                  refine ⟨_, rfl, below_to hHeld hy, ?_⟩
                  replace hHeld := below_to hHeld hy
                  simp only [Act.put, List.setIfInBounds_toArray, List.set_cons_zero, List.set_cons_succ]
                  clear hy
                  refine held_take (i := 2) (v := ?_) rfl (by kernel_rfl) (by kernel_rfl) (by kernel_rfl) (fun _ _ _ h => h) (by rfl) hHeld ?_ ?_
                  rotate_left
                  · intro wz hSz; go_simp; try with_reducible rfl
                  simp only [Act.put, List.setIfInBounds_toArray, List.set_cons_zero, List.set_cons_succ]
                  refine held_take (i := 3) (v := ?_) rfl (by kernel_rfl) (by kernel_rfl) (by kernel_rfl) (fun _ _ _ h => h) (by rfl) hHeld ?_ ?_
                  rotate_left
                  · intro wz hSz; obtain ⟨q8, q0, q1, q2, q3, q4⟩ := kQ wz hSz; go_simp; try with_reducible rfl
                  simp only [Act.put, List.setIfInBounds_toArray, List.set_cons_zero, List.set_cons_succ]
                  refine held_call (i := 4) (by kernel_rfl) rfl (by rfl) (by go_simp; try with_reducible rfl) (cQ _) ?_
                  rintro e wy ⟨rfl, hy⟩
                  refine ⟨_, rfl, below_to hHeld hy, ?_⟩
                  replace hHeld := below_to hHeld hy
                  simp only [Act.put, List.setIfInBounds_toArray, List.set_cons_zero, List.set_cons_succ]
                  clear hy
                  refine held_take (i := 5) (v := ?_) rfl (by kernel_rfl) (by kernel_rfl) (by kernel_rfl) (fun _ _ _ h => h) (by rfl) hHeld ?_ ?_
                  rotate_left
                  · intro wz hSz; go_simp; try with_reducible rfl
                  simp only [Act.put, List.setIfInBounds_toArray, List.set_cons_zero, List.set_cons_succ]
                  refine held_take (i := 6) (v := ?_) rfl (by kernel_rfl) (by kernel_rfl) (by kernel_rfl) (fun _ _ _ h => h) (by rfl) hHeld ?_ ?_
                  rotate_left
                  · intro wz hSz; go_simp; try with_reducible rfl
                  simp only [Act.put, List.setIfInBounds_toArray, List.set_cons_zero, List.set_cons_succ]
                  refine held_take (i := 7) (v := ?_) rfl (by kernel_rfl) (by kernel_rfl) (by kernel_rfl) (fun _ _ _ h => h) (by rfl) hHeld ?_ ?_
                  rotate_left
                  · intro wz hSz; obtain ⟨q8, q0, q1, q2, q3, q4⟩ := kR wz hSz; go_simp; try with_reducible rfl
                  simp only [Act.put, List.setIfInBounds_toArray, List.set_cons_zero, List.set_cons_succ]
                  refine held_take (i := 10) (v := ?_) rfl (by kernel_rfl) (by kernel_rfl) (by kernel_rfl) (fun _ _ _ h => h) (by rfl) hHeld ?_ ?_
                  rotate_left
                  · intro wz hSz; obtain ⟨q8, q0, q1, q2, q3, q4⟩ := kQ wz hSz; go_simp; try with_reducible rfl
                  simp only [Act.put, List.setIfInBounds_toArray, List.set_cons_zero, List.set_cons_succ]
                  refine held_take (i := 14) (v := ?_) rfl (by kernel_rfl) (by kernel_rfl) (by kernel_rfl) (fun _ _ _ h => h) (by rfl) hHeld ?_ ?_
                  rotate_left
                  · intro wz hSz; obtain ⟨q8, q0, q1, q2, q3, q4⟩ := kR wz hSz; go_simp; try with_reducible rfl
                  simp only [Act.put, List.setIfInBounds_toArray, List.set_cons_zero, List.set_cons_succ]
                  refine held_take (i := 15) (v := ?_) rfl (by kernel_rfl) (by kernel_rfl) (by kernel_rfl) (fun _ _ _ h => h) (by rfl) hHeld ?_ ?_
                  rotate_left
                  · intro wz hSz; obtain ⟨q8, q0, q1, q2, q3, q4⟩ := kQ wz hSz; go_simp; try with_reducible rfl
                  simp only [Act.put, List.setIfInBounds_toArray, List.set_cons_zero, List.set_cons_succ]
                  refine held_take (i := 16) (v := .bool ZR) rfl (by kernel_rfl) (by kernel_rfl) (by kernel_rfl) (fun _ _ _ h => h) (by rfl) hHeld ?_ ?_
                  · intro wz hSz; (go_simp; first | done | rfl | simp [hqR])
                  simp only [Act.put, List.setIfInBounds_toArray, List.set_cons_zero, List.set_cons_succ]
                  refine held_call (i := 8) (by kernel_rfl) rfl (by rfl) (by go_simp; try with_reducible rfl) (pR _) ?_
                  rintro e wy ⟨A1, p1, rfl, hB1, _, _, hy⟩
                  refine ⟨_, rfl, below_to hHeld hy, ?_⟩
                  replace hHeld := below_to hHeld hy
                  simp only [Act.put, List.setIfInBounds_toArray, List.set_cons_zero, List.set_cons_succ]
                  have r1 := run_text_of p1 hB1 HTR.out
                  clear hy
                  refine held_make_call (i := 9) (j := 11) (v := .string UR) (by kernel_rfl) rfl rfl (by rfl) (by rfl) hHeld (by go_simp; try with_reducible rfl) (by go_simp; try with_reducible rfl) (pQ _) ?_ ?_
                  · simp only [Act.put, List.setIfInBounds_toArray, List.set_cons_zero, List.set_cons_succ]
                    refine held_call (i := 11) (by kernel_rfl) rfl (by rfl) (by go_simp; try with_reducible rfl) (pQ _) ?_
                    rintro e wy ⟨A2, p2, rfl, hB2, _, _, hy⟩
                    refine ⟨_, rfl, below_to hHeld hy, ?_⟩
                    replace hHeld := below_to hHeld hy
                    simp only [Act.put, List.setIfInBounds_toArray, List.set_cons_zero, List.set_cons_succ]
                    have r2 := run_text_of p2 hB2 HTQ.out
                    clear hy
                    refine held_read (i := 12) (v := ?_) (by kernel_rfl) rfl (by rfl) hHeld ?_ ?_
                    rotate_left
                    · go_simp; try with_reducible rfl
                    simp only [Act.put, List.setIfInBounds_toArray, List.set_cons_zero, List.set_cons_succ]
                    refine held_take (i := 13) (v := .bool ZR) rfl (by kernel_rfl) (by kernel_rfl) (by kernel_rfl) (fun _ _ _ h => h) (by rfl) hHeld ?_ ?_
                    · intro wz hSz; (go_simp; first | done | rfl | exact hTR | simp [hTR])
                    simp only [Act.put, List.setIfInBounds_toArray, List.set_cons_zero, List.set_cons_succ]
                    refine held_take (i := 17) (v := .bool false) rfl (by kernel_rfl) (by kernel_rfl) (by kernel_rfl) (fun _ _ _ h => h) (by rfl) hHeld ?_ ?_
                    · intro wz hSz; (go_simp; first | done | rfl | simp)
                    simp only [Act.put, List.setIfInBounds_toArray, List.set_cons_zero, List.set_cons_succ]
                    refine held_take (i := 18) (v := ?_) rfl (by kernel_rfl) (by kernel_rfl) (by kernel_rfl) (fun _ _ _ h => h) (by rfl) hHeld ?_ ?_
                    rotate_left
                    · intro wz hSz; go_simp; try with_reducible rfl
                    simp only [Act.put, List.setIfInBounds_toArray, List.set_cons_zero, List.set_cons_succ]
                    refine wpAnyH_done (by kernel_rfl) ?_ _
                    go_wp2_with fail
                    go_meet
                    exact ⟨rfl, Lib.hid hHeld⟩
                  · rintro e wy ⟨A2, p2, rfl, hB2, _, _, hy⟩
                    refine ⟨_, rfl, below_to hHeld hy, ?_⟩
                    replace hHeld := below_to hHeld hy
                    have r3 := run_text_of p1 (hB1.below hy) HTR.out
                    have r2 := run_text_of p2 hB2 HTQ.out
                    clear hy r1
                    simp only [Act.put, List.setIfInBounds_toArray, List.set_cons_zero, List.set_cons_succ]
                    refine held_read_read (i := 9) (j := 12) (v := .string UR) (v2 := .string UQ) (by kernel_rfl) rfl rfl (by rfl) (by rfl) hHeld (by go_simp; try with_reducible rfl) (by go_simp; try with_reducible rfl) ?_ ?_
                    · simp only [Act.put, List.setIfInBounds_toArray, List.set_cons_zero, List.set_cons_succ]
                      refine held_read (i := 12) (v := ?_) (by kernel_rfl) rfl (by rfl) hHeld ?_ ?_
                      rotate_left
                      · go_simp; try with_reducible rfl
                      simp only [Act.put, List.setIfInBounds_toArray, List.set_cons_zero, List.set_cons_succ]
                      refine held_take (i := 13) (v := .bool ZR) rfl (by kernel_rfl) (by kernel_rfl) (by kernel_rfl) (fun _ _ _ h => h) (by rfl) hHeld ?_ ?_
                      · intro wz hSz; (go_simp; first | done | rfl | exact hTR | simp [hTR])
                      simp only [Act.put, List.setIfInBounds_toArray, List.set_cons_zero, List.set_cons_succ]
                      refine held_take (i := 17) (v := .bool false) rfl (by kernel_rfl) (by kernel_rfl) (by kernel_rfl) (fun _ _ _ h => h) (by rfl) hHeld ?_ ?_
                      · intro wz hSz; (go_simp; first | done | rfl | simp)
                      simp only [Act.put, List.setIfInBounds_toArray, List.set_cons_zero, List.set_cons_succ]
                      refine held_take (i := 18) (v := ?_) rfl (by kernel_rfl) (by kernel_rfl) (by kernel_rfl) (fun _ _ _ h => h) (by rfl) hHeld ?_ ?_
                      rotate_left
                      · intro wz hSz; go_simp; try with_reducible rfl
                      simp only [Act.put, List.setIfInBounds_toArray, List.set_cons_zero, List.set_cons_succ]
                      refine wpAnyH_done (by kernel_rfl) ?_ _
                      go_wp2_with fail
                      go_meet
                      exact ⟨rfl, Lib.hid hHeld⟩
                    · simp only [Act.put, List.setIfInBounds_toArray, List.set_cons_zero, List.set_cons_succ]
                      refine held_read (i := 9) (v := ?_) (by kernel_rfl) rfl (by rfl) hHeld ?_ ?_
                      rotate_left
                      · go_simp; try with_reducible rfl
                      simp only [Act.put, List.setIfInBounds_toArray, List.set_cons_zero, List.set_cons_succ]
                      refine held_take (i := 13) (v := .bool ZR) rfl (by kernel_rfl) (by kernel_rfl) (by kernel_rfl) (fun _ _ _ h => h) (by rfl) hHeld ?_ ?_
                      · intro wz hSz; (go_simp; first | done | rfl | exact hTR | simp [hTR])
                      simp only [Act.put, List.setIfInBounds_toArray, List.set_cons_zero, List.set_cons_succ]
                      refine held_take (i := 17) (v := .bool false) rfl (by kernel_rfl) (by kernel_rfl) (by kernel_rfl) (fun _ _ _ h => h) (by rfl) hHeld ?_ ?_
                      · intro wz hSz; (go_simp; first | done | rfl | simp)
                      simp only [Act.put, List.setIfInBounds_toArray, List.set_cons_zero, List.set_cons_succ]
                      refine held_take (i := 18) (v := ?_) rfl (by kernel_rfl) (by kernel_rfl) (by kernel_rfl) (fun _ _ _ h => h) (by rfl) hHeld ?_ ?_
                      rotate_left
                      · intro wz hSz; go_simp; try with_reducible rfl
                      simp only [Act.put, List.setIfInBounds_toArray, List.set_cons_zero, List.set_cons_succ]
                      refine wpAnyH_done (by kernel_rfl) ?_ _
                      go_wp2_with fail
                      go_meet
                      exact ⟨rfl, Lib.hid hHeld⟩
            case rest =>
              obtain ⟨rfl, HBD⟩ := hcut
              clear cR cQ pR pQ hTR hqR kR kQ
              have hA := hAw _ HBD.out
              have hbwD := Lib.hid (below_to hbw1 HBD.out)
              go_wp2_with fail
              refine hA.mono ?_
              rintro x w9 ⟨rfl, hb9⟩
              go_wp2
              go_ret
              exact ⟨rfl, below_to hbwD.out hb9⟩
        · have hsz : (1000 : Int) < (ss_.size : Int) := by omega
          have hsd : decide ((1000 : Int) < (ss_.size : Int)) = true := decide_eq_true hsz
          go_enter Tryz.func7, Tryz.ntmps7
          obtain ⟨hl, c0, c1, c2, c3, c4, c5, c6, c7⟩ := FA.c8
          go_wp2_with fail
          refine cS.mono ?_
          rintro x w2 ⟨rfl, hb2⟩
          clear hl c0 c1 c2 c3 c4 c5 c6 c7 cS hw1
          obtain ⟨hl, c0, c1, c2, c3, c4, c5, c6, c7⟩ := kB w2 hb2
          go_wp2_with fail
          refine (cT w2).mono ?_
          rintro x w3 ⟨rfl, hb3⟩
          replace hb3 := below_to hb2 hb3
          clear hl c0 c1 c2 c3 c4 c5 c6 c7 cT hb2
          obtain ⟨hl, r0, r1, r2, r3, r4⟩ := kR w3 hb3
          obtain ⟨hql, q0, q1, q2, q3, q4⟩ := kQ w3 hb3
          have hA := hAw w3 hb3
          have hbw3 := below_to hbw1 hb3
          go_wp2_with fail
          refine hA.mono ?_
          rintro x w9 ⟨rfl, hb9⟩
          go_wp2
          go_ret
          exact ⟨rfl, below_to hbw3 hb9⟩
      · have hrz : (1000 : Int) < (rs_.size : Int) := by omega
        have hrd : decide ((1000 : Int) < (rs_.size : Int)) = true := decide_eq_true hrz
        go_enter Tryz.func7, Tryz.ntmps7
        obtain ⟨hl, c0, c1, c2, c3, c4, c5, c6, c7⟩ := FA.c8
        go_wp2_with fail
        refine cS.mono ?_
        rintro x w2 ⟨rfl, hb2⟩
        clear hl c0 c1 c2 c3 c4 c5 c6 c7 cS hw1
        obtain ⟨hl, c0, c1, c2, c3, c4, c5, c6, c7⟩ := kB w2 hb2
        go_wp2_with fail
        refine (cT w2).mono ?_
        rintro x w3 ⟨rfl, hb3⟩
        replace hb3 := below_to hb2 hb3
        clear hl c0 c1 c2 c3 c4 c5 c6 c7 cT hb2
        obtain ⟨hl, r0, r1, r2, r3, r4⟩ := kR w3 hb3
        obtain ⟨hql, q0, q1, q2, q3, q4⟩ := kQ w3 hb3
        have hA := hAw w3 hb3
        have hbw3 := below_to hbw1 hb3
        go_wp2_with fail
        refine hA.mono ?_
        rintro x w9 ⟨rfl, hb9⟩
        go_wp2
        go_ret
        exact ⟨rfl, below_to hbw3 hb9⟩
end Go.Proofs.YtkbeemkmcnfiiaaGreatDoor
