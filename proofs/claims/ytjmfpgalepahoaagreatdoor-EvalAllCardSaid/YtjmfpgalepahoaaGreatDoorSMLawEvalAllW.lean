/- LawEvalAllW -/
import Derived.Test.YtjmfpgalepahoaaGreatDoorSHB
import Derived.Test.YtjmfpgalepahoaaGreatDoorSGE
import Derived.Test.YtjmfpgalepahoaaGreatDoorSEX
import Derived.Test.YtjmfpgalepahoaaGreatDoorSMKitE
import Derived.Test.YtjmfpgalepahoaaGreatDoorSGX
import Derived.Test.YtjmfpgalepahoaaGreatDoorSHF
import Derived.Test.YtjmfpgalepahoaaGreatDoorSVE
import Derived.BigQuiet
namespace Go.Proofs.YtjmfpgalepahoaaGreatDoor
section
set_option maxHeartbeats 16000000
set_option maxRecDepth 1000000
open Go.RowKit
theorem eq_val {R : Va} (w : World) : (binOp .eql 47 (vaV R) (vaV R)).run Tryz.prog w = .ok (.bool true) w := same_yes _ _ _ w
theorem evalall_walk (v0 : Value) (e : Ex) (A : Option Addr) (N : List ByteArray) (cA : Nat) (B : Option Addr) (V : List Va) (cB : Nat) (w : World) (he : ExIn w (fun _ => True) e v0)
  (_lA : N.length ≤ cA) (mA : N.length ≤ 140737488351232) (hN : Ts w A N) (qA : A = none → cA = 0) (_lB : V.length ≤ cB) (mB : V.length ≤ 4398046511104) (hV : Vs w B V) (hx : ∀ x ∈ V, In64 x.k ∧ In64 x.n ∧ x.s.length ≤ reachBytes) (qB : B = none → cB = 0) (hE0 : EnvP w) :
  Calls Tryz.prog 6 #[v0, .slice A N.length cA, .slice B V.length cB] w fun en w' => en = .returned (.bool true) ∧ Below w.heap.size w w' := by
 have hK : Knows w N V A B := ⟨hN, hV, hE0.env.tabs, by omega, by omega, fun v hv => by have := (hx v hv).2.2; unfold reachBytes at this; omega, fun v hv => (hx v hv).2.1⟩
 have HQA := Lib.hid qA
 have HQB := Lib.hid qB
 obtain ⟨ao, cap, rfl, -⟩ := he.get
 have d1 := below_alloc w (.cells #[.int .i64 e.op, .int .i64 e.num, .string ⟨e.str.toArray⟩, .slice ao e.kids.length cap] 25)
 have x1 := four_new w (.int .i64 e.op) (.int .i64 e.num) (.string ⟨e.str.toArray⟩) (.slice ao e.kids.length cap) 25
 have h0 := he.later d1
 have hk := hK.later d1
 have hE2 := hE0.later d1
 obtain ⟨w0, hw0⟩ : ∃ x, w.alloc (.cells #[.int .i64 e.op, .int .i64 e.num, .string ⟨e.str.toArray⟩, .slice ao e.kids.length cap] 25) = x := ⟨_, rfl⟩
 rw [hw0] at x1 d1 h0 hk hE2
 have HX0 := Lib.hid x1
 have HV0 := Lib.hid h0
 have HK := Lib.hid hk
 have HEE := Lib.hid hE2
 have HB0 := Lib.hid d1
 obtain ⟨-, y0, y1, y2, y3, -⟩ := x1
 clear d1 h0 hk hE2 hE0 he hN hV hK mA hx _lA qA _lB qB mB
 go_enter Tryz.func6, Tryz.ntmps6
 go_wp2_with fail
 (with_reducible refine (tinyE_any e _ _ w0 HV0.out).mono ?_)
 rintro en w1 ⟨b, rfl, d, hb⟩
 have B1 := Lib.hid d
 have HND := Lib.hid hb
 clear d y0 y1 y2 y3 hw0 hb
 cases b with
 | false =>
  have caw := evawake_any w1 (HEE.out.later (B1.out))
  go_wp2_with fail
  (with_reducible refine caw.mono ?_)
  rintro en wz ⟨rfl, bz⟩
  have HBF := Lib.hid (below_to (below_to HB0.out B1.out) bz)
  clear bz caw
  go_wp2_with fail
  go_ret
  exact ⟨rfl, HBF.out⟩
 | true =>
  have cc := rcheck_any e _ _ w1 (HEE.out.later B1.out) (HV0.out.later B1.out)
  obtain ⟨-, y0, y1, y2, y3, -⟩ := HX0.out.later B1.out
  cases hce : chkB e with
  | false =>
   rw [hce] at cc
   clear hce
   go_wp2_with fail
   (with_reducible refine cc.mono ?_)
   rintro en w2 ⟨rfl, d⟩
   have B2 := Lib.hid (below_to B1.out d)
   clear d cc y0 y1 y2 y3
   have caw := evawake_any w2 (HEE.out.later (B2.out))
   go_wp2_with fail
   (with_reducible refine caw.mono ?_)
   rintro en wz ⟨rfl, bz⟩
   have HBF := Lib.hid (below_to (below_to HB0.out B2.out) bz)
   clear bz caw
   go_wp2_with fail
   go_ret
   exact ⟨rfl, HBF.out⟩
  | true =>
   rw [hce] at cc
   have HC := Lib.hid hce
   clear hce
   go_wp2_with fail
   (with_reducible refine cc.mono ?_)
   rintro en w2 ⟨rfl, d⟩
   have B2 := Lib.hid (below_to B1.out d)
   clear d cc y0 y1 y2 y3
   have cc := few9_any N V A B cA cB w2 (HK.out.later B2.out).vals
   go_wp2_with fail
   (with_reducible refine cc.mono ?_)
   rintro en w5 ⟨⟨b, rfl, hb⟩, rfl⟩
   have HF := Lib.hid hb
   clear cc hb
   cases b with
   | false =>
    have caw := evawake_any w2 (HEE.out.later (B2.out))
    go_wp2_with fail
    (with_reducible refine caw.mono ?_)
    rintro en wz ⟨rfl, bz⟩
    have HBF := Lib.hid (below_to (below_to HB0.out B2.out) bz)
    clear bz caw
    go_wp2_with fail
    go_ret
    exact ⟨rfl, HBF.out⟩
   | true =>
    have h50 := HF.out (by trivial)
    have hnd := HND.out (by trivial)
    have H5A := Lib.hid (show N.length ≤ 1000 by omega)
    have H5B := Lib.hid (show V.length ≤ 1000 by omega)
    have HN1 := Lib.hid hnd.1
    have HN2 := Lib.hid hnd.2
    have hev : evA N V e = evalE N V e := by unfold evA; rw [if_pos HC.out]
    have kA : ∀ (wz : World) (A4 D : Option Addr) (p4 cD : Nat) (S : Nat → Prop) (v : Value), EnvP wz → ExIn wz S e v → Knows wz N V A4 D → Calls Tryz.prog 29 #[v, .slice A4 N.length p4, .slice D V.length cD] wz fun en w' => en = .returned (vaV (evalE N V e)) ∧ Below wz.heap.size wz w' := fun wz A4 D p4 cD S v h1 h2 h3 => by
     have c := eval_all N V A4 D p4 cD e v S wz h1 h2 h3
     rw [hev] at c
     exact c
    have kB : ∀ (wz : World), Below w2.heap.size w2 wz → Calls Tryz.prog 31 #[EV e.op e.num ⟨e.str.toArray⟩ (.slice ao e.kids.length cap), .slice A N.length cA, .slice B V.length cB] wz fun en w' => en = .returned (vaV (evalE N V e)) ∧ Below wz.heap.size wz w' := fun wz hb => reval_any N V A B cA cB e _ _ wz HC.out (HV0.out.later (below_to B2.out hb)) (HK.out.later (below_to B2.out hb))
    have ye := fun wz => eq_val (R := evalE N V e) wz
    clear h50 hnd hev
    generalize evalE N V e = R at *
    obtain ⟨K, n, s⟩ := R
    unfold vaV at kA kB ye
    dsimp only at kA kB ye
    go_wp2_with fail
    refine wp_region_held_drew (S := fun w' => Below w2.heap.size w2 w') (by kernel_rfl) ((Below.refl _ _).drew) (fun hHeld => ?_)
    refine held_take (i := 0) (v := ?_) rfl (by kernel_rfl) (by kernel_rfl) (by kernel_rfl) (fun _ _ _ h => h) (by rfl) hHeld ?_ ?_
    rotate_left
    ·intro wz hSz; obtain ⟨-, q0, q1, q2, q3, -⟩ := HX0.out.later (below_to B2.out hSz); go_simp; try with_reducible rfl
    simp only [Act.put, List.setIfInBounds_toArray, List.set_cons_zero, List.set_cons_succ]
    refine held_take (i := 2) (v := ?_) rfl (by kernel_rfl) (by kernel_rfl) (by kernel_rfl) (fun _ _ _ h => h) (by rfl) hHeld ?_ ?_
    rotate_left
    ·intro wz hSz; go_simp; try with_reducible rfl
    simp only [Act.put, List.setIfInBounds_toArray, List.set_cons_zero, List.set_cons_succ]
    refine held_take (i := 4) (v := ?_) rfl (by kernel_rfl) (by kernel_rfl) (by kernel_rfl) (fun _ _ _ h => h) (by rfl) hHeld ?_ ?_
    rotate_left
    ·intro wz hSz; go_simp; try with_reducible rfl
    simp only [Act.put, List.setIfInBounds_toArray, List.set_cons_zero, List.set_cons_succ]
    refine held_take (i := 7) (v := ?_) rfl (by kernel_rfl) (by kernel_rfl) (by kernel_rfl) (fun _ _ _ h => h) (by rfl) hHeld ?_ ?_
    rotate_left
    ·intro wz hSz; obtain ⟨-, q0, q1, q2, q3, -⟩ := HX0.out.later (below_to B2.out hSz); go_simp; try with_reducible rfl
    simp only [Act.put, List.setIfInBounds_toArray, List.set_cons_zero, List.set_cons_succ]
    refine held_take (i := 8) (v := ?_) rfl (by kernel_rfl) (by kernel_rfl) (by kernel_rfl) (fun _ _ _ h => h) (by rfl) hHeld ?_ ?_
    rotate_left
    ·intro wz hSz; go_simp; try with_reducible rfl
    simp only [Act.put, List.setIfInBounds_toArray, List.set_cons_zero, List.set_cons_succ]
    refine held_take (i := 9) (v := ?_) rfl (by kernel_rfl) (by kernel_rfl) (by kernel_rfl) (fun _ _ _ h => h) (by rfl) hHeld ?_ ?_
    rotate_left
    ·intro wz hSz; go_simp; try with_reducible rfl
    simp only [Act.put, List.setIfInBounds_toArray, List.set_cons_zero, List.set_cons_succ]
    refine held_call (i := 1) (by kernel_rfl) rfl (by rfl) (by go_simp; try with_reducible rfl) (copy_any e _ _ _ (HV0.out.later (below_to B2.out hHeld)) HN2.out HN1.out) ?_
    rintro e wy ⟨hy, ao3, p3, rfl, hx3⟩
    refine ⟨_, rfl, below_to hHeld hy, ?_⟩
    replace hHeld := below_to hHeld hy
    simp only [Act.put, List.setIfInBounds_toArray, List.set_cons_zero, List.set_cons_succ]
    refine held_call (i := 3) (by kernel_rfl) rfl (by rfl) (by go_simp; try with_reducible rfl) (texts_any A N cA _ H5A.out (HK.out.later (below_to B2.out hHeld)).names HQA.out) ?_
    rintro e wy ⟨A4, p4, rfl, -, hN4, -, -, hy4⟩
    refine ⟨_, rfl, below_to hHeld hy4, ?_⟩
    replace hHeld := below_to hHeld hy4
    simp only [Act.put, List.setIfInBounds_toArray, List.set_cons_zero, List.set_cons_succ]
    have HX4 := Lib.hid (hx3.later hy4)
    have HN4 := Lib.hid hN4
    clear hx3 hN4
    refine held_call (i := 5) (by kernel_rfl) rfl (by rfl) (by go_simp; try with_reducible rfl) (vals_any B V cB _ H5B.out (HK.out.later (below_to B2.out hHeld)).vals HQB.out) ?_
    rintro e wy ⟨D, cD, rfl, hO, hy5⟩
    refine ⟨_, rfl, below_to hHeld hy5, ?_⟩
    replace hHeld := below_to hHeld hy5
    simp only [Act.put, List.setIfInBounds_toArray, List.set_cons_zero, List.set_cons_succ]
    have HX5 := Lib.hid (HX4.out.later hy5)
    have HK5 := Lib.hid (show Knows wy N V A4 D from ⟨HN4.out.below hy5, hO.vs, (HK.out.later (below_to B2.out hHeld)).tabs, HK.out.ln, HK.out.lv, HK.out.len, HK.out.num⟩)
    clear hO
    refine held_call (i := 6) (by kernel_rfl) rfl (by rfl) (by go_simp; try with_reducible rfl) (kA _ A4 D p4 cD _ _ (HEE.out.later (below_to B2.out hHeld)) HX5.out HK5.out) ?_
    rintro e wy ⟨rfl, hy6⟩
    refine ⟨_, rfl, below_to hHeld hy6, ?_⟩
    replace hHeld := below_to hHeld hy6
    simp only [Act.put, List.setIfInBounds_toArray, List.set_cons_zero, List.set_cons_succ]
    refine held_call (i := 10) (by kernel_rfl) rfl (by rfl) (by go_simp; try with_reducible rfl) (kB _ hHeld) ?_
    rintro e wy ⟨rfl, hy7⟩
    refine ⟨_, rfl, below_to hHeld hy7, ?_⟩
    replace hHeld := below_to hHeld hy7
    simp only [Act.put, List.setIfInBounds_toArray, List.set_cons_zero, List.set_cons_succ]
    refine held_take (i := 11) (v := .bool true) rfl (by kernel_rfl) (by kernel_rfl) (by kernel_rfl) (fun _ _ _ h => h) (by rfl) hHeld ?_ ?_
    ·intro wz hSz; (have ye := ye wz; go_simp; first | done | rfl | exact ye)
    simp only [Act.put, List.setIfInBounds_toArray, List.set_cons_zero, List.set_cons_succ]
    refine held_take (i := 12) (v := ?_) rfl (by kernel_rfl) (by kernel_rfl) (by kernel_rfl) (fun _ _ _ h => h) (by rfl) hHeld ?_ ?_
    rotate_left
    ·intro wz hSz; go_simp; try with_reducible rfl
    simp only [Act.put, List.setIfInBounds_toArray, List.set_cons_zero, List.set_cons_succ]
    refine held_call (i := 13) (by kernel_rfl) rfl (by rfl) (by go_simp; try with_reducible rfl) (evawake_any _ (HEE.out.later (below_to B2.out hHeld))) ?_
    rintro e wy ⟨rfl, hy8⟩
    refine ⟨_, rfl, below_to hHeld hy8, ?_⟩
    replace hHeld := below_to hHeld hy8
    simp only [Act.put, List.setIfInBounds_toArray, List.set_cons_zero, List.set_cons_succ]
    refine held_take (i := 14) (v := ?_) rfl (by kernel_rfl) (by kernel_rfl) (by kernel_rfl) (fun _ _ _ h => h) (by rfl) hHeld ?_ ?_
    rotate_left
    ·intro wz hSz; go_simp; try with_reducible rfl
    simp only [Act.put, List.setIfInBounds_toArray, List.set_cons_zero, List.set_cons_succ]
    refine held_take (i := 15) (v := ?_) rfl (by kernel_rfl) (by kernel_rfl) (by kernel_rfl) (fun _ _ _ h => h) (by rfl) hHeld ?_ ?_
    rotate_left
    ·intro wz hSz; go_simp; try with_reducible rfl
    simp only [Act.put, List.setIfInBounds_toArray, List.set_cons_zero, List.set_cons_succ]
    refine wpAnyH_done (by kernel_rfl) ?_ _
    have HBF := Lib.hid (below_to HB0.out (below_to B2.out hHeld))
    go_wp2_with fail
    exact bodyPost_ret (v := .bool true) (by simp [results, Tryz.results6, go_sem]) rfl ⟨rfl, HBF.out⟩
end
end Go.Proofs.YtjmfpgalepahoaaGreatDoor
