/- The statement TypesTexts: of any text that is an expression, and any names of any types, the program's types.Of says what the document's own Of says. Conditions: none but what the card ties (the library's variables, and the table of forms, hold what their texts lay). -/
import Derived.Test.YtjmfpgalepahoaaGreatDoorGR
import Derived.Test.YtjmfpgalepahoaaGreatDoorGU
import Derived.Test.YtjmfpgalepahoaaGreatDoorMRxZ
import Derived.Test.YtjmfpgalepahoaaGreatDoorGX
import Derived.Test.YtjmfpgalepahoaaGreatDoorMTyRT
import Derived.Test.YtjmfpgalepahoaaGreatDoorMTyAwk
import Derived.Test.YtjmfpgalepahoaaGreatDoorMFew8
namespace Go.Proofs.YtjmfpgalepahoaaGreatDoor
open Go.RowKit

set_option maxHeartbeats 8000000 in
set_option maxRecDepth 1000000 in
theorem typestexts_walk (s : ByteArray) (A1 : Option Addr) (N : List ByteArray) (k1 : Nat) (A2 : Option Addr) (Z : List Int) (k2 : Nat) (w : World) (_hs : s.size ≤ 9223372036854775807)
    (_lN : N.length ≤ k1) (_mN : N.length ≤ 140737488351232) (hN : Ts w A1 N) (qN : A1 = none → k1 = 0) (_lZ : Z.length ≤ k2) (_mZ : k2 ≤ 17592186044416) (hZ : Is w A2 Z) (_bZ : ∀ z ∈ Z, -9223372036854775808 ≤ z ∧ z ≤ 9223372036854775807) (qZ : A2 = none → k2 = 0) (hE : EnvP w) :
    Calls Tryz.prog 5 #[.string s, .slice A1 N.length k1, .slice A2 Z.length k2] w fun en w' => en = .returned (.bool true) ∧ Below w.heap.size w w' := by
  have cW := fun w' (hb : Below w.heap.size w w') => tyawake_any w' (hE.later hb)
  by_cases hl : 400 < s.size
  · have hlz : (400 : Int) < (s.size : Int) := by omega
    have c := cW w (Below.refl _ _)
    clear cW hE hN hZ
    go_enter Tryz.func5, Tryz.ntmps5
    go_wp2_with fail
    refine c.mono ?_
    rintro e w1 ⟨rfl, b1⟩
    go_wp2_with fail
    go_ret
    exact ⟨rfl, b1⟩
  have hlz : ¬ (400 : Int) < (s.size : Int) := by omega
  have cF := few8_any A1 A2 N.length k1 Z.length k2 w
  by_cases hf : N.length ≤ 50 ∧ Z.length ≤ 50
  case neg =>
    rw [decide_eq_false hf] at cF
    have c := cW w (Below.refl _ _)
    clear cW hE hN hZ hf
    go_enter Tryz.func5, Tryz.ntmps5
    go_wp2_with fail
    refine cF.mono ?_
    rintro en w2 ⟨rfl, rfl⟩
    go_wp2_with fail
    refine c.mono ?_
    rintro e w1 ⟨rfl, b1⟩
    go_wp2_with fail
    go_ret
    exact ⟨rfl, b1⟩
  rw [decide_eq_true hf] at cF
  have HF := Lib.hid hf
  obtain ⟨R, hS⟩ := says_all s.data.toList
  have cP := rparseF_any s R w (by omega) hE hS
  have HS := Lib.hid hS
  have HE := Lib.hid hE
  have HN := Lib.hid hN
  have HZ := Lib.hid hZ
  have HQN := Lib.hid qN
  have HQZ := Lib.hid qZ
  have HCW := Lib.hid cW
  clear hS hE hN hZ qN qZ hf cW _lN _mN _lZ _mZ _bZ
  cases R with
  | error q =>
    have hq := says_err HS.out
    have hqz : ((q.2 : Int) == 0) = false := beq_eq_false_iff_ne.2 (by omega)
    have hqn : ((q.2 : Int) != 0) = true := by simp; omega
    obtain ⟨Q2, hQ2⟩ : ∃ Q2 : Int, (q.2 : Int) = Q2 := ⟨_, rfl⟩
    obtain ⟨Q1, hQ1⟩ : ∃ Q1 : Int, (q.1 : Int) = Q1 := ⟨_, rfl⟩
    unfold PaEnd at cP
    dsimp only at cP
    rw [hQ1, hQ2] at cP
    rw [hQ2] at hqz hqn
    clear hQ1 hQ2 hq HS
    go_enter Tryz.func5, Tryz.ntmps5
    go_wp2_with fail
    refine cF.mono ?_
    rintro en w2 ⟨rfl, rfl⟩
    go_wp2_with fail
    refine cP.mono ?_
    rintro en w1 ⟨b1, rfl⟩
    have d2 := below_alloc w1 (.cells #[.int .i64 0, .int .i64 0, .string ⟨#[]⟩, .slice none 0 0] 25)
    have hB2 := below_to b1 d2
    have c2 := HCW.out _ hB2
    have HB2 := Lib.hid hB2
    clear b1 d2 hB2 cP cF
    go_wp2_with fail
    refine c2.mono ?_
    rintro e w3 ⟨rfl, b3⟩
    go_wp2_with fail
    go_ret
    exact ⟨rfl, below_to HB2.out b3⟩
  | ok e =>
    unfold PaEnd at cP
    dsimp only at cP
    clear HS
    go_enter Tryz.func5, Tryz.ntmps5
    go_wp2_with fail
    refine cF.mono ?_
    rintro en w2 ⟨rfl, rfl⟩
    go_wp2_with fail
    refine cP.mono ?_
    rintro en w1 ⟨b1, op, n, z, ao, c, rfl, hx⟩
    have d2 := below_alloc w1 (.cells #[.int .i64 op, .int .i64 n, .string z, .slice ao e.kids.length c] 25)
    have f2 := four_new w1 (.int .i64 op) (.int .i64 n) (.string z) (.slice ao e.kids.length c) 25
    have hx2 := hx.later d2
    have hB2 := below_to b1 d2
    obtain ⟨w2, hw2⟩ : ∃ w2, w1.alloc (.cells #[.int .i64 op, .int .i64 n, .string z, .slice ao e.kids.length c] 25) = w2 := ⟨_, rfl⟩
    rw [hw2] at d2 f2 hx2 hB2
    have HX := Lib.hid f2
    have HV := Lib.hid hx2
    have HB2 := Lib.hid hB2
    have H5A := Lib.hid (show N.length ≤ 1000 by have := HF.out.1; omega)
    have H5B := Lib.hid (show Z.length ≤ 1000 by have := HF.out.2; omega)
    have H5C := Lib.hid (show N.length ≤ 4611686018427387904 by have := HF.out.1; omega)
    have H5D := Lib.hid (show Z.length ≤ 4611686018427387904 by have := HF.out.2; omega)
    obtain ⟨t, ht⟩ : ∃ t, tyN (ofE N Z e) = t := ⟨_, rfl⟩
    obtain ⟨f, hf⟩ : ∃ f, tyF (ofE N Z e) = f := ⟨_, rfl⟩
    have HT := Lib.hid ht
    have HG := Lib.hid hf
    have kA : ∀ (wz : World) (A4 A5 : Option Addr) (p4 p5 : Nat), EnvP wz → ExIn wz (Up w.heap.size) e (EV op n z (.slice ao e.kids.length c)) → Ts wz A4 N → Is wz A5 Z → Calls Tryz.prog 23 #[EV op n z (.slice ao e.kids.length c), .slice A4 N.length p4, .slice A5 Z.length p5] wz fun en w' => en = .returned (.tuple #[.int .i64 t, .int .i64 f]) ∧ Below wz.heap.size wz w' := fun wz A4 A5 p4 p5 h1 h2 h3 h4 => by
      have c6 := types_any N Z A4 A5 p4 p5 H5C.out H5D.out e _ _ wz h1 h2 h3 h4
      simp only [tyV, ht, hf] at c6
      exact c6
    clear b1 hx d2 hx2 hB2 cP cF ht hf
    obtain ⟨-, y0, y1, y2, y3, -⟩ := f2
    go_wp2_with fail
    clear y0 y1 y2 y3 hw2
    refine wp_region_held_drew (S := fun w' => Below w2.heap.size w2 w') (by kernel_rfl) ((Below.refl _ _).drew) (fun hHeld => ?_)
    refine held_take (i := 0) (v := ?_) rfl (by kernel_rfl) (by kernel_rfl) (by kernel_rfl) (fun _ _ _ h => h) (by rfl) hHeld ?_ ?_
    rotate_left
    · intro wz hSz; obtain ⟨-, q0, q1, q2, q3, -⟩ := HX.out.later hSz; go_simp; try with_reducible rfl
    simp only [Act.put, List.setIfInBounds_toArray, List.set_cons_zero, List.set_cons_succ]
    refine held_take (i := 1) (v := ?_) rfl (by kernel_rfl) (by kernel_rfl) (by kernel_rfl) (fun _ _ _ h => h) (by rfl) hHeld ?_ ?_
    rotate_left
    · intro wz hSz; go_simp; try with_reducible rfl
    simp only [Act.put, List.setIfInBounds_toArray, List.set_cons_zero, List.set_cons_succ]
    refine held_take (i := 3) (v := ?_) rfl (by kernel_rfl) (by kernel_rfl) (by kernel_rfl) (fun _ _ _ h => h) (by rfl) hHeld ?_ ?_
    rotate_left
    · intro wz hSz; go_simp; try with_reducible rfl
    simp only [Act.put, List.setIfInBounds_toArray, List.set_cons_zero, List.set_cons_succ]
    refine held_call (i := 2) (by kernel_rfl) rfl (by rfl) (by go_simp; try with_reducible rfl) (texts_any A1 N k1 _ H5A.out (HN.out.below (below_to HB2.out hHeld)) HQN.out) ?_
    rintro e wy ⟨A4, p4, rfl, -, hN4, -, -, hy4⟩
    refine ⟨_, rfl, below_to hHeld hy4, ?_⟩
    replace hHeld := below_to hHeld hy4
    simp only [Act.put, List.setIfInBounds_toArray, List.set_cons_zero, List.set_cons_succ]
    refine held_call (i := 4) (by kernel_rfl) rfl (by rfl) (by go_simp; try with_reducible rfl) (ints_any A2 Z k2 _ H5B.out (HZ.out.below (below_to HB2.out hHeld)) HQZ.out) ?_
    rintro e wy ⟨A5, p5, rfl, -, hZ5, -, -, hy5⟩
    refine ⟨_, rfl, below_to hHeld hy5, ?_⟩
    replace hHeld := below_to hHeld hy5
    simp only [Act.put, List.setIfInBounds_toArray, List.set_cons_zero, List.set_cons_succ]
    refine held_call (i := 5) (by kernel_rfl) rfl (by rfl) (by go_simp; try with_reducible rfl) (kA _ A4 A5 p4 p5 (HE.out.later (below_to HB2.out hHeld)) (HV.out.later hHeld) (hN4.below hy5) hZ5) ?_
    rintro e wy ⟨rfl, hy6⟩
    refine ⟨_, rfl, below_to hHeld hy6, ?_⟩
    replace hHeld := below_to hHeld hy6
    simp only [Act.put, List.setIfInBounds_toArray, List.set_cons_zero, List.set_cons_succ]
    refine held_take (i := 6) (v := ?_) rfl (by kernel_rfl) (by kernel_rfl) (by kernel_rfl) (fun _ _ _ h => h) (by rfl) hHeld ?_ ?_
    rotate_left
    · intro wz hSz; go_simp; try with_reducible rfl
    simp only [Act.put, List.setIfInBounds_toArray, List.set_cons_zero, List.set_cons_succ]
    refine held_take (i := 7) (v := ?_) rfl (by kernel_rfl) (by kernel_rfl) (by kernel_rfl) (fun _ _ _ h => h) (by rfl) hHeld ?_ ?_
    rotate_left
    · intro wz hSz; go_simp; try with_reducible rfl
    simp only [Act.put, List.setIfInBounds_toArray, List.set_cons_zero, List.set_cons_succ]
    refine held_take (i := 8) (v := ?_) rfl (by kernel_rfl) (by kernel_rfl) (by kernel_rfl) (fun _ _ _ h => h) (by rfl) hHeld ?_ ?_
    rotate_left
    · intro wz hSz; go_simp; try with_reducible rfl
    simp only [Act.put, List.setIfInBounds_toArray, List.set_cons_zero, List.set_cons_succ]
    refine held_take (i := 9) (v := ?_) rfl (by kernel_rfl) (by kernel_rfl) (by kernel_rfl) (fun _ _ _ h => h) (by rfl) hHeld ?_ ?_
    rotate_left
    · intro wz hSz; go_simp; try with_reducible rfl
    simp only [Act.put, List.setIfInBounds_toArray, List.set_cons_zero, List.set_cons_succ]
    refine held_take (i := 10) (v := ?_) rfl (by kernel_rfl) (by kernel_rfl) (by kernel_rfl) (fun _ _ _ h => h) (by rfl) hHeld ?_ ?_
    rotate_left
    · intro wz hSz; go_simp; try with_reducible rfl
    simp only [Act.put, List.setIfInBounds_toArray, List.set_cons_zero, List.set_cons_succ]
    refine wpAnyH_done (by kernel_rfl) ?_ _
    have hB6 := hHeld
    have hBB6 := below_to HB2.out hB6
    obtain ⟨w6, hw6⟩ : ∃ x, x = wy := ⟨_, rfl⟩
    subst hw6
    clear kA hHeld hy6 hZ5 hN4 hy5 hy4
    have c7 := rtypes_any N Z A1 A2 k1 k2 (by have := HF.out.1; omega) (by have := HF.out.2; omega) e _ _ w6 (HE.out.later hBB6) (HV.out.later hB6) (HN.out.below hBB6) (HZ.out.below hBB6)
    simp only [tyV, HT.out, HG.out] at c7
    obtain ⟨-, z0, z1, z2, z3, -⟩ := HX.out.later hB6
    have HB6 := Lib.hid hBB6
    clear hB6 hBB6
    go_wp2_with fail
    refine c7.mono ?_
    rintro en w7 ⟨rfl, b7⟩
    have hB7 := below_to HB6.out b7
    have c8 := HCW.out w7 hB7
    have HB7 := Lib.hid hB7
    clear c7 b7 hB7 z0 z1 z2 z3
    go_wp2_with fail
    refine c8.mono ?_
    rintro en w8 ⟨rfl, b8⟩
    go_wp2_with fail
    go_ret
    exact ⟨rfl, below_to HB7.out b8⟩
end Go.Proofs.YtjmfpgalepahoaaGreatDoor
