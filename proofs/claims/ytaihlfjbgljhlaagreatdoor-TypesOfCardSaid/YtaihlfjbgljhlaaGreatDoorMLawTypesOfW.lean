/- The statement TypesOf: of any expression that has few enough parts, and any names of any types, the program's types.Of says what the document's own Of says. Conditions: none but what the card ties (the library's variables, and the table of forms, hold what their texts lay). -/
import Derived.Test.YtaihlfjbgljhlaaGreatDoorGR
import Derived.Test.YtaihlfjbgljhlaaGreatDoorMTree
import Derived.Test.YtaihlfjbgljhlaaGreatDoorGX
import Derived.Test.YtaihlfjbgljhlaaGreatDoorMTyRT
import Derived.Test.YtaihlfjbgljhlaaGreatDoorMTyAwk
namespace Go.Proofs.YtaihlfjbgljhlaaGreatDoor
open Go.RowKit

theorem few8_any (A B : Option Addr) (l c m d : Nat) (w : World) : Calls Tryz.prog 11 #[.slice A l c, .slice B m d] w fun e w' => e = .returned (.bool (decide (l ≤ 50 ∧ m ≤ 50))) ∧ w = w' := by
  by_cases h1 : l ≤ 50
  · have h1z : (l : Int) ≤ 50 := by omega
    by_cases h2 : m ≤ 50
    · have h2z : (m : Int) ≤ 50 := by omega
      rw [decide_eq_true ⟨h1, h2⟩]
      go_enter Tryz.func11, Tryz.ntmps11
      go_wp2_with fail
      go_ret
      exact ⟨rfl, rfl⟩
    · have h2z : ¬ (m : Int) ≤ 50 := by omega
      rw [decide_eq_false (fun h => h2 h.2)]
      go_enter Tryz.func11, Tryz.ntmps11
      go_wp2_with fail
      go_ret
      exact ⟨rfl, rfl⟩
  · have h1z : ¬ (l : Int) ≤ 50 := by omega
    rw [decide_eq_false (fun h => h1 h.1)]
    go_enter Tryz.func11, Tryz.ntmps11
    go_wp2_with fail
    go_ret
    exact ⟨rfl, rfl⟩
set_option maxHeartbeats 8000000 in
set_option maxRecDepth 1000000 in
theorem typesof_walk (v : Value) (e : Ex) (A1 : Option Addr) (N : List ByteArray) (k1 : Nat) (A2 : Option Addr) (Z : List Int) (k2 : Nat) (w : World) (hv : ExIn w (fun _ => True) e v)
    (_lN : N.length ≤ k1) (_mN : N.length ≤ 140737488351232) (hN : Ts w A1 N) (qN : A1 = none → k1 = 0) (_lZ : Z.length ≤ k2) (_mZ : k2 ≤ 17592186044416) (hZ : Is w A2 Z) (_bZ : ∀ z ∈ Z, -9223372036854775808 ≤ z ∧ z ≤ 9223372036854775807) (qZ : A2 = none → k2 = 0) (hE : EnvP w) :
    Calls Tryz.prog 4 #[v, .slice A1 N.length k1, .slice A2 Z.length k2] w fun en w' => en = .returned (.bool true) ∧ Below w.heap.size w w' := by
  have cW := fun w' (hb : Below w.heap.size w w') => tyawake_any w' (hE.later hb)
  obtain ⟨ao, cap, rfl, -⟩ := hv.get
  have hX := four_new w (.int .i64 e.op) (.int .i64 e.num) (.string ⟨e.str.toArray⟩) (.slice ao e.kids.length cap) 24
  have hbX := below_alloc w (.cells #[.int .i64 e.op, .int .i64 e.num, .string ⟨e.str.toArray⟩, .slice ao e.kids.length cap] 24)
  have hvX := hv.later hbX
  have hNX := hN.below hbX
  have hZX := hZ.below hbX
  obtain ⟨wX, hwX⟩ : ∃ wX, w.alloc (.cells #[.int .i64 e.op, .int .i64 e.num, .string ⟨e.str.toArray⟩, .slice ao e.kids.length cap] 24) = wX := ⟨_, rfl⟩
  rw [hwX] at hX hbX hvX hNX hZX
  have cT := tinyE_any e _ _ wX hvX
  have HX := Lib.hid hX
  have HV := Lib.hid hvX
  have HN := Lib.hid hNX
  have HZ := Lib.hid hZX
  have HE := Lib.hid hE
  have HQN := Lib.hid qN
  have HQZ := Lib.hid qZ
  obtain ⟨-, x0, x1, x2, x3, -⟩ := hX
  clear hv hvX hE hN hZ hNX hZX qN qZ
  go_enter Tryz.func4, Tryz.ntmps4
  go_wp2_with fail
  refine cT.mono ?_
  rintro en w1 ⟨b, rfl, b1, hb⟩
  have hB1 := below_to hbX b1
  have HB := Lib.hid hb
  clear cT x0 x1 x2 x3 hwX hb
  cases b with
  | false =>
    have c2 := cW w1 hB1
    have HB1 := Lib.hid hB1
    clear cW hB1 b1 hbX
    go_wp2_with fail
    refine c2.mono ?_
    rintro en w2 ⟨rfl, b2⟩
    go_wp2_with fail
    go_ret
    exact ⟨rfl, below_to HB1.out b2⟩
  | true =>
    have hnd := HB.out rfl
    have hX1 := HX.out.later b1
    have hv1 := HV.out.later b1
    have hN1 := HN.out.below b1
    have hZ1 := HZ.out.below b1
    have cF := few8_any A1 A2 N.length k1 Z.length k2 w1
    have HB1 := Lib.hid hB1
    by_cases hf : N.length ≤ 50 ∧ Z.length ≤ 50
    · rw [decide_eq_true hf] at cF
      have HX1 := Lib.hid hX1
      have HV1 := Lib.hid hv1
      have HN1 := Lib.hid hN1
      have HZ1 := Lib.hid hZ1
      have HF := Lib.hid hf
      have HND := Lib.hid hnd
      obtain ⟨-, y0, y1, y2, y3, -⟩ := hX1
      clear hv1 hN1 hZ1 hf hnd b1 hbX hB1
      go_wp2_with fail
      refine cF.mono ?_
      rintro en w2 ⟨rfl, rfl⟩
      have c3 := copy_any e _ _ w1 HV1.out HND.out.2 HND.out.1
      go_wp2_with fail
      refine c3.mono ?_
      rintro en w3 ⟨b3, ao3, p3, rfl, hx3⟩
      have c4 := texts_any A1 N k1 w3 (by have := HF.out.1; omega) (HN1.out.below b3) HQN.out
      have HX3 := Lib.hid hx3
      have HB3 := Lib.hid b3
      clear c3 cF hx3 b3 y0 y1 y2 y3
      go_wp2_with fail
      refine c4.mono ?_
      rintro en w4 ⟨A4, p4, rfl, -, hN4, -, -, b4⟩
      have hB4 := below_to HB3.out b4
      have c5 := ints_any A2 Z k2 w4 (by have := HF.out.2; omega) (HZ1.out.below hB4) HQZ.out
      have HX4 := Lib.hid (HX3.out.later b4)
      have HN4 := Lib.hid hN4
      have HB4 := Lib.hid hB4
      clear c4 hN4 b4 hB4
      go_wp2_with fail
      refine c5.mono ?_
      rintro en w5 ⟨A5, p5, rfl, -, hZ5, -, -, b5⟩
      have hB5 := below_to HB4.out b5
      have hBB5 := below_to HB1.out hB5
      have c6 := types_any N Z A4 A5 p4 p5 (by have := HF.out.1; omega) (by have := HF.out.2; omega) e _ _ w5 (HE.out.later hBB5) (HX4.out.later b5) (HN4.out.below b5) hZ5
      obtain ⟨t, ht⟩ : ∃ t, tyN (ofE N Z e) = t := ⟨_, rfl⟩
      obtain ⟨f, hf⟩ : ∃ f, tyF (ofE N Z e) = f := ⟨_, rfl⟩
      have HT := Lib.hid ht
      have HG := Lib.hid hf
      simp only [tyV, ht, hf] at c6
      have HB5 := Lib.hid hB5
      clear c5 hZ5 b5 hB5 hBB5 ht hf
      go_wp2_with fail
      refine c6.mono ?_
      rintro en w6 ⟨rfl, b6⟩
      have hB6 := below_to HB5.out b6
      have hBB6 := below_to HB1.out hB6
      have c7 := rtypes_any N Z A1 A2 k1 k2 (by have := HF.out.1; omega) (by have := HF.out.2; omega) e _ _ w6 (HE.out.later hBB6) (HV1.out.later hB6) (HN1.out.below hB6) (HZ1.out.below hB6)
      simp only [tyV, HT.out, HG.out] at c7
      obtain ⟨-, z0, z1, z2, z3, -⟩ := HX1.out.later hB6
      have HB6 := Lib.hid hBB6
      clear c6 b6 hB6 hBB6
      go_wp2_with fail
      refine c7.mono ?_
      rintro en w7 ⟨rfl, b7⟩
      have hB7 := below_to HB6.out b7
      have c8 := cW w7 hB7
      have HB7 := Lib.hid hB7
      clear c7 b7 hB7 cW z0 z1 z2 z3
      go_wp2_with fail
      refine c8.mono ?_
      rintro en w8 ⟨rfl, b8⟩
      go_wp2_with fail
      go_ret
      exact ⟨rfl, below_to HB7.out b8⟩
    · rw [decide_eq_false hf] at cF
      have c2 := cW w1 hB1
      clear hv1 hN1 hZ1 hf hnd b1 hbX hB1 hX1 cW
      go_wp2_with fail
      refine cF.mono ?_
      rintro en w2 ⟨rfl, rfl⟩
      go_wp2_with fail
      refine c2.mono ?_
      rintro en w2 ⟨rfl, b2⟩
      go_wp2_with fail
      go_ret
      exact ⟨rfl, below_to HB1.out b2⟩
end Go.Proofs.YtaihlfjbgljhlaaGreatDoor
