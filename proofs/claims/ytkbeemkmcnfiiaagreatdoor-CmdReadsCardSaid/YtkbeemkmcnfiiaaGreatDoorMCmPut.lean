/- The contract of cmd.Put, by kinds. Printed by gen/cmput.py. -/
import Derived.Test.YtkbeemkmcnfiiaaGreatDoorMCmS
namespace Go.Proofs.YtkbeemkmcnfiiaaGreatDoor
open Go.RowKit

theorem putT_len (s : List UInt8) (h : s.length ≤ 1000000) : 1 ≤ (putT s).length ∧ (putT s).length ≤ s.length + 10 := by
  unfold putT
  have a := putI_pos (s.length : Int)
  have b := putI_ten (v := (s.length : Int)) (by omega) (by omega)
  rw [List.length_append]; omega
theorem own_to {w w1 w2 : World} {L : List UInt8} {e : Ending} (h : OwnBytes w1 L e w2) (hb : Below w.heap.size w w1) : OwnBytes w L e w2 := own_of h hb

set_option maxHeartbeats 1000000 in
set_option maxRecDepth 100000 in
theorem pput_1 (se sq : Int) (f : ByteArray) (ve K n : Int) (s : ByteArray) (hi : Cm.In ⟨1, se, sq, f, ve, K, n, s⟩) (w : World) (_ : f.data.toList.length ≤ 1000000) (_ : s.data.toList.length ≤ 1000000) :
    Calls Tryz.prog 14 #[V8 1 se sq f ve K n s] w (OwnBytes w (putC ⟨1, se, sq, f, ve, K, n, s⟩)) := by
  obtain ⟨-, -, e0, e1, q0, q1, v0, v1, K0, K1, n0, n1⟩ := hi
  simp only at e0 e1 q0 q1 v0 v1 K0 K1 n0 n1
  have hG := putC_1 (c := ⟨1, se, sq, f, ve, K, n, s⟩) rfl
  try dsimp only at hG
  rw [hG]; clear hG
  have t0 := putI_ten (v := 1) (by decide) (by decide)
  have b0 := below_alloc w (.cells (cs8 1 se sq f ve K n s) 25)
  have C0 := Blk.new w (cs8 1 se sq f ve K n s) 25
  obtain ⟨w0, hw0⟩ : ∃ w0, w.alloc (.cells (cs8 1 se sq f ve K n s) 25) = w0 := ⟨_, rfl⟩
  rw [hw0] at b0 C0
  have c0 := fun w => put_nil 1 w (by decide) (by decide)
  obtain ⟨M0, hM0⟩ : ∃ M, putI 1 = M := ⟨_, rfl⟩
  simp only [hM0] at c0 t0 ⊢
  have l0 : M0.length ≤ 10 := t0
  clear  hM0 t0 l0
  have d0 := Lib.hid c0
  clear c0
  go_enter Tryz.func14, Tryz.ntmps14
  obtain ⟨hl, z0, z1, z2, z3, z4, z5, z6, z7⟩ := C0.c8
  go_wp2_with fail
  refine (parts_1 _).mono ?_
  rintro x w1 ⟨rfl, hb1⟩
  have C1 := C0.later hb1
  have hbw1 := below_to b0 hb1
  have bH := below_alloc w1 (.cells #[.bool false, .bool false, .bool false] 46)
  have H2 := Blk.new w1 #[.bool false, .bool false, .bool false] 46
  have C2 := C1.later bH
  have hbw2 := below_to hbw1 bH
  clear hl z0 z1 z2 z3 z4 z5 z6 z7 hw0 b0 hb1 bH C0 hbw1
  obtain ⟨hl, z0, z1, z2, z3, z4, z5, z6, z7⟩ := C1.c8
  go_wp2_with fail
  generalize hw2 : w1.alloc (.cells #[.bool false, .bool false, .bool false] 46) = w2 at *
  clear hl z0 z1 z2 z3 z4 z5 z6 z7 hw2 C1
  refine (d0.out w2).mono ?_
  rintro x w3 ⟨A0, cap0, rfl, hB0, hc0, ho0, hb⟩
  have C3 := C2.later hb
  have H3 := H2.later hb
  have hbw3 := below_to hbw2 hb
  replace ho0 := ho0.mono hbw2.size
  clear hb C2 H2 hbw2
  obtain ⟨hl, z0, z1, z2, z3, z4, z5, z6, z7⟩ := C3.c8
  obtain ⟨hHl, m0, m1, m2⟩ := H3.m3
  have HF := Lib.hid (show OwnBytes w M0 _ w3 from ⟨A0, cap0, rfl, hB0, hc0, ho0, hbw3⟩)
  clear hB0 hc0 ho0 hbw3
  go_wp2
  go_ret
  exact HF.out
set_option maxHeartbeats 1000000 in
set_option maxRecDepth 100000 in
theorem pput_3 (se sq : Int) (f : ByteArray) (ve K n : Int) (s : ByteArray) (hi : Cm.In ⟨3, se, sq, f, ve, K, n, s⟩) (w : World) (_ : f.data.toList.length ≤ 1000000) (_ : s.data.toList.length ≤ 1000000) :
    Calls Tryz.prog 14 #[V8 3 se sq f ve K n s] w (OwnBytes w (putC ⟨3, se, sq, f, ve, K, n, s⟩)) := by
  obtain ⟨-, -, e0, e1, q0, q1, v0, v1, K0, K1, n0, n1⟩ := hi
  simp only at e0 e1 q0 q1 v0 v1 K0 K1 n0 n1
  have hG := putC_3 (c := ⟨3, se, sq, f, ve, K, n, s⟩) rfl
  try dsimp only at hG
  rw [hG]; clear hG
  have t0 := putI_ten (v := 3) (by decide) (by decide)
  have t1 := putI_ten (v := se) e0 e1
  have t2 := putI_ten (v := sq) q0 q1
  have b0 := below_alloc w (.cells (cs8 3 se sq f ve K n s) 25)
  have C0 := Blk.new w (cs8 3 se sq f ve K n s) 25
  obtain ⟨w0, hw0⟩ : ∃ w0, w.alloc (.cells (cs8 3 se sq f ve K n s) 25) = w0 := ⟨_, rfl⟩
  rw [hw0] at b0 C0
  have c0 := fun w => put_nil 3 w (by decide) (by decide)
  obtain ⟨M0, hM0⟩ : ∃ M, putI 3 = M := ⟨_, rfl⟩
  simp only [hM0] at c0 t0 ⊢
  have l0 : M0.length ≤ 10 := t0
  have c1 := fun A cap w h1 h2 => putint_any A M0 cap se w (by omega) h1 h2 e0 e1
  obtain ⟨M1, hM1⟩ : ∃ M, M0 ++ putI se = M := ⟨_, rfl⟩
  have l1 : M1.length ≤ 10 + 10 := by rw [← hM1, List.length_append]; omega
  simp only [hM1] at c1 ⊢
  have c2 := fun A cap w h1 h2 => putint_any A M1 cap sq w (by omega) h1 h2 q0 q1
  obtain ⟨M2, hM2⟩ : ∃ M, M1 ++ putI sq = M := ⟨_, rfl⟩
  have l2 : M2.length ≤ 10 + 10 + 10 := by rw [← hM2, List.length_append]; omega
  simp only [hM2] at c2 ⊢
  clear  hM0 hM1 hM2 t0 t1 t2 l0 l1 l2
  have d0 := Lib.hid c0
  have d1 := Lib.hid c1
  have d2 := Lib.hid c2
  clear c0 c1 c2
  go_enter Tryz.func14, Tryz.ntmps14
  obtain ⟨hl, z0, z1, z2, z3, z4, z5, z6, z7⟩ := C0.c8
  go_wp2_with fail
  refine (parts_3 _).mono ?_
  rintro x w1 ⟨rfl, hb1⟩
  have C1 := C0.later hb1
  have hbw1 := below_to b0 hb1
  have bH := below_alloc w1 (.cells #[.bool true, .bool false, .bool false] 46)
  have H2 := Blk.new w1 #[.bool true, .bool false, .bool false] 46
  have C2 := C1.later bH
  have hbw2 := below_to hbw1 bH
  clear hl z0 z1 z2 z3 z4 z5 z6 z7 hw0 b0 hb1 bH C0 hbw1
  obtain ⟨hl, z0, z1, z2, z3, z4, z5, z6, z7⟩ := C1.c8
  go_wp2_with fail
  generalize hw2 : w1.alloc (.cells #[.bool true, .bool false, .bool false] 46) = w2 at *
  clear hl z0 z1 z2 z3 z4 z5 z6 z7 hw2 C1
  refine (d0.out w2).mono ?_
  rintro x w3 ⟨A0, cap0, rfl, hB0, hc0, ho0, hb⟩
  have C3 := C2.later hb
  have H3 := H2.later hb
  have hbw3 := below_to hbw2 hb
  replace ho0 := ho0.mono hbw2.size
  clear hb C2 H2 hbw2
  obtain ⟨hl, z0, z1, z2, z3, z4, z5, z6, z7⟩ := C3.c8
  obtain ⟨hHl, m0, m1, m2⟩ := H3.m3
  go_wp2_with fail
  refine (d1.out A0 cap0 w3 (own_cap ho0) hB0).mono ?_
  rintro x w4 ⟨A1, cap1, rfl, hB1, hc1, ho1, hb⟩
  have C4 := C3.later hb
  have H4 := H3.later hb
  have hbw4 := below_to hbw3 hb
  replace ho1 := ho1.mono hbw3.size
  clear hb C3 H3 hbw3 hl z0 z1 z2 z3 z4 z5 z6 z7 hHl m0 m1 m2 ho0 hB0 hc0
  obtain ⟨hl, z0, z1, z2, z3, z4, z5, z6, z7⟩ := C4.c8
  obtain ⟨hHl, m0, m1, m2⟩ := H4.m3
  go_wp2_with fail
  refine (d2.out A1 cap1 w4 (own_cap ho1) hB1).mono ?_
  rintro x w5 ⟨A2, cap2, rfl, hB2, hc2, ho2, hb⟩
  have C5 := C4.later hb
  have H5 := H4.later hb
  have hbw5 := below_to hbw4 hb
  replace ho2 := ho2.mono hbw4.size
  clear hb C4 H4 hbw4 hl z0 z1 z2 z3 z4 z5 z6 z7 hHl m0 m1 m2 ho1 hB1 hc1
  obtain ⟨hl, z0, z1, z2, z3, z4, z5, z6, z7⟩ := C5.c8
  obtain ⟨hHl, m0, m1, m2⟩ := H5.m3
  have HF := Lib.hid (show OwnBytes w M2 _ w5 from ⟨A2, cap2, rfl, hB2, hc2, ho2, hbw5⟩)
  clear hB2 hc2 ho2 hbw5
  go_wp2
  go_ret
  exact HF.out
set_option maxHeartbeats 1000000 in
set_option maxRecDepth 100000 in
theorem pput_4 (se sq : Int) (f : ByteArray) (ve K n : Int) (s : ByteArray) (hi : Cm.In ⟨4, se, sq, f, ve, K, n, s⟩) (w : World) (hf : f.data.toList.length ≤ 1000000) (_ : s.data.toList.length ≤ 1000000) :
    Calls Tryz.prog 14 #[V8 4 se sq f ve K n s] w (OwnBytes w (putC ⟨4, se, sq, f, ve, K, n, s⟩)) := by
  obtain ⟨-, -, e0, e1, q0, q1, v0, v1, K0, K1, n0, n1⟩ := hi
  simp only at e0 e1 q0 q1 v0 v1 K0 K1 n0 n1
  have hG := putC_4 (c := ⟨4, se, sq, f, ve, K, n, s⟩) rfl
  try dsimp only at hG
  rw [hG]; clear hG
  have t0 := putI_ten (v := 4) (by decide) (by decide)
  have t1 := putI_ten (v := se) e0 e1
  have t2 := putI_ten (v := sq) q0 q1
  have t3 := (putT_len f.data.toList hf).2
  have b0 := below_alloc w (.cells (cs8 4 se sq f ve K n s) 25)
  have C0 := Blk.new w (cs8 4 se sq f ve K n s) 25
  obtain ⟨w0, hw0⟩ : ∃ w0, w.alloc (.cells (cs8 4 se sq f ve K n s) 25) = w0 := ⟨_, rfl⟩
  rw [hw0] at b0 C0
  have c0 := fun w => put_nil 4 w (by decide) (by decide)
  obtain ⟨M0, hM0⟩ : ∃ M, putI 4 = M := ⟨_, rfl⟩
  simp only [hM0] at c0 t0 ⊢
  have l0 : M0.length ≤ 10 := t0
  have c1 := fun A cap w h1 h2 => putint_any A M0 cap se w (by omega) h1 h2 e0 e1
  obtain ⟨M1, hM1⟩ : ∃ M, M0 ++ putI se = M := ⟨_, rfl⟩
  have l1 : M1.length ≤ 10 + 10 := by rw [← hM1, List.length_append]; omega
  simp only [hM1] at c1 ⊢
  have c2 := fun A cap w h1 h2 => putint_any A M1 cap sq w (by omega) h1 h2 q0 q1
  obtain ⟨M2, hM2⟩ : ∃ M, M1 ++ putI sq = M := ⟨_, rfl⟩
  have l2 : M2.length ≤ 10 + 10 + 10 := by rw [← hM2, List.length_append]; omega
  simp only [hM2] at c2 ⊢
  have c3 := fun A cap w h1 h2 => puttext_any A M2 cap f w (by omega) h1 h2
  obtain ⟨M3, hM3⟩ : ∃ M, M2 ++ putT f.data.toList = M := ⟨_, rfl⟩
  have l3 : M3.length ≤ 10 + 10 + 10 + (f.data.toList.length + 10) := by rw [← hM3, List.length_append]; omega
  simp only [hM3] at c3 ⊢
  clear hf hM0 hM1 hM2 hM3 t0 t1 t2 t3 l0 l1 l2 l3
  have d0 := Lib.hid c0
  have d1 := Lib.hid c1
  have d2 := Lib.hid c2
  have d3 := Lib.hid c3
  clear c0 c1 c2 c3
  go_enter Tryz.func14, Tryz.ntmps14
  obtain ⟨hl, z0, z1, z2, z3, z4, z5, z6, z7⟩ := C0.c8
  go_wp2_with fail
  refine (parts_4 _).mono ?_
  rintro x w1 ⟨rfl, hb1⟩
  have C1 := C0.later hb1
  have hbw1 := below_to b0 hb1
  have bH := below_alloc w1 (.cells #[.bool true, .bool true, .bool false] 46)
  have H2 := Blk.new w1 #[.bool true, .bool true, .bool false] 46
  have C2 := C1.later bH
  have hbw2 := below_to hbw1 bH
  clear hl z0 z1 z2 z3 z4 z5 z6 z7 hw0 b0 hb1 bH C0 hbw1
  obtain ⟨hl, z0, z1, z2, z3, z4, z5, z6, z7⟩ := C1.c8
  go_wp2_with fail
  generalize hw2 : w1.alloc (.cells #[.bool true, .bool true, .bool false] 46) = w2 at *
  clear hl z0 z1 z2 z3 z4 z5 z6 z7 hw2 C1
  refine (d0.out w2).mono ?_
  rintro x w3 ⟨A0, cap0, rfl, hB0, hc0, ho0, hb⟩
  have C3 := C2.later hb
  have H3 := H2.later hb
  have hbw3 := below_to hbw2 hb
  replace ho0 := ho0.mono hbw2.size
  clear hb C2 H2 hbw2
  obtain ⟨hl, z0, z1, z2, z3, z4, z5, z6, z7⟩ := C3.c8
  obtain ⟨hHl, m0, m1, m2⟩ := H3.m3
  go_wp2_with fail
  refine (d1.out A0 cap0 w3 (own_cap ho0) hB0).mono ?_
  rintro x w4 ⟨A1, cap1, rfl, hB1, hc1, ho1, hb⟩
  have C4 := C3.later hb
  have H4 := H3.later hb
  have hbw4 := below_to hbw3 hb
  replace ho1 := ho1.mono hbw3.size
  clear hb C3 H3 hbw3 hl z0 z1 z2 z3 z4 z5 z6 z7 hHl m0 m1 m2 ho0 hB0 hc0
  obtain ⟨hl, z0, z1, z2, z3, z4, z5, z6, z7⟩ := C4.c8
  obtain ⟨hHl, m0, m1, m2⟩ := H4.m3
  go_wp2_with fail
  refine (d2.out A1 cap1 w4 (own_cap ho1) hB1).mono ?_
  rintro x w5 ⟨A2, cap2, rfl, hB2, hc2, ho2, hb⟩
  have C5 := C4.later hb
  have H5 := H4.later hb
  have hbw5 := below_to hbw4 hb
  replace ho2 := ho2.mono hbw4.size
  clear hb C4 H4 hbw4 hl z0 z1 z2 z3 z4 z5 z6 z7 hHl m0 m1 m2 ho1 hB1 hc1
  obtain ⟨hl, z0, z1, z2, z3, z4, z5, z6, z7⟩ := C5.c8
  obtain ⟨hHl, m0, m1, m2⟩ := H5.m3
  go_wp2_with fail
  refine (d3.out A2 cap2 w5 (own_cap ho2) hB2).mono ?_
  rintro x w6 ⟨A3, cap3, rfl, hB3, hc3, ho3, hb⟩
  have C6 := C5.later hb
  have H6 := H5.later hb
  have hbw6 := below_to hbw5 hb
  replace ho3 := ho3.mono hbw5.size
  clear hb C5 H5 hbw5 hl z0 z1 z2 z3 z4 z5 z6 z7 hHl m0 m1 m2 ho2 hB2 hc2
  obtain ⟨hl, z0, z1, z2, z3, z4, z5, z6, z7⟩ := C6.c8
  obtain ⟨hHl, m0, m1, m2⟩ := H6.m3
  have HF := Lib.hid (show OwnBytes w M3 _ w6 from ⟨A3, cap3, rfl, hB3, hc3, ho3, hbw6⟩)
  clear hB3 hc3 ho3 hbw6
  go_wp2
  go_ret
  exact HF.out
set_option maxHeartbeats 1000000 in
set_option maxRecDepth 100000 in
theorem pput_2 (se sq : Int) (f : ByteArray) (ve K n : Int) (s : ByteArray) (hi : Cm.In ⟨2, se, sq, f, ve, K, n, s⟩) (w : World) (hf : f.data.toList.length ≤ 1000000) (hs : s.data.toList.length ≤ 1000000) :
    Calls Tryz.prog 14 #[V8 2 se sq f ve K n s] w (OwnBytes w (putC ⟨2, se, sq, f, ve, K, n, s⟩)) := by
  obtain ⟨-, -, e0, e1, q0, q1, v0, v1, K0, K1, n0, n1⟩ := hi
  simp only at e0 e1 q0 q1 v0 v1 K0 K1 n0 n1
  have hG := putC_2 (c := ⟨2, se, sq, f, ve, K, n, s⟩) rfl
  try dsimp only at hG
  rw [hG]; clear hG
  have t0 := putI_ten (v := 2) (by decide) (by decide)
  have t1 := putI_ten (v := se) e0 e1
  have t2 := putI_ten (v := sq) q0 q1
  have t3 := (putT_len f.data.toList hf).2
  have t4 := putI_ten (v := ve) v0 v1
  have b0 := below_alloc w (.cells (cs8 2 se sq f ve K n s) 25)
  have C0 := Blk.new w (cs8 2 se sq f ve K n s) 25
  obtain ⟨w0, hw0⟩ : ∃ w0, w.alloc (.cells (cs8 2 se sq f ve K n s) 25) = w0 := ⟨_, rfl⟩
  rw [hw0] at b0 C0
  have c0 := fun w => put_nil 2 w (by decide) (by decide)
  obtain ⟨M0, hM0⟩ : ∃ M, putI 2 = M := ⟨_, rfl⟩
  simp only [hM0] at c0 t0 ⊢
  have l0 : M0.length ≤ 10 := t0
  have c1 := fun A cap w h1 h2 => putint_any A M0 cap se w (by omega) h1 h2 e0 e1
  obtain ⟨M1, hM1⟩ : ∃ M, M0 ++ putI se = M := ⟨_, rfl⟩
  have l1 : M1.length ≤ 10 + 10 := by rw [← hM1, List.length_append]; omega
  simp only [hM1] at c1 ⊢
  have c2 := fun A cap w h1 h2 => putint_any A M1 cap sq w (by omega) h1 h2 q0 q1
  obtain ⟨M2, hM2⟩ : ∃ M, M1 ++ putI sq = M := ⟨_, rfl⟩
  have l2 : M2.length ≤ 10 + 10 + 10 := by rw [← hM2, List.length_append]; omega
  simp only [hM2] at c2 ⊢
  have c3 := fun A cap w h1 h2 => puttext_any A M2 cap f w (by omega) h1 h2
  obtain ⟨M3, hM3⟩ : ∃ M, M2 ++ putT f.data.toList = M := ⟨_, rfl⟩
  have l3 : M3.length ≤ 10 + 10 + 10 + (f.data.toList.length + 10) := by rw [← hM3, List.length_append]; omega
  simp only [hM3] at c3 ⊢
  have c4 := fun A cap w h1 h2 => putint_any A M3 cap ve w (by omega) h1 h2 v0 v1
  obtain ⟨M4, hM4⟩ : ∃ M, M3 ++ putI ve = M := ⟨_, rfl⟩
  have l4 : M4.length ≤ 10 + 10 + 10 + (f.data.toList.length + 10) + 10 := by rw [← hM4, List.length_append]; omega
  simp only [hM4] at c4 ⊢
  have c5 := fun A cap w h1 h2 => put_any A M4 cap K n s w (by omega) h1 h2 K0 K1 n0 n1
  obtain ⟨M5, hM5⟩ : ∃ M, M4 ++ putV K n s.data.toList = M := ⟨_, rfl⟩
  simp only [hM5] at c5 ⊢
  clear hf hs hM0 hM1 hM2 hM3 hM4 hM5 t0 t1 t2 t3 t4 l0 l1 l2 l3 l4
  have d0 := Lib.hid c0
  have d1 := Lib.hid c1
  have d2 := Lib.hid c2
  have d3 := Lib.hid c3
  have d4 := Lib.hid c4
  have d5 := Lib.hid c5
  clear c0 c1 c2 c3 c4 c5
  go_enter Tryz.func14, Tryz.ntmps14
  obtain ⟨hl, z0, z1, z2, z3, z4, z5, z6, z7⟩ := C0.c8
  go_wp2_with fail
  refine (parts_2 _).mono ?_
  rintro x w1 ⟨rfl, hb1⟩
  have C1 := C0.later hb1
  have hbw1 := below_to b0 hb1
  have bH := below_alloc w1 (.cells #[.bool true, .bool true, .bool true] 46)
  have H2 := Blk.new w1 #[.bool true, .bool true, .bool true] 46
  have C2 := C1.later bH
  have hbw2 := below_to hbw1 bH
  clear hl z0 z1 z2 z3 z4 z5 z6 z7 hw0 b0 hb1 bH C0 hbw1
  obtain ⟨hl, z0, z1, z2, z3, z4, z5, z6, z7⟩ := C1.c8
  go_wp2_with fail
  generalize hw2 : w1.alloc (.cells #[.bool true, .bool true, .bool true] 46) = w2 at *
  clear hl z0 z1 z2 z3 z4 z5 z6 z7 hw2 C1
  refine (d0.out w2).mono ?_
  rintro x w3 ⟨A0, cap0, rfl, hB0, hc0, ho0, hb⟩
  have C3 := C2.later hb
  have H3 := H2.later hb
  have hbw3 := below_to hbw2 hb
  replace ho0 := ho0.mono hbw2.size
  clear hb C2 H2 hbw2
  obtain ⟨hl, z0, z1, z2, z3, z4, z5, z6, z7⟩ := C3.c8
  obtain ⟨hHl, m0, m1, m2⟩ := H3.m3
  go_wp2_with fail
  refine (d1.out A0 cap0 w3 (own_cap ho0) hB0).mono ?_
  rintro x w4 ⟨A1, cap1, rfl, hB1, hc1, ho1, hb⟩
  have C4 := C3.later hb
  have H4 := H3.later hb
  have hbw4 := below_to hbw3 hb
  replace ho1 := ho1.mono hbw3.size
  clear hb C3 H3 hbw3 hl z0 z1 z2 z3 z4 z5 z6 z7 hHl m0 m1 m2 ho0 hB0 hc0
  obtain ⟨hl, z0, z1, z2, z3, z4, z5, z6, z7⟩ := C4.c8
  obtain ⟨hHl, m0, m1, m2⟩ := H4.m3
  go_wp2_with fail
  refine (d2.out A1 cap1 w4 (own_cap ho1) hB1).mono ?_
  rintro x w5 ⟨A2, cap2, rfl, hB2, hc2, ho2, hb⟩
  have C5 := C4.later hb
  have H5 := H4.later hb
  have hbw5 := below_to hbw4 hb
  replace ho2 := ho2.mono hbw4.size
  clear hb C4 H4 hbw4 hl z0 z1 z2 z3 z4 z5 z6 z7 hHl m0 m1 m2 ho1 hB1 hc1
  obtain ⟨hl, z0, z1, z2, z3, z4, z5, z6, z7⟩ := C5.c8
  obtain ⟨hHl, m0, m1, m2⟩ := H5.m3
  go_wp2_with fail
  refine (d3.out A2 cap2 w5 (own_cap ho2) hB2).mono ?_
  rintro x w6 ⟨A3, cap3, rfl, hB3, hc3, ho3, hb⟩
  have C6 := C5.later hb
  have H6 := H5.later hb
  have hbw6 := below_to hbw5 hb
  replace ho3 := ho3.mono hbw5.size
  clear hb C5 H5 hbw5 hl z0 z1 z2 z3 z4 z5 z6 z7 hHl m0 m1 m2 ho2 hB2 hc2
  obtain ⟨hl, z0, z1, z2, z3, z4, z5, z6, z7⟩ := C6.c8
  obtain ⟨hHl, m0, m1, m2⟩ := H6.m3
  go_wp2_with fail
  refine (d4.out A3 cap3 w6 (own_cap ho3) hB3).mono ?_
  rintro x w7 ⟨A4, cap4, rfl, hB4, hc4, ho4, hb⟩
  have C7 := C6.later hb
  have H7 := H6.later hb
  have hbw7 := below_to hbw6 hb
  replace ho4 := ho4.mono hbw6.size
  clear hb C6 H6 hbw6 hl z0 z1 z2 z3 z4 z5 z6 z7 hHl m0 m1 m2 ho3 hB3 hc3
  obtain ⟨hl, z0, z1, z2, z3, z4, z5, z6, z7⟩ := C7.c8
  obtain ⟨hHl, m0, m1, m2⟩ := H7.m3
  go_wp2_with fail
  refine (d5.out A4 cap4 w7 (own_cap ho4) hB4).mono ?_
  rintro x w8 ⟨A5, cap5, rfl, hB5, hc5, ho5, hb⟩
  have C8 := C7.later hb
  have H8 := H7.later hb
  have hbw8 := below_to hbw7 hb
  replace ho5 := ho5.mono hbw7.size
  clear hb C7 H7 hbw7 hl z0 z1 z2 z3 z4 z5 z6 z7 hHl m0 m1 m2 ho4 hB4 hc4
  obtain ⟨hl, z0, z1, z2, z3, z4, z5, z6, z7⟩ := C8.c8
  obtain ⟨hHl, m0, m1, m2⟩ := H8.m3
  have HF := Lib.hid (show OwnBytes w M5 _ w8 from ⟨A5, cap5, rfl, hB5, hc5, ho5, hbw8⟩)
  clear hB5 hc5 ho5 hbw8
  go_wp2
  go_ret
  exact HF.out
end Go.Proofs.YtkbeemkmcnfiiaaGreatDoor
