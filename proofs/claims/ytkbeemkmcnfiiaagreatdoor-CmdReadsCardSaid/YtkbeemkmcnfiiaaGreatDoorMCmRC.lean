/- The contract of the document's own Check of a command. Printed by gen/cmrck.py. -/
import Derived.Test.YtkbeemkmcnfiiaaGreatDoorMCmS
import Derived.Test.YtkbeemkmcnfiiaaGreatDoorGK
namespace Go.Proofs.YtkbeemkmcnfiiaaGreatDoor
open Go.RowKit

theorem txt_iff (s : ByteArray) : s = txt [] ↔ s.data.toList = [] := ⟨fun h => by rw [h], txt_nil⟩
theorem emp_no {s : ByteArray} (h : ¬ s.data.toList = []) : s.toList.isEmpty = false := by rw [emp]; exact decide_eq_false h
theorem eql_zero (K n : Int) (s : ByteArray) (w : World) : (binOp .eql 23 (V3 K n s) (V3 0 0 ⟨#[]⟩)).run Tryz.prog w = .ok (.bool (sameW K n s 0 0 ⟨#[]⟩)) w := by
  rw [run_eql_struct, eqlIn_value2]; rfl

set_option maxHeartbeats 1000000 in
set_option maxRecDepth 100000 in
theorem rck_1_none (se sq : Int) (f : ByteArray) (ve : Int) (K n : Int) (s : ByteArray) (hi : Cm.In ⟨1, se, sq, f, ve, K, n, s⟩) (w : World)  :
    Calls Tryz.prog 11 #[V8 1 se sq f ve K n s] w fun e w' => e = .returned (.bool (sameC 1 se sq f ve K n s 1 0 0 ⟨#[]⟩ 0 0 0 ⟨#[]⟩)) ∧ Below w.heap.size w w' := by
  obtain ⟨-, -, e0, e1, q0, q1, v0, v1, K0, K1, n0, n1⟩ := hi
  simp only at e0 e1 q0 q1 v0 v1 K0 K1 n0 n1
  have b0 := below_alloc w (.cells (cs8 1 se sq f ve K n s) 25)
  have C0 := Blk.new w (cs8 1 se sq f ve K n s) 25
  obtain ⟨w0, hw0⟩ : ∃ w0, w.alloc (.cells (cs8 1 se sq f ve K n s) 25) = w0 := ⟨_, rfl⟩
  rw [hw0] at b0 C0
  have hqi := fun w => eqlIn_cmd 1 se sq f ve K n s 1 0 0 ⟨#[]⟩ 0 0 0 ⟨#[]⟩ w
  have hqs := fun w => eql_cmd 1 se sq f ve K n s 1 0 0 ⟨#[]⟩ 0 0 0 ⟨#[]⟩ w
  generalize sameC 1 se sq f ve K n s 1 0 0 ⟨#[]⟩ 0 0 0 ⟨#[]⟩ = RR at *
  go_enter Tryz.func11, Tryz.ntmps11
  obtain ⟨hl, c0, c1, c2, c3, c4, c5, c6, c7⟩ := C0.c8
  have HB := Lib.hid b0
  go_wp2
  go_ret
  exact ⟨rfl, HB.out⟩
set_option maxHeartbeats 1000000 in
set_option maxRecDepth 100000 in
theorem rck_2_se (se sq : Int) (f : ByteArray) (ve : Int) (K n : Int) (s : ByteArray) (hi : Cm.In ⟨2, se, sq, f, ve, K, n, s⟩) (w : World) (hse : wi 1 se = false) :
    Calls Tryz.prog 11 #[V8 2 se sq f ve K n s] w fun e w' => e = .returned (.bool (false)) ∧ Below w.heap.size w w' := by
  obtain ⟨-, -, e0, e1, q0, q1, v0, v1, K0, K1, n0, n1⟩ := hi
  simp only at e0 e1 q0 q1 v0 v1 K0 K1 n0 n1
  have b0 := below_alloc w (.cells (cs8 2 se sq f ve K n s) 25)
  have C0 := Blk.new w (cs8 2 se sq f ve K n s) 25
  obtain ⟨w0, hw0⟩ : ∃ w0, w.alloc (.cells (cs8 2 se sq f ve K n s) 25) = w0 := ⟨_, rfl⟩
  rw [hw0] at b0 C0
  have cse := fun w => counts_any se 1 w (by decide) (by decide) e0 e1
  simp only [hse] at cse
  go_enter Tryz.func11, Tryz.ntmps11
  obtain ⟨hl, c0, c1, c2, c3, c4, c5, c6, c7⟩ := C0.c8
  go_wp2_with fail
  refine (cse _).mono ?_
  rintro x wz ⟨rfl, rfl⟩
  have HB := Lib.hid b0
  go_wp2
  go_ret
  exact ⟨rfl, HB.out⟩
set_option maxHeartbeats 1000000 in
set_option maxRecDepth 100000 in
theorem rck_2_sq (se sq : Int) (f : ByteArray) (ve : Int) (K n : Int) (s : ByteArray) (hi : Cm.In ⟨2, se, sq, f, ve, K, n, s⟩) (w : World) (hse : wi 1 se = true) (hsq : wi 1 sq = false) :
    Calls Tryz.prog 11 #[V8 2 se sq f ve K n s] w fun e w' => e = .returned (.bool (false)) ∧ Below w.heap.size w w' := by
  obtain ⟨-, -, e0, e1, q0, q1, v0, v1, K0, K1, n0, n1⟩ := hi
  simp only at e0 e1 q0 q1 v0 v1 K0 K1 n0 n1
  have b0 := below_alloc w (.cells (cs8 2 se sq f ve K n s) 25)
  have C0 := Blk.new w (cs8 2 se sq f ve K n s) 25
  obtain ⟨w0, hw0⟩ : ∃ w0, w.alloc (.cells (cs8 2 se sq f ve K n s) 25) = w0 := ⟨_, rfl⟩
  rw [hw0] at b0 C0
  have cse := fun w => counts_any se 1 w (by decide) (by decide) e0 e1
  simp only [hse] at cse
  have csq := fun w => counts_any sq 1 w (by decide) (by decide) q0 q1
  simp only [hsq] at csq
  go_enter Tryz.func11, Tryz.ntmps11
  obtain ⟨hl, c0, c1, c2, c3, c4, c5, c6, c7⟩ := C0.c8
  go_wp2_with fail
  refine (cse _).mono ?_
  rintro x wz ⟨rfl, rfl⟩
  go_wp2_with fail
  refine (csq _).mono ?_
  rintro x wz ⟨rfl, rfl⟩
  have HB := Lib.hid b0
  go_wp2
  go_ret
  exact ⟨rfl, HB.out⟩
set_option maxHeartbeats 1000000 in
set_option maxRecDepth 100000 in
theorem rck_2_nm (se sq : Int) (f : ByteArray) (ve : Int) (K n : Int) (s : ByteArray) (hi : Cm.In ⟨2, se, sq, f, ve, K, n, s⟩) (w : World) (hE : Env7 w) (hfz : f.size ≤ 9223372036854775807) (hse : wi 1 se = true) (hsq : wi 1 sq = true) (hnm : nameB f.data.toList = false) :
    Calls Tryz.prog 11 #[V8 2 se sq f ve K n s] w fun e w' => e = .returned (.bool (false)) ∧ Below w.heap.size w w' := by
  obtain ⟨-, -, e0, e1, q0, q1, v0, v1, K0, K1, n0, n1⟩ := hi
  simp only at e0 e1 q0 q1 v0 v1 K0 K1 n0 n1
  have b0 := below_alloc w (.cells (cs8 2 se sq f ve K n s) 25)
  have C0 := Blk.new w (cs8 2 se sq f ve K n s) 25
  obtain ⟨w0, hw0⟩ : ∃ w0, w.alloc (.cells (cs8 2 se sq f ve K n s) 25) = w0 := ⟨_, rfl⟩
  rw [hw0] at b0 C0
  have cse := fun w => counts_any se 1 w (by decide) (by decide) e0 e1
  simp only [hse] at cse
  have csq := fun w => counts_any sq 1 w (by decide) (by decide) q0 q1
  simp only [hsq] at csq
  have cnm := fun w' (hb : Below w.heap.size w w') => rname_any f w' hfz (hE.later hb)
  simp only [hnm] at cnm
  go_enter Tryz.func11, Tryz.ntmps11
  obtain ⟨hl, c0, c1, c2, c3, c4, c5, c6, c7⟩ := C0.c8
  go_wp2_with fail
  refine (cse _).mono ?_
  rintro x wz ⟨rfl, rfl⟩
  go_wp2_with fail
  refine (csq _).mono ?_
  rintro x wz ⟨rfl, rfl⟩
  go_wp2_with fail
  refine (cnm w0 b0).mono ?_
  rintro x w1 ⟨rfl, hb⟩
  have C1 := C0.later hb
  have b1 := below_to b0 hb
  clear hl c0 c1 c2 c3 c4 c5 c6 c7 hb C0 b0 hw0
  obtain ⟨hl, c0, c1, c2, c3, c4, c5, c6, c7⟩ := C1.c8
  have HB := Lib.hid b1
  go_wp2
  go_ret
  exact ⟨rfl, HB.out⟩
set_option maxHeartbeats 1000000 in
set_option maxRecDepth 100000 in
theorem rck_2_ve (se sq : Int) (f : ByteArray) (ve : Int) (K n : Int) (s : ByteArray) (hi : Cm.In ⟨2, se, sq, f, ve, K, n, s⟩) (w : World) (hE : Env7 w) (hfz : f.size ≤ 9223372036854775807) (hse : wi 1 se = true) (hsq : wi 1 sq = true) (hnm : nameB f.data.toList = true) (hve : wi 0 ve = false) :
    Calls Tryz.prog 11 #[V8 2 se sq f ve K n s] w fun e w' => e = .returned (.bool (false)) ∧ Below w.heap.size w w' := by
  obtain ⟨-, -, e0, e1, q0, q1, v0, v1, K0, K1, n0, n1⟩ := hi
  simp only at e0 e1 q0 q1 v0 v1 K0 K1 n0 n1
  have b0 := below_alloc w (.cells (cs8 2 se sq f ve K n s) 25)
  have C0 := Blk.new w (cs8 2 se sq f ve K n s) 25
  obtain ⟨w0, hw0⟩ : ∃ w0, w.alloc (.cells (cs8 2 se sq f ve K n s) 25) = w0 := ⟨_, rfl⟩
  rw [hw0] at b0 C0
  have cse := fun w => counts_any se 1 w (by decide) (by decide) e0 e1
  simp only [hse] at cse
  have csq := fun w => counts_any sq 1 w (by decide) (by decide) q0 q1
  simp only [hsq] at csq
  have cnm := fun w' (hb : Below w.heap.size w w') => rname_any f w' hfz (hE.later hb)
  simp only [hnm] at cnm
  have cve := fun w => counts_any ve 0 w (by decide) (by decide) v0 v1
  simp only [hve] at cve
  go_enter Tryz.func11, Tryz.ntmps11
  obtain ⟨hl, c0, c1, c2, c3, c4, c5, c6, c7⟩ := C0.c8
  go_wp2_with fail
  refine (cse _).mono ?_
  rintro x wz ⟨rfl, rfl⟩
  go_wp2_with fail
  refine (csq _).mono ?_
  rintro x wz ⟨rfl, rfl⟩
  go_wp2_with fail
  refine (cnm w0 b0).mono ?_
  rintro x w1 ⟨rfl, hb⟩
  have C1 := C0.later hb
  have b1 := below_to b0 hb
  clear hl c0 c1 c2 c3 c4 c5 c6 c7 hb C0 b0 hw0
  obtain ⟨hl, c0, c1, c2, c3, c4, c5, c6, c7⟩ := C1.c8
  go_wp2_with fail
  refine (cve _).mono ?_
  rintro x wz ⟨rfl, rfl⟩
  have HB := Lib.hid b1
  go_wp2
  go_ret
  exact ⟨rfl, HB.out⟩
set_option maxHeartbeats 1000000 in
set_option maxRecDepth 100000 in
theorem rck_2_last (se sq : Int) (f : ByteArray) (ve : Int) (K n : Int) (s : ByteArray) (hi : Cm.In ⟨2, se, sq, f, ve, K, n, s⟩) (w : World) (hE : Env7 w) (hfz : f.size ≤ 9223372036854775807) (hse : wi 1 se = true) (hsq : wi 1 sq = true) (hnm : nameB f.data.toList = true) (hve : wi 0 ve = true) :
    Calls Tryz.prog 11 #[V8 2 se sq f ve K n s] w fun e w' => e = .returned (.bool (checkB K n s.data.toList)) ∧ Below w.heap.size w w' := by
  obtain ⟨-, -, e0, e1, q0, q1, v0, v1, K0, K1, n0, n1⟩ := hi
  simp only at e0 e1 q0 q1 v0 v1 K0 K1 n0 n1
  have b0 := below_alloc w (.cells (cs8 2 se sq f ve K n s) 25)
  have C0 := Blk.new w (cs8 2 se sq f ve K n s) 25
  obtain ⟨w0, hw0⟩ : ∃ w0, w.alloc (.cells (cs8 2 se sq f ve K n s) 25) = w0 := ⟨_, rfl⟩
  rw [hw0] at b0 C0
  have cse := fun w => counts_any se 1 w (by decide) (by decide) e0 e1
  simp only [hse] at cse
  have csq := fun w => counts_any sq 1 w (by decide) (by decide) q0 q1
  simp only [hsq] at csq
  have cnm := fun w' (hb : Below w.heap.size w w') => rname_any f w' hfz (hE.later hb)
  simp only [hnm] at cnm
  have cve := fun w => counts_any ve 0 w (by decide) (by decide) v0 v1
  simp only [hve] at cve
  have cva := fun w' => refCheck_any K n s w'
  obtain ⟨RR, hRR⟩ : ∃ RR, checkB K n s.data.toList = RR := ⟨_, rfl⟩
  simp only [hRR] at cva ⊢
  go_enter Tryz.func11, Tryz.ntmps11
  obtain ⟨hl, c0, c1, c2, c3, c4, c5, c6, c7⟩ := C0.c8
  go_wp2_with fail
  refine (cse _).mono ?_
  rintro x wz ⟨rfl, rfl⟩
  go_wp2_with fail
  refine (csq _).mono ?_
  rintro x wz ⟨rfl, rfl⟩
  go_wp2_with fail
  refine (cnm w0 b0).mono ?_
  rintro x w1 ⟨rfl, hb⟩
  have C1 := C0.later hb
  have b1 := below_to b0 hb
  clear hl c0 c1 c2 c3 c4 c5 c6 c7 hb C0 b0 hw0
  obtain ⟨hl, c0, c1, c2, c3, c4, c5, c6, c7⟩ := C1.c8
  go_wp2_with fail
  refine (cve _).mono ?_
  rintro x wz ⟨rfl, rfl⟩
  go_wp2_with fail
  refine (cva w1).mono ?_
  rintro x w2 ⟨rfl, hb⟩
  have C2 := C1.later hb
  have b2 := below_to b1 hb
  clear hl c0 c1 c2 c3 c4 c5 c6 c7 hb C1 b1
  obtain ⟨hl, c0, c1, c2, c3, c4, c5, c6, c7⟩ := C2.c8
  have HB := Lib.hid b2
  go_wp2
  go_ret
  exact ⟨rfl, HB.out⟩
set_option maxHeartbeats 1000000 in
set_option maxRecDepth 100000 in
theorem rck_3_se (se sq : Int) (f : ByteArray) (ve : Int) (K n : Int) (s : ByteArray) (hi : Cm.In ⟨3, se, sq, f, ve, K, n, s⟩) (w : World) (hse : wi 1 se = false) :
    Calls Tryz.prog 11 #[V8 3 se sq f ve K n s] w fun e w' => e = .returned (.bool (false)) ∧ Below w.heap.size w w' := by
  obtain ⟨-, -, e0, e1, q0, q1, v0, v1, K0, K1, n0, n1⟩ := hi
  simp only at e0 e1 q0 q1 v0 v1 K0 K1 n0 n1
  have b0 := below_alloc w (.cells (cs8 3 se sq f ve K n s) 25)
  have C0 := Blk.new w (cs8 3 se sq f ve K n s) 25
  obtain ⟨w0, hw0⟩ : ∃ w0, w.alloc (.cells (cs8 3 se sq f ve K n s) 25) = w0 := ⟨_, rfl⟩
  rw [hw0] at b0 C0
  have cse := fun w => counts_any se 1 w (by decide) (by decide) e0 e1
  simp only [hse] at cse
  go_enter Tryz.func11, Tryz.ntmps11
  obtain ⟨hl, c0, c1, c2, c3, c4, c5, c6, c7⟩ := C0.c8
  go_wp2_with fail
  refine (cse _).mono ?_
  rintro x wz ⟨rfl, rfl⟩
  have HB := Lib.hid b0
  go_wp2
  go_ret
  exact ⟨rfl, HB.out⟩
set_option maxHeartbeats 1000000 in
set_option maxRecDepth 100000 in
theorem rck_3_sq (se sq : Int) (f : ByteArray) (ve : Int) (K n : Int) (s : ByteArray) (hi : Cm.In ⟨3, se, sq, f, ve, K, n, s⟩) (w : World) (hse : wi 1 se = true) (hsq : wi 1 sq = false) :
    Calls Tryz.prog 11 #[V8 3 se sq f ve K n s] w fun e w' => e = .returned (.bool (false)) ∧ Below w.heap.size w w' := by
  obtain ⟨-, -, e0, e1, q0, q1, v0, v1, K0, K1, n0, n1⟩ := hi
  simp only at e0 e1 q0 q1 v0 v1 K0 K1 n0 n1
  have b0 := below_alloc w (.cells (cs8 3 se sq f ve K n s) 25)
  have C0 := Blk.new w (cs8 3 se sq f ve K n s) 25
  obtain ⟨w0, hw0⟩ : ∃ w0, w.alloc (.cells (cs8 3 se sq f ve K n s) 25) = w0 := ⟨_, rfl⟩
  rw [hw0] at b0 C0
  have cse := fun w => counts_any se 1 w (by decide) (by decide) e0 e1
  simp only [hse] at cse
  have csq := fun w => counts_any sq 1 w (by decide) (by decide) q0 q1
  simp only [hsq] at csq
  go_enter Tryz.func11, Tryz.ntmps11
  obtain ⟨hl, c0, c1, c2, c3, c4, c5, c6, c7⟩ := C0.c8
  go_wp2_with fail
  refine (cse _).mono ?_
  rintro x wz ⟨rfl, rfl⟩
  go_wp2_with fail
  refine (csq _).mono ?_
  rintro x wz ⟨rfl, rfl⟩
  have HB := Lib.hid b0
  go_wp2
  go_ret
  exact ⟨rfl, HB.out⟩
set_option maxHeartbeats 1000000 in
set_option maxRecDepth 100000 in
theorem rck_3_em (se sq : Int) (f : ByteArray) (ve : Int) (K n : Int) (s : ByteArray) (hi : Cm.In ⟨3, se, sq, f, ve, K, n, s⟩) (w : World) (hse : wi 1 se = true) (hsq : wi 1 sq = true) (hem : ¬ f.data.toList = []) :
    Calls Tryz.prog 11 #[V8 3 se sq f ve K n s] w fun e w' => e = .returned (.bool (false)) ∧ Below w.heap.size w w' := by
  obtain ⟨-, -, e0, e1, q0, q1, v0, v1, K0, K1, n0, n1⟩ := hi
  simp only at e0 e1 q0 q1 v0 v1 K0 K1 n0 n1
  have b0 := below_alloc w (.cells (cs8 3 se sq f ve K n s) 25)
  have C0 := Blk.new w (cs8 3 se sq f ve K n s) 25
  obtain ⟨w0, hw0⟩ : ∃ w0, w.alloc (.cells (cs8 3 se sq f ve K n s) 25) = w0 := ⟨_, rfl⟩
  rw [hw0] at b0 C0
  have cse := fun w => counts_any se 1 w (by decide) (by decide) e0 e1
  simp only [hse] at cse
  have csq := fun w => counts_any sq 1 w (by decide) (by decide) q0 q1
  simp only [hsq] at csq
  have hem2 := emp_no hem
  go_enter Tryz.func11, Tryz.ntmps11
  obtain ⟨hl, c0, c1, c2, c3, c4, c5, c6, c7⟩ := C0.c8
  go_wp2_with fail
  refine (cse _).mono ?_
  rintro x wz ⟨rfl, rfl⟩
  go_wp2_with fail
  refine (csq _).mono ?_
  rintro x wz ⟨rfl, rfl⟩
  have HB := Lib.hid b0
  go_wp2
  go_ret
  exact ⟨rfl, HB.out⟩
set_option maxHeartbeats 1000000 in
set_option maxRecDepth 100000 in
theorem rck_3_z0 (se sq : Int) (ve : Int) (K n : Int) (s : ByteArray) (hi : Cm.In ⟨3, se, sq, ⟨#[]⟩, ve, K, n, s⟩) (w : World) (hse : wi 1 se = true) (hsq : wi 1 sq = true)  (hz0 : ¬ ve = 0) :
    Calls Tryz.prog 11 #[V8 3 se sq ⟨#[]⟩ ve K n s] w fun e w' => e = .returned (.bool (false)) ∧ Below w.heap.size w w' := by
  obtain ⟨-, -, e0, e1, q0, q1, v0, v1, K0, K1, n0, n1⟩ := hi
  simp only at e0 e1 q0 q1 v0 v1 K0 K1 n0 n1
  have b0 := below_alloc w (.cells (cs8 3 se sq ⟨#[]⟩ ve K n s) 25)
  have C0 := Blk.new w (cs8 3 se sq ⟨#[]⟩ ve K n s) 25
  obtain ⟨w0, hw0⟩ : ∃ w0, w.alloc (.cells (cs8 3 se sq ⟨#[]⟩ ve K n s) 25) = w0 := ⟨_, rfl⟩
  rw [hw0] at b0 C0
  have cse := fun w => counts_any se 1 w (by decide) (by decide) e0 e1
  simp only [hse] at cse
  have csq := fun w => counts_any sq 1 w (by decide) (by decide) q0 q1
  simp only [hsq] at csq
  have hz2 : (ve == 0) = false := beq_eq_false_iff_ne.2 hz0
  go_enter Tryz.func11, Tryz.ntmps11
  obtain ⟨hl, c0, c1, c2, c3, c4, c5, c6, c7⟩ := C0.c8
  go_wp2_with fail
  refine (cse _).mono ?_
  rintro x wz ⟨rfl, rfl⟩
  go_wp2_with fail
  refine (csq _).mono ?_
  rintro x wz ⟨rfl, rfl⟩
  have HB := Lib.hid b0
  go_wp2
  go_ret
  exact ⟨rfl, HB.out⟩
set_option maxHeartbeats 1000000 in
set_option maxRecDepth 100000 in
theorem rck_3_last (se sq : Int)  (K n : Int) (s : ByteArray) (hi : Cm.In ⟨3, se, sq, ⟨#[]⟩, 0, K, n, s⟩) (w : World) (hse : wi 1 se = true) (hsq : wi 1 sq = true)   :
    Calls Tryz.prog 11 #[V8 3 se sq ⟨#[]⟩ 0 K n s] w fun e w' => e = .returned (.bool (sameW K n s 0 0 ⟨#[]⟩)) ∧ Below w.heap.size w w' := by
  obtain ⟨-, -, e0, e1, q0, q1, v0, v1, K0, K1, n0, n1⟩ := hi
  simp only at e0 e1 q0 q1 v0 v1 K0 K1 n0 n1
  have b0 := below_alloc w (.cells (cs8 3 se sq ⟨#[]⟩ 0 K n s) 25)
  have C0 := Blk.new w (cs8 3 se sq ⟨#[]⟩ 0 K n s) 25
  obtain ⟨w0, hw0⟩ : ∃ w0, w.alloc (.cells (cs8 3 se sq ⟨#[]⟩ 0 K n s) 25) = w0 := ⟨_, rfl⟩
  rw [hw0] at b0 C0
  have cse := fun w => counts_any se 1 w (by decide) (by decide) e0 e1
  simp only [hse] at cse
  have csq := fun w => counts_any sq 1 w (by decide) (by decide) q0 q1
  simp only [hsq] at csq
  have hqs := fun w => eql_zero K n s w
  have hqi := fun w => eqlIn_value2 K n s 0 0 ⟨#[]⟩ w
  generalize sameW K n s 0 0 ⟨#[]⟩ = RR at *
  go_enter Tryz.func11, Tryz.ntmps11
  obtain ⟨hl, c0, c1, c2, c3, c4, c5, c6, c7⟩ := C0.c8
  go_wp2_with fail
  refine (cse _).mono ?_
  rintro x wz ⟨rfl, rfl⟩
  go_wp2_with fail
  refine (csq _).mono ?_
  rintro x wz ⟨rfl, rfl⟩
  have HB := Lib.hid b0
  go_wp2
  go_ret
  exact ⟨rfl, HB.out⟩
set_option maxHeartbeats 1000000 in
set_option maxRecDepth 100000 in
theorem rck_4_se (se sq : Int) (f : ByteArray) (ve : Int) (K n : Int) (s : ByteArray) (hi : Cm.In ⟨4, se, sq, f, ve, K, n, s⟩) (w : World) (hse : wi 1 se = false) :
    Calls Tryz.prog 11 #[V8 4 se sq f ve K n s] w fun e w' => e = .returned (.bool (false)) ∧ Below w.heap.size w w' := by
  obtain ⟨-, -, e0, e1, q0, q1, v0, v1, K0, K1, n0, n1⟩ := hi
  simp only at e0 e1 q0 q1 v0 v1 K0 K1 n0 n1
  have b0 := below_alloc w (.cells (cs8 4 se sq f ve K n s) 25)
  have C0 := Blk.new w (cs8 4 se sq f ve K n s) 25
  obtain ⟨w0, hw0⟩ : ∃ w0, w.alloc (.cells (cs8 4 se sq f ve K n s) 25) = w0 := ⟨_, rfl⟩
  rw [hw0] at b0 C0
  have cse := fun w => counts_any se 1 w (by decide) (by decide) e0 e1
  simp only [hse] at cse
  go_enter Tryz.func11, Tryz.ntmps11
  obtain ⟨hl, c0, c1, c2, c3, c4, c5, c6, c7⟩ := C0.c8
  go_wp2_with fail
  refine (cse _).mono ?_
  rintro x wz ⟨rfl, rfl⟩
  have HB := Lib.hid b0
  go_wp2
  go_ret
  exact ⟨rfl, HB.out⟩
set_option maxHeartbeats 1000000 in
set_option maxRecDepth 100000 in
theorem rck_4_sq (se sq : Int) (f : ByteArray) (ve : Int) (K n : Int) (s : ByteArray) (hi : Cm.In ⟨4, se, sq, f, ve, K, n, s⟩) (w : World) (hse : wi 1 se = true) (hsq : wi 1 sq = false) :
    Calls Tryz.prog 11 #[V8 4 se sq f ve K n s] w fun e w' => e = .returned (.bool (false)) ∧ Below w.heap.size w w' := by
  obtain ⟨-, -, e0, e1, q0, q1, v0, v1, K0, K1, n0, n1⟩ := hi
  simp only at e0 e1 q0 q1 v0 v1 K0 K1 n0 n1
  have b0 := below_alloc w (.cells (cs8 4 se sq f ve K n s) 25)
  have C0 := Blk.new w (cs8 4 se sq f ve K n s) 25
  obtain ⟨w0, hw0⟩ : ∃ w0, w.alloc (.cells (cs8 4 se sq f ve K n s) 25) = w0 := ⟨_, rfl⟩
  rw [hw0] at b0 C0
  have cse := fun w => counts_any se 1 w (by decide) (by decide) e0 e1
  simp only [hse] at cse
  have csq := fun w => counts_any sq 1 w (by decide) (by decide) q0 q1
  simp only [hsq] at csq
  go_enter Tryz.func11, Tryz.ntmps11
  obtain ⟨hl, c0, c1, c2, c3, c4, c5, c6, c7⟩ := C0.c8
  go_wp2_with fail
  refine (cse _).mono ?_
  rintro x wz ⟨rfl, rfl⟩
  go_wp2_with fail
  refine (csq _).mono ?_
  rintro x wz ⟨rfl, rfl⟩
  have HB := Lib.hid b0
  go_wp2
  go_ret
  exact ⟨rfl, HB.out⟩
set_option maxHeartbeats 1000000 in
set_option maxRecDepth 100000 in
theorem rck_4_nm (se sq : Int) (f : ByteArray) (ve : Int) (K n : Int) (s : ByteArray) (hi : Cm.In ⟨4, se, sq, f, ve, K, n, s⟩) (w : World) (hE : Env7 w) (hfz : f.size ≤ 9223372036854775807) (hse : wi 1 se = true) (hsq : wi 1 sq = true) (hnm : nameB f.data.toList = false) :
    Calls Tryz.prog 11 #[V8 4 se sq f ve K n s] w fun e w' => e = .returned (.bool (false)) ∧ Below w.heap.size w w' := by
  obtain ⟨-, -, e0, e1, q0, q1, v0, v1, K0, K1, n0, n1⟩ := hi
  simp only at e0 e1 q0 q1 v0 v1 K0 K1 n0 n1
  have b0 := below_alloc w (.cells (cs8 4 se sq f ve K n s) 25)
  have C0 := Blk.new w (cs8 4 se sq f ve K n s) 25
  obtain ⟨w0, hw0⟩ : ∃ w0, w.alloc (.cells (cs8 4 se sq f ve K n s) 25) = w0 := ⟨_, rfl⟩
  rw [hw0] at b0 C0
  have cse := fun w => counts_any se 1 w (by decide) (by decide) e0 e1
  simp only [hse] at cse
  have csq := fun w => counts_any sq 1 w (by decide) (by decide) q0 q1
  simp only [hsq] at csq
  have cnm := fun w' (hb : Below w.heap.size w w') => rname_any f w' hfz (hE.later hb)
  simp only [hnm] at cnm
  go_enter Tryz.func11, Tryz.ntmps11
  obtain ⟨hl, c0, c1, c2, c3, c4, c5, c6, c7⟩ := C0.c8
  go_wp2_with fail
  refine (cse _).mono ?_
  rintro x wz ⟨rfl, rfl⟩
  go_wp2_with fail
  refine (csq _).mono ?_
  rintro x wz ⟨rfl, rfl⟩
  go_wp2_with fail
  refine (cnm w0 b0).mono ?_
  rintro x w1 ⟨rfl, hb⟩
  have C1 := C0.later hb
  have b1 := below_to b0 hb
  clear hl c0 c1 c2 c3 c4 c5 c6 c7 hb C0 b0 hw0
  obtain ⟨hl, c0, c1, c2, c3, c4, c5, c6, c7⟩ := C1.c8
  have HB := Lib.hid b1
  go_wp2
  go_ret
  exact ⟨rfl, HB.out⟩
set_option maxHeartbeats 1000000 in
set_option maxRecDepth 100000 in
theorem rck_4_z0 (se sq : Int) (f : ByteArray) (ve : Int) (K n : Int) (s : ByteArray) (hi : Cm.In ⟨4, se, sq, f, ve, K, n, s⟩) (w : World) (hE : Env7 w) (hfz : f.size ≤ 9223372036854775807) (hse : wi 1 se = true) (hsq : wi 1 sq = true) (hnm : nameB f.data.toList = true) (hz0 : ¬ ve = 0) :
    Calls Tryz.prog 11 #[V8 4 se sq f ve K n s] w fun e w' => e = .returned (.bool (false)) ∧ Below w.heap.size w w' := by
  obtain ⟨-, -, e0, e1, q0, q1, v0, v1, K0, K1, n0, n1⟩ := hi
  simp only at e0 e1 q0 q1 v0 v1 K0 K1 n0 n1
  have b0 := below_alloc w (.cells (cs8 4 se sq f ve K n s) 25)
  have C0 := Blk.new w (cs8 4 se sq f ve K n s) 25
  obtain ⟨w0, hw0⟩ : ∃ w0, w.alloc (.cells (cs8 4 se sq f ve K n s) 25) = w0 := ⟨_, rfl⟩
  rw [hw0] at b0 C0
  have cse := fun w => counts_any se 1 w (by decide) (by decide) e0 e1
  simp only [hse] at cse
  have csq := fun w => counts_any sq 1 w (by decide) (by decide) q0 q1
  simp only [hsq] at csq
  have cnm := fun w' (hb : Below w.heap.size w w') => rname_any f w' hfz (hE.later hb)
  simp only [hnm] at cnm
  have hz2 : (ve == 0) = false := beq_eq_false_iff_ne.2 hz0
  go_enter Tryz.func11, Tryz.ntmps11
  obtain ⟨hl, c0, c1, c2, c3, c4, c5, c6, c7⟩ := C0.c8
  go_wp2_with fail
  refine (cse _).mono ?_
  rintro x wz ⟨rfl, rfl⟩
  go_wp2_with fail
  refine (csq _).mono ?_
  rintro x wz ⟨rfl, rfl⟩
  go_wp2_with fail
  refine (cnm w0 b0).mono ?_
  rintro x w1 ⟨rfl, hb⟩
  have C1 := C0.later hb
  have b1 := below_to b0 hb
  clear hl c0 c1 c2 c3 c4 c5 c6 c7 hb C0 b0 hw0
  obtain ⟨hl, c0, c1, c2, c3, c4, c5, c6, c7⟩ := C1.c8
  have HB := Lib.hid b1
  go_wp2
  go_ret
  exact ⟨rfl, HB.out⟩
set_option maxHeartbeats 1000000 in
set_option maxRecDepth 100000 in
theorem rck_4_last (se sq : Int) (f : ByteArray)  (K n : Int) (s : ByteArray) (hi : Cm.In ⟨4, se, sq, f, 0, K, n, s⟩) (w : World) (hE : Env7 w) (hfz : f.size ≤ 9223372036854775807) (hse : wi 1 se = true) (hsq : wi 1 sq = true) (hnm : nameB f.data.toList = true)  :
    Calls Tryz.prog 11 #[V8 4 se sq f 0 K n s] w fun e w' => e = .returned (.bool (sameW K n s 0 0 ⟨#[]⟩)) ∧ Below w.heap.size w w' := by
  obtain ⟨-, -, e0, e1, q0, q1, v0, v1, K0, K1, n0, n1⟩ := hi
  simp only at e0 e1 q0 q1 v0 v1 K0 K1 n0 n1
  have b0 := below_alloc w (.cells (cs8 4 se sq f 0 K n s) 25)
  have C0 := Blk.new w (cs8 4 se sq f 0 K n s) 25
  obtain ⟨w0, hw0⟩ : ∃ w0, w.alloc (.cells (cs8 4 se sq f 0 K n s) 25) = w0 := ⟨_, rfl⟩
  rw [hw0] at b0 C0
  have cse := fun w => counts_any se 1 w (by decide) (by decide) e0 e1
  simp only [hse] at cse
  have csq := fun w => counts_any sq 1 w (by decide) (by decide) q0 q1
  simp only [hsq] at csq
  have cnm := fun w' (hb : Below w.heap.size w w') => rname_any f w' hfz (hE.later hb)
  simp only [hnm] at cnm
  have hqs := fun w => eql_zero K n s w
  have hqi := fun w => eqlIn_value2 K n s 0 0 ⟨#[]⟩ w
  generalize sameW K n s 0 0 ⟨#[]⟩ = RR at *
  go_enter Tryz.func11, Tryz.ntmps11
  obtain ⟨hl, c0, c1, c2, c3, c4, c5, c6, c7⟩ := C0.c8
  go_wp2_with fail
  refine (cse _).mono ?_
  rintro x wz ⟨rfl, rfl⟩
  go_wp2_with fail
  refine (csq _).mono ?_
  rintro x wz ⟨rfl, rfl⟩
  go_wp2_with fail
  refine (cnm w0 b0).mono ?_
  rintro x w1 ⟨rfl, hb⟩
  have C1 := C0.later hb
  have b1 := below_to b0 hb
  clear hl c0 c1 c2 c3 c4 c5 c6 c7 hb C0 b0 hw0
  obtain ⟨hl, c0, c1, c2, c3, c4, c5, c6, c7⟩ := C1.c8
  have HB := Lib.hid b1
  go_wp2
  go_ret
  exact ⟨rfl, HB.out⟩
set_option maxHeartbeats 1000000 in
set_option maxRecDepth 100000 in
theorem rck_0_se (kd se sq : Int) (f : ByteArray) (ve : Int) (K n : Int) (s : ByteArray) (hi : Cm.In ⟨kd, se, sq, f, ve, K, n, s⟩) (hk : ¬ (kd = 1 ∨ kd = 2 ∨ kd = 3 ∨ kd = 4)) (w : World) (hse : wi 1 se = false) :
    Calls Tryz.prog 11 #[V8 kd se sq f ve K n s] w fun e w' => e = .returned (.bool (false)) ∧ Below w.heap.size w w' := by
  obtain ⟨-, -, e0, e1, q0, q1, v0, v1, K0, K1, n0, n1⟩ := hi
  simp only at e0 e1 q0 q1 v0 v1 K0 K1 n0 n1
  have b0 := below_alloc w (.cells (cs8 kd se sq f ve K n s) 25)
  have C0 := Blk.new w (cs8 kd se sq f ve K n s) 25
  obtain ⟨w0, hw0⟩ : ∃ w0, w.alloc (.cells (cs8 kd se sq f ve K n s) 25) = w0 := ⟨_, rfl⟩
  rw [hw0] at b0 C0
  have hk1 : (kd == 1) = false := beq_eq_false_iff_ne.2 (by omega)
  have hk2 : (kd == 2) = false := beq_eq_false_iff_ne.2 (by omega)
  have hk3 : (kd == 3) = false := beq_eq_false_iff_ne.2 (by omega)
  have hk4 : (kd == 4) = false := beq_eq_false_iff_ne.2 (by omega)
  clear hk
  have cse := fun w => counts_any se 1 w (by decide) (by decide) e0 e1
  simp only [hse] at cse
  go_enter Tryz.func11, Tryz.ntmps11
  obtain ⟨hl, c0, c1, c2, c3, c4, c5, c6, c7⟩ := C0.c8
  go_wp2_with fail
  refine (cse _).mono ?_
  rintro x wz ⟨rfl, rfl⟩
  have HB := Lib.hid b0
  go_wp2
  go_ret
  exact ⟨rfl, HB.out⟩
set_option maxHeartbeats 1000000 in
set_option maxRecDepth 100000 in
theorem rck_0_sq (kd se sq : Int) (f : ByteArray) (ve : Int) (K n : Int) (s : ByteArray) (hi : Cm.In ⟨kd, se, sq, f, ve, K, n, s⟩) (hk : ¬ (kd = 1 ∨ kd = 2 ∨ kd = 3 ∨ kd = 4)) (w : World) (hse : wi 1 se = true) (hsq : wi 1 sq = false) :
    Calls Tryz.prog 11 #[V8 kd se sq f ve K n s] w fun e w' => e = .returned (.bool (false)) ∧ Below w.heap.size w w' := by
  obtain ⟨-, -, e0, e1, q0, q1, v0, v1, K0, K1, n0, n1⟩ := hi
  simp only at e0 e1 q0 q1 v0 v1 K0 K1 n0 n1
  have b0 := below_alloc w (.cells (cs8 kd se sq f ve K n s) 25)
  have C0 := Blk.new w (cs8 kd se sq f ve K n s) 25
  obtain ⟨w0, hw0⟩ : ∃ w0, w.alloc (.cells (cs8 kd se sq f ve K n s) 25) = w0 := ⟨_, rfl⟩
  rw [hw0] at b0 C0
  have hk1 : (kd == 1) = false := beq_eq_false_iff_ne.2 (by omega)
  have hk2 : (kd == 2) = false := beq_eq_false_iff_ne.2 (by omega)
  have hk3 : (kd == 3) = false := beq_eq_false_iff_ne.2 (by omega)
  have hk4 : (kd == 4) = false := beq_eq_false_iff_ne.2 (by omega)
  clear hk
  have cse := fun w => counts_any se 1 w (by decide) (by decide) e0 e1
  simp only [hse] at cse
  have csq := fun w => counts_any sq 1 w (by decide) (by decide) q0 q1
  simp only [hsq] at csq
  go_enter Tryz.func11, Tryz.ntmps11
  obtain ⟨hl, c0, c1, c2, c3, c4, c5, c6, c7⟩ := C0.c8
  go_wp2_with fail
  refine (cse _).mono ?_
  rintro x wz ⟨rfl, rfl⟩
  go_wp2_with fail
  refine (csq _).mono ?_
  rintro x wz ⟨rfl, rfl⟩
  have HB := Lib.hid b0
  go_wp2
  go_ret
  exact ⟨rfl, HB.out⟩
set_option maxHeartbeats 1000000 in
set_option maxRecDepth 100000 in
theorem rck_0_last (kd se sq : Int) (f : ByteArray) (ve : Int) (K n : Int) (s : ByteArray) (hi : Cm.In ⟨kd, se, sq, f, ve, K, n, s⟩) (hk : ¬ (kd = 1 ∨ kd = 2 ∨ kd = 3 ∨ kd = 4)) (w : World) (hse : wi 1 se = true) (hsq : wi 1 sq = true) :
    Calls Tryz.prog 11 #[V8 kd se sq f ve K n s] w fun e w' => e = .returned (.bool (false)) ∧ Below w.heap.size w w' := by
  obtain ⟨-, -, e0, e1, q0, q1, v0, v1, K0, K1, n0, n1⟩ := hi
  simp only at e0 e1 q0 q1 v0 v1 K0 K1 n0 n1
  have b0 := below_alloc w (.cells (cs8 kd se sq f ve K n s) 25)
  have C0 := Blk.new w (cs8 kd se sq f ve K n s) 25
  obtain ⟨w0, hw0⟩ : ∃ w0, w.alloc (.cells (cs8 kd se sq f ve K n s) 25) = w0 := ⟨_, rfl⟩
  rw [hw0] at b0 C0
  have hk1 : (kd == 1) = false := beq_eq_false_iff_ne.2 (by omega)
  have hk2 : (kd == 2) = false := beq_eq_false_iff_ne.2 (by omega)
  have hk3 : (kd == 3) = false := beq_eq_false_iff_ne.2 (by omega)
  have hk4 : (kd == 4) = false := beq_eq_false_iff_ne.2 (by omega)
  clear hk
  have cse := fun w => counts_any se 1 w (by decide) (by decide) e0 e1
  simp only [hse] at cse
  have csq := fun w => counts_any sq 1 w (by decide) (by decide) q0 q1
  simp only [hsq] at csq
  go_enter Tryz.func11, Tryz.ntmps11
  obtain ⟨hl, c0, c1, c2, c3, c4, c5, c6, c7⟩ := C0.c8
  go_wp2_with fail
  refine (cse _).mono ?_
  rintro x wz ⟨rfl, rfl⟩
  go_wp2_with fail
  refine (csq _).mono ?_
  rintro x wz ⟨rfl, rfl⟩
  have HB := Lib.hid b0
  go_wp2
  go_ret
  exact ⟨rfl, HB.out⟩
end Go.Proofs.YtkbeemkmcnfiiaaGreatDoor
