/- The contract of cmd.Check, by kinds. Printed by gen/cmck.py. -/
import Derived.Test.YtkbeemkmcnfiiaaGreatDoorMCmS
import Derived.Test.YtkbeemkmcnfiiaaGreatDoorGK
namespace Go.Proofs.YtkbeemkmcnfiiaaGreatDoor
open Go.RowKit

theorem below_setR {w w8 : World} {R : Nat} (h : Below w.heap.size w w8) (hR : w.heap.size ≤ R) (i : Nat) (u : Value) : Below w.heap.size w (w8.setCell ⟨R, i, none⟩ u) := h.trans ((Only.one _ _ _ _).below hR)

set_option maxHeartbeats 1000000 in
set_option maxRecDepth 100000 in
theorem pck_2_ok (se sq : Int) (f : ByteArray) (ve K n : Int) (s : ByteArray) (hi : Cm.In ⟨2, se, sq, f, ve, K, n, s⟩) (w : World) (hE : Env7 w) (hfz : f.size ≤ 9223372036854775807) (hsz : s.size < 9223372036854775807) (hse : wi 1 se = true) (hsq : wi 1 sq = true) (hnm : nameB f.data.toList = true) (hve : wi 0 ve = true) (hva : checkB K n s.data.toList = true) :
    Calls Tryz.prog 10 #[V8 2 se sq f ve K n s] w fun e w' => e = .returned (.bool (sameC 2 0 0 (txt []) 0 0 0 (txt []) 2 0 0 (txt []) 0 0 0 (txt []))) ∧ Below w.heap.size w w' := by
  obtain ⟨-, -, e0, e1, q0, q1, v0, v1, K0, K1, n0, n1⟩ := hi
  simp only at e0 e1 q0 q1 v0 v1 K0 K1 n0 n1
  have b0 := below_alloc w (.cells (cs8 2 se sq f ve K n s) 25)
  have C0 := Blk.new w (cs8 2 se sq f ve K n s) 25
  obtain ⟨w0, hw0⟩ : ∃ w0, w.alloc (.cells (cs8 2 se sq f ve K n s) 25) = w0 := ⟨_, rfl⟩
  rw [hw0] at b0 C0
  have cse := fun w => within_any 1 se w (by decide) (by decide) e0 e1
  simp only [hse] at cse
  have csq := fun w => within_any 1 sq w (by decide) (by decide) q0 q1
  simp only [hsq] at csq
  have cnm := fun w' (hb : Below w.heap.size w w') => pname_any f w' hfz (hE.later hb)
  simp only [hnm] at cnm
  have cve := fun w => within_any 0 ve w (by decide) (by decide) v0 v1
  simp only [hve] at cve
  have cva := fun w' (hb : Below w.heap.size w w') => check_any K n s w' hsz (hE.later hb).tabs
  simp only [hva] at cva
  have hqi := fun w => eqlIn_cmd 2 0 0 (txt []) 0 0 0 (txt []) 2 0 0 (txt []) 0 0 0 (txt []) w
  have hqs := fun w => eql_cmd 2 0 0 (txt []) 0 0 0 (txt []) 2 0 0 (txt []) 0 0 0 (txt []) w
  generalize sameC 2 0 0 (txt []) 0 0 0 (txt []) 2 0 0 (txt []) 0 0 0 (txt []) = RR at *
  go_enter Tryz.func10, Tryz.ntmps10
  obtain ⟨hl, c0, c1, c2, c3, c4, c5, c6, c7⟩ := C0.c8
  go_wp2_with fail
  refine (parts_2 _).mono ?_
  rintro x w1 ⟨rfl, hb1⟩
  have C1 := C0.later hb1
  have hbw1 := below_to b0 hb1
  have bH := below_alloc w1 (.cells #[.bool true, .bool true, .bool true] 46)
  have H2 := Blk.new w1 #[.bool true, .bool true, .bool true] 46
  have C2 := C1.later bH
  have bD := below_alloc (w1.alloc (.cells #[.bool true, .bool true, .bool true] 46)) (.cells (cs8 2 se sq f ve K n s) 25)
  have D3 := Blk.new (w1.alloc (.cells #[.bool true, .bool true, .bool true] 46)) (cs8 2 se sq f ve K n s) 25
  have hz : (w1.alloc (.cells #[.bool true, .bool true, .bool true] 46)).heap.size = w1.heap.size + 1 := by simp
  have C3 := C2.later bD
  have H3 := H2.later bD
  have hbw3 := below_to (below_to hbw1 bH) bD
  rw [hz] at D3
  have hDl := D3.lt
  have hHl := H3.lt
  have hwD : w.heap.size ≤ w1.heap.size + 1 := by have := hbw1.size; omega
  have hCl := C1.lt
  have hDC : ¬ w.heap.size = w1.heap.size + 1 := by omega
  have hDH : ¬ w1.heap.size = w1.heap.size + 1 := by omega
  clear hl c0 c1 c2 c3 c4 c5 c6 c7 hw0 b0 hb1 bH bD C2 H2 hz C0 hDl hHl
  obtain ⟨hl, c0, c1, c2, c3, c4, c5, c6, c7⟩ := C1.c8
  go_wp2_with fail
  generalize hw3 : (w1.alloc (.cells #[.bool true, .bool true, .bool true] 46)).alloc (.cells (cs8 2 se sq f ve K n s) 25) = w3 at *
  clear hw3 C1 hbw1
  clear hl c0 c1 c2 c3 c4 c5 c6 c7
  obtain ⟨hl, c0, c1, c2, c3, c4, c5, c6, c7⟩ := C3.c8
  obtain ⟨hHl, m0, m1, m2⟩ := H3.m3
  obtain ⟨hDl, d0, d1, d2, d3, d4, d5, d6, d7⟩ := D3.c8
  obtain ⟨f0, f1, f2, f3, f4, f5, f6, f7⟩ := D3.t8
  refine (cse _).mono ?_
  rintro x wz ⟨rfl, rfl⟩
  go_wp2_with fail
  refine (csq _).mono ?_
  rintro x wz ⟨rfl, rfl⟩
  have hO := (Only.one w3 (w1.heap.size + 1) 1 (.int .i64 0)).setCell 2 (.int .i64 0)
  have D4 : Blk ((w3.setCell ⟨w1.heap.size + 1, 1, none⟩ (.int .i64 0)).setCell ⟨w1.heap.size + 1, 2, none⟩ (.int .i64 0)) (w1.heap.size + 1) 25 (cs8 2 0 0 f ve K n s) := (D3.set 1 _).set 2 _
  have C4 := C3.only hO hDC
  have H4 := H3.only hO hDH
  have hbw4 := hbw3.trans (hO.below hwD)
  go_wp2_with fail
  generalize hw4 : ((w3.setCell ⟨w1.heap.size + 1, 1, none⟩ (.int .i64 0)).setCell ⟨w1.heap.size + 1, 2, none⟩ (.int .i64 0)) = w4 at *
  clear hw4 hO C3 H3 D3 hbw3
  clear hl c0 c1 c2 c3 c4 c5 c6 c7 hHl m0 m1 m2 hDl d0 d1 d2 d3 d4 d5 d6 d7 f0 f1 f2 f3 f4 f5 f6 f7
  obtain ⟨hl, c0, c1, c2, c3, c4, c5, c6, c7⟩ := C4.c8
  obtain ⟨hHl, m0, m1, m2⟩ := H4.m3
  obtain ⟨hDl, d0, d1, d2, d3, d4, d5, d6, d7⟩ := D4.c8
  obtain ⟨f0, f1, f2, f3, f4, f5, f6, f7⟩ := D4.t8
  refine (cnm w4 hbw4).mono ?_
  rintro x w5 ⟨rfl, hb⟩
  have C5 := C4.later hb
  have H5 := H4.later hb
  have D5 := D4.later hb
  have hbw5 := below_to hbw4 hb
  clear hb C4 H4 D4 hbw4
  clear hl c0 c1 c2 c3 c4 c5 c6 c7 hHl m0 m1 m2 hDl d0 d1 d2 d3 d4 d5 d6 d7 f0 f1 f2 f3 f4 f5 f6 f7
  obtain ⟨hl, c0, c1, c2, c3, c4, c5, c6, c7⟩ := C5.c8
  obtain ⟨hHl, m0, m1, m2⟩ := H5.m3
  obtain ⟨hDl, d0, d1, d2, d3, d4, d5, d6, d7⟩ := D5.c8
  obtain ⟨f0, f1, f2, f3, f4, f5, f6, f7⟩ := D5.t8
  have hO := Only.one w5 (w1.heap.size + 1) 3 (.string ⟨#[]⟩)
  have D6 : Blk (w5.setCell ⟨w1.heap.size + 1, 3, none⟩ (.string ⟨#[]⟩)) (w1.heap.size + 1) 25 (cs8 2 0 0 (txt []) ve K n s) := D5.set 3 _
  have C6 := C5.only hO hDC
  have H6 := H5.only hO hDH
  have hbw6 := hbw5.trans (hO.below hwD)
  go_wp2_with fail
  generalize hw6 : (w5.setCell ⟨w1.heap.size + 1, 3, none⟩ (.string ⟨#[]⟩)) = w6 at *
  clear hw6 hO C5 H5 D5 hbw5
  clear hl c0 c1 c2 c3 c4 c5 c6 c7 hHl m0 m1 m2 hDl d0 d1 d2 d3 d4 d5 d6 d7 f0 f1 f2 f3 f4 f5 f6 f7
  obtain ⟨hl, c0, c1, c2, c3, c4, c5, c6, c7⟩ := C6.c8
  obtain ⟨hHl, m0, m1, m2⟩ := H6.m3
  obtain ⟨hDl, d0, d1, d2, d3, d4, d5, d6, d7⟩ := D6.c8
  obtain ⟨f0, f1, f2, f3, f4, f5, f6, f7⟩ := D6.t8
  refine (cve _).mono ?_
  rintro x wz ⟨rfl, rfl⟩
  go_wp2_with fail
  refine (cva w6 hbw6).mono ?_
  rintro x w7 ⟨rfl, hb⟩
  have C7 := C6.later hb
  have H7 := H6.later hb
  have D7 := D6.later hb
  have hbw7 := below_to hbw6 hb
  clear hb C6 H6 D6 hbw6
  clear hl c0 c1 c2 c3 c4 c5 c6 c7 hHl m0 m1 m2 hDl d0 d1 d2 d3 d4 d5 d6 d7 f0 f1 f2 f3 f4 f5 f6 f7
  obtain ⟨hl, c0, c1, c2, c3, c4, c5, c6, c7⟩ := C7.c8
  obtain ⟨hHl, m0, m1, m2⟩ := H7.m3
  obtain ⟨hDl, d0, d1, d2, d3, d4, d5, d6, d7⟩ := D7.c8
  obtain ⟨f0, f1, f2, f3, f4, f5, f6, f7⟩ := D7.t8
  have hO := (((Only.one w7 (w1.heap.size + 1) 4 (.int .i64 0)).setCell 5 (.int .i64 0)).setCell 6 (.int .i64 0)).setCell 7 (.string ⟨#[]⟩)
  have D8 : Blk ((((w7.setCell ⟨w1.heap.size + 1, 4, none⟩ (.int .i64 0)).setCell ⟨w1.heap.size + 1, 5, none⟩ (.int .i64 0)).setCell ⟨w1.heap.size + 1, 6, none⟩ (.int .i64 0)).setCell ⟨w1.heap.size + 1, 7, none⟩ (.string ⟨#[]⟩)) (w1.heap.size + 1) 25 (cs8 2 0 0 (txt []) 0 0 0 (txt [])) := (((D7.set 4 _).set 5 _).set 6 _).set 7 _
  have C8 := C7.only hO hDC
  have H8 := H7.only hO hDH
  have hbw8 := hbw7.trans (hO.below hwD)
  have HB := Lib.hid hbw8
  go_wp2
  go_ret
  exact ⟨rfl, HB.out⟩
set_option maxHeartbeats 1000000 in
set_option maxRecDepth 100000 in
theorem pck_2_se (se sq : Int) (f : ByteArray) (ve K n : Int) (s : ByteArray) (hi : Cm.In ⟨2, se, sq, f, ve, K, n, s⟩) (w : World) (_ : Env7 w) (_ : f.size ≤ 9223372036854775807) (_ : s.size < 9223372036854775807) (hse : wi 1 se = false) :
    Calls Tryz.prog 10 #[V8 2 se sq f ve K n s] w fun e w' => e = .returned (.bool (false)) ∧ Below w.heap.size w w' := by
  obtain ⟨-, -, e0, e1, q0, q1, v0, v1, K0, K1, n0, n1⟩ := hi
  simp only at e0 e1 q0 q1 v0 v1 K0 K1 n0 n1
  have b0 := below_alloc w (.cells (cs8 2 se sq f ve K n s) 25)
  have C0 := Blk.new w (cs8 2 se sq f ve K n s) 25
  obtain ⟨w0, hw0⟩ : ∃ w0, w.alloc (.cells (cs8 2 se sq f ve K n s) 25) = w0 := ⟨_, rfl⟩
  rw [hw0] at b0 C0
  have cse := fun w => within_any 1 se w (by decide) (by decide) e0 e1
  simp only [hse] at cse
  go_enter Tryz.func10, Tryz.ntmps10
  obtain ⟨hl, c0, c1, c2, c3, c4, c5, c6, c7⟩ := C0.c8
  go_wp2_with fail
  refine (parts_2 _).mono ?_
  rintro x w1 ⟨rfl, hb1⟩
  have C1 := C0.later hb1
  have hbw1 := below_to b0 hb1
  have bH := below_alloc w1 (.cells #[.bool true, .bool true, .bool true] 46)
  have H2 := Blk.new w1 #[.bool true, .bool true, .bool true] 46
  have C2 := C1.later bH
  have bD := below_alloc (w1.alloc (.cells #[.bool true, .bool true, .bool true] 46)) (.cells (cs8 2 se sq f ve K n s) 25)
  have D3 := Blk.new (w1.alloc (.cells #[.bool true, .bool true, .bool true] 46)) (cs8 2 se sq f ve K n s) 25
  have hz : (w1.alloc (.cells #[.bool true, .bool true, .bool true] 46)).heap.size = w1.heap.size + 1 := by simp
  have C3 := C2.later bD
  have H3 := H2.later bD
  have hbw3 := below_to (below_to hbw1 bH) bD
  rw [hz] at D3
  have hDl := D3.lt
  have hHl := H3.lt
  have hwD : w.heap.size ≤ w1.heap.size + 1 := by have := hbw1.size; omega
  have hCl := C1.lt
  have hDC : ¬ w.heap.size = w1.heap.size + 1 := by omega
  have hDH : ¬ w1.heap.size = w1.heap.size + 1 := by omega
  clear hl c0 c1 c2 c3 c4 c5 c6 c7 hw0 b0 hb1 bH bD C2 H2 hz C0 hDl hHl
  obtain ⟨hl, c0, c1, c2, c3, c4, c5, c6, c7⟩ := C1.c8
  go_wp2_with fail
  generalize hw3 : (w1.alloc (.cells #[.bool true, .bool true, .bool true] 46)).alloc (.cells (cs8 2 se sq f ve K n s) 25) = w3 at *
  clear hw3 C1 hbw1
  clear hl c0 c1 c2 c3 c4 c5 c6 c7
  obtain ⟨hl, c0, c1, c2, c3, c4, c5, c6, c7⟩ := C3.c8
  obtain ⟨hHl, m0, m1, m2⟩ := H3.m3
  obtain ⟨hDl, d0, d1, d2, d3, d4, d5, d6, d7⟩ := D3.c8
  obtain ⟨f0, f1, f2, f3, f4, f5, f6, f7⟩ := D3.t8
  refine (cse _).mono ?_
  rintro x wz ⟨rfl, rfl⟩
  have hO := (Only.one w3 (w1.heap.size + 1) 1 (.int .i64 0)).setCell 2 (.int .i64 0)
  have D4 : Blk ((w3.setCell ⟨w1.heap.size + 1, 1, none⟩ (.int .i64 0)).setCell ⟨w1.heap.size + 1, 2, none⟩ (.int .i64 0)) (w1.heap.size + 1) 25 (cs8 2 0 0 f ve K n s) := (D3.set 1 _).set 2 _
  have C4 := C3.only hO hDC
  have H4 := H3.only hO hDH
  have hbw4 := hbw3.trans (hO.below hwD)
  have hO2 := hO.setCell 3 (.string ⟨#[]⟩)
  have hbz := hbw3.trans (hO2.below hwD)
  have hO3 := ((((hO2.setCell 4 (.int .i64 0)).setCell 5 (.int .i64 0)).setCell 6 (.int .i64 0)).setCell 7 (.string ⟨#[]⟩))
  have hbx := hbw3.trans (hO3.below hwD)
  have HB := Lib.hid hbx
  go_wp2
  go_ret
  exact ⟨rfl, HB.out⟩
set_option maxHeartbeats 1000000 in
set_option maxRecDepth 100000 in
theorem pck_2_sq (se sq : Int) (f : ByteArray) (ve K n : Int) (s : ByteArray) (hi : Cm.In ⟨2, se, sq, f, ve, K, n, s⟩) (w : World) (_ : Env7 w) (_ : f.size ≤ 9223372036854775807) (_ : s.size < 9223372036854775807) (hse : wi 1 se = true) (hsq : wi 1 sq = false) :
    Calls Tryz.prog 10 #[V8 2 se sq f ve K n s] w fun e w' => e = .returned (.bool (false)) ∧ Below w.heap.size w w' := by
  obtain ⟨-, -, e0, e1, q0, q1, v0, v1, K0, K1, n0, n1⟩ := hi
  simp only at e0 e1 q0 q1 v0 v1 K0 K1 n0 n1
  have b0 := below_alloc w (.cells (cs8 2 se sq f ve K n s) 25)
  have C0 := Blk.new w (cs8 2 se sq f ve K n s) 25
  obtain ⟨w0, hw0⟩ : ∃ w0, w.alloc (.cells (cs8 2 se sq f ve K n s) 25) = w0 := ⟨_, rfl⟩
  rw [hw0] at b0 C0
  have cse := fun w => within_any 1 se w (by decide) (by decide) e0 e1
  simp only [hse] at cse
  have csq := fun w => within_any 1 sq w (by decide) (by decide) q0 q1
  simp only [hsq] at csq
  go_enter Tryz.func10, Tryz.ntmps10
  obtain ⟨hl, c0, c1, c2, c3, c4, c5, c6, c7⟩ := C0.c8
  go_wp2_with fail
  refine (parts_2 _).mono ?_
  rintro x w1 ⟨rfl, hb1⟩
  have C1 := C0.later hb1
  have hbw1 := below_to b0 hb1
  have bH := below_alloc w1 (.cells #[.bool true, .bool true, .bool true] 46)
  have H2 := Blk.new w1 #[.bool true, .bool true, .bool true] 46
  have C2 := C1.later bH
  have bD := below_alloc (w1.alloc (.cells #[.bool true, .bool true, .bool true] 46)) (.cells (cs8 2 se sq f ve K n s) 25)
  have D3 := Blk.new (w1.alloc (.cells #[.bool true, .bool true, .bool true] 46)) (cs8 2 se sq f ve K n s) 25
  have hz : (w1.alloc (.cells #[.bool true, .bool true, .bool true] 46)).heap.size = w1.heap.size + 1 := by simp
  have C3 := C2.later bD
  have H3 := H2.later bD
  have hbw3 := below_to (below_to hbw1 bH) bD
  rw [hz] at D3
  have hDl := D3.lt
  have hHl := H3.lt
  have hwD : w.heap.size ≤ w1.heap.size + 1 := by have := hbw1.size; omega
  have hCl := C1.lt
  have hDC : ¬ w.heap.size = w1.heap.size + 1 := by omega
  have hDH : ¬ w1.heap.size = w1.heap.size + 1 := by omega
  clear hl c0 c1 c2 c3 c4 c5 c6 c7 hw0 b0 hb1 bH bD C2 H2 hz C0 hDl hHl
  obtain ⟨hl, c0, c1, c2, c3, c4, c5, c6, c7⟩ := C1.c8
  go_wp2_with fail
  generalize hw3 : (w1.alloc (.cells #[.bool true, .bool true, .bool true] 46)).alloc (.cells (cs8 2 se sq f ve K n s) 25) = w3 at *
  clear hw3 C1 hbw1
  clear hl c0 c1 c2 c3 c4 c5 c6 c7
  obtain ⟨hl, c0, c1, c2, c3, c4, c5, c6, c7⟩ := C3.c8
  obtain ⟨hHl, m0, m1, m2⟩ := H3.m3
  obtain ⟨hDl, d0, d1, d2, d3, d4, d5, d6, d7⟩ := D3.c8
  obtain ⟨f0, f1, f2, f3, f4, f5, f6, f7⟩ := D3.t8
  refine (cse _).mono ?_
  rintro x wz ⟨rfl, rfl⟩
  go_wp2_with fail
  refine (csq _).mono ?_
  rintro x wz ⟨rfl, rfl⟩
  have hO := (Only.one w3 (w1.heap.size + 1) 1 (.int .i64 0)).setCell 2 (.int .i64 0)
  have D4 : Blk ((w3.setCell ⟨w1.heap.size + 1, 1, none⟩ (.int .i64 0)).setCell ⟨w1.heap.size + 1, 2, none⟩ (.int .i64 0)) (w1.heap.size + 1) 25 (cs8 2 0 0 f ve K n s) := (D3.set 1 _).set 2 _
  have C4 := C3.only hO hDC
  have H4 := H3.only hO hDH
  have hbw4 := hbw3.trans (hO.below hwD)
  have hO2 := hO.setCell 3 (.string ⟨#[]⟩)
  have hbz := hbw3.trans (hO2.below hwD)
  have hO3 := ((((hO2.setCell 4 (.int .i64 0)).setCell 5 (.int .i64 0)).setCell 6 (.int .i64 0)).setCell 7 (.string ⟨#[]⟩))
  have hbx := hbw3.trans (hO3.below hwD)
  have HB := Lib.hid hbx
  go_wp2
  go_ret
  exact ⟨rfl, HB.out⟩
set_option maxHeartbeats 1000000 in
set_option maxRecDepth 100000 in
theorem pck_2_nm (se sq : Int) (f : ByteArray) (ve K n : Int) (s : ByteArray) (hi : Cm.In ⟨2, se, sq, f, ve, K, n, s⟩) (w : World) (hE : Env7 w) (hfz : f.size ≤ 9223372036854775807) (_ : s.size < 9223372036854775807) (hse : wi 1 se = true) (hsq : wi 1 sq = true) (hnm : nameB f.data.toList = false) :
    Calls Tryz.prog 10 #[V8 2 se sq f ve K n s] w fun e w' => e = .returned (.bool (false)) ∧ Below w.heap.size w w' := by
  obtain ⟨-, -, e0, e1, q0, q1, v0, v1, K0, K1, n0, n1⟩ := hi
  simp only at e0 e1 q0 q1 v0 v1 K0 K1 n0 n1
  have b0 := below_alloc w (.cells (cs8 2 se sq f ve K n s) 25)
  have C0 := Blk.new w (cs8 2 se sq f ve K n s) 25
  obtain ⟨w0, hw0⟩ : ∃ w0, w.alloc (.cells (cs8 2 se sq f ve K n s) 25) = w0 := ⟨_, rfl⟩
  rw [hw0] at b0 C0
  have cse := fun w => within_any 1 se w (by decide) (by decide) e0 e1
  simp only [hse] at cse
  have csq := fun w => within_any 1 sq w (by decide) (by decide) q0 q1
  simp only [hsq] at csq
  have cnm := fun w' (hb : Below w.heap.size w w') => pname_any f w' hfz (hE.later hb)
  simp only [hnm] at cnm
  go_enter Tryz.func10, Tryz.ntmps10
  obtain ⟨hl, c0, c1, c2, c3, c4, c5, c6, c7⟩ := C0.c8
  go_wp2_with fail
  refine (parts_2 _).mono ?_
  rintro x w1 ⟨rfl, hb1⟩
  have C1 := C0.later hb1
  have hbw1 := below_to b0 hb1
  have bH := below_alloc w1 (.cells #[.bool true, .bool true, .bool true] 46)
  have H2 := Blk.new w1 #[.bool true, .bool true, .bool true] 46
  have C2 := C1.later bH
  have bD := below_alloc (w1.alloc (.cells #[.bool true, .bool true, .bool true] 46)) (.cells (cs8 2 se sq f ve K n s) 25)
  have D3 := Blk.new (w1.alloc (.cells #[.bool true, .bool true, .bool true] 46)) (cs8 2 se sq f ve K n s) 25
  have hz : (w1.alloc (.cells #[.bool true, .bool true, .bool true] 46)).heap.size = w1.heap.size + 1 := by simp
  have C3 := C2.later bD
  have H3 := H2.later bD
  have hbw3 := below_to (below_to hbw1 bH) bD
  rw [hz] at D3
  have hDl := D3.lt
  have hHl := H3.lt
  have hwD : w.heap.size ≤ w1.heap.size + 1 := by have := hbw1.size; omega
  have hCl := C1.lt
  have hDC : ¬ w.heap.size = w1.heap.size + 1 := by omega
  have hDH : ¬ w1.heap.size = w1.heap.size + 1 := by omega
  clear hl c0 c1 c2 c3 c4 c5 c6 c7 hw0 b0 hb1 bH bD C2 H2 hz C0 hDl hHl
  obtain ⟨hl, c0, c1, c2, c3, c4, c5, c6, c7⟩ := C1.c8
  go_wp2_with fail
  generalize hw3 : (w1.alloc (.cells #[.bool true, .bool true, .bool true] 46)).alloc (.cells (cs8 2 se sq f ve K n s) 25) = w3 at *
  clear hw3 C1 hbw1
  clear hl c0 c1 c2 c3 c4 c5 c6 c7
  obtain ⟨hl, c0, c1, c2, c3, c4, c5, c6, c7⟩ := C3.c8
  obtain ⟨hHl, m0, m1, m2⟩ := H3.m3
  obtain ⟨hDl, d0, d1, d2, d3, d4, d5, d6, d7⟩ := D3.c8
  obtain ⟨f0, f1, f2, f3, f4, f5, f6, f7⟩ := D3.t8
  refine (cse _).mono ?_
  rintro x wz ⟨rfl, rfl⟩
  go_wp2_with fail
  refine (csq _).mono ?_
  rintro x wz ⟨rfl, rfl⟩
  have hO := (Only.one w3 (w1.heap.size + 1) 1 (.int .i64 0)).setCell 2 (.int .i64 0)
  have D4 : Blk ((w3.setCell ⟨w1.heap.size + 1, 1, none⟩ (.int .i64 0)).setCell ⟨w1.heap.size + 1, 2, none⟩ (.int .i64 0)) (w1.heap.size + 1) 25 (cs8 2 0 0 f ve K n s) := (D3.set 1 _).set 2 _
  have C4 := C3.only hO hDC
  have H4 := H3.only hO hDH
  have hbw4 := hbw3.trans (hO.below hwD)
  go_wp2_with fail
  generalize hw4 : ((w3.setCell ⟨w1.heap.size + 1, 1, none⟩ (.int .i64 0)).setCell ⟨w1.heap.size + 1, 2, none⟩ (.int .i64 0)) = w4 at *
  clear hw4 hO C3 H3 D3 hbw3
  clear hl c0 c1 c2 c3 c4 c5 c6 c7 hHl m0 m1 m2 hDl d0 d1 d2 d3 d4 d5 d6 d7 f0 f1 f2 f3 f4 f5 f6 f7
  obtain ⟨hl, c0, c1, c2, c3, c4, c5, c6, c7⟩ := C4.c8
  obtain ⟨hHl, m0, m1, m2⟩ := H4.m3
  obtain ⟨hDl, d0, d1, d2, d3, d4, d5, d6, d7⟩ := D4.c8
  obtain ⟨f0, f1, f2, f3, f4, f5, f6, f7⟩ := D4.t8
  refine (cnm w4 hbw4).mono ?_
  rintro x w5 ⟨rfl, hb⟩
  have C5 := C4.later hb
  have H5 := H4.later hb
  have D5 := D4.later hb
  have hbw5 := below_to hbw4 hb
  clear hb C4 H4 D4 hbw4
  clear hl c0 c1 c2 c3 c4 c5 c6 c7 hHl m0 m1 m2 hDl d0 d1 d2 d3 d4 d5 d6 d7 f0 f1 f2 f3 f4 f5 f6 f7
  obtain ⟨hl, c0, c1, c2, c3, c4, c5, c6, c7⟩ := C5.c8
  obtain ⟨hHl, m0, m1, m2⟩ := H5.m3
  obtain ⟨hDl, d0, d1, d2, d3, d4, d5, d6, d7⟩ := D5.c8
  obtain ⟨f0, f1, f2, f3, f4, f5, f6, f7⟩ := D5.t8
  have hO := Only.one w5 (w1.heap.size + 1) 3 (.string ⟨#[]⟩)
  have D6 : Blk (w5.setCell ⟨w1.heap.size + 1, 3, none⟩ (.string ⟨#[]⟩)) (w1.heap.size + 1) 25 (cs8 2 0 0 (txt []) ve K n s) := D5.set 3 _
  have C6 := C5.only hO hDC
  have H6 := H5.only hO hDH
  have hbw6 := hbw5.trans (hO.below hwD)
  have hO2 := ((((hO.setCell 4 (.int .i64 0)).setCell 5 (.int .i64 0)).setCell 6 (.int .i64 0)).setCell 7 (.string ⟨#[]⟩))
  have hbz := hbw5.trans (hO2.below hwD)
  have HB := Lib.hid hbz
  go_wp2
  go_ret
  exact ⟨rfl, HB.out⟩
set_option maxHeartbeats 1000000 in
set_option maxRecDepth 100000 in
theorem pck_2_ve (se sq : Int) (f : ByteArray) (ve K n : Int) (s : ByteArray) (hi : Cm.In ⟨2, se, sq, f, ve, K, n, s⟩) (w : World) (hE : Env7 w) (hfz : f.size ≤ 9223372036854775807) (_ : s.size < 9223372036854775807) (hse : wi 1 se = true) (hsq : wi 1 sq = true) (hnm : nameB f.data.toList = true) (hve : wi 0 ve = false) :
    Calls Tryz.prog 10 #[V8 2 se sq f ve K n s] w fun e w' => e = .returned (.bool (false)) ∧ Below w.heap.size w w' := by
  obtain ⟨-, -, e0, e1, q0, q1, v0, v1, K0, K1, n0, n1⟩ := hi
  simp only at e0 e1 q0 q1 v0 v1 K0 K1 n0 n1
  have b0 := below_alloc w (.cells (cs8 2 se sq f ve K n s) 25)
  have C0 := Blk.new w (cs8 2 se sq f ve K n s) 25
  obtain ⟨w0, hw0⟩ : ∃ w0, w.alloc (.cells (cs8 2 se sq f ve K n s) 25) = w0 := ⟨_, rfl⟩
  rw [hw0] at b0 C0
  have cse := fun w => within_any 1 se w (by decide) (by decide) e0 e1
  simp only [hse] at cse
  have csq := fun w => within_any 1 sq w (by decide) (by decide) q0 q1
  simp only [hsq] at csq
  have cnm := fun w' (hb : Below w.heap.size w w') => pname_any f w' hfz (hE.later hb)
  simp only [hnm] at cnm
  have cve := fun w => within_any 0 ve w (by decide) (by decide) v0 v1
  simp only [hve] at cve
  go_enter Tryz.func10, Tryz.ntmps10
  obtain ⟨hl, c0, c1, c2, c3, c4, c5, c6, c7⟩ := C0.c8
  go_wp2_with fail
  refine (parts_2 _).mono ?_
  rintro x w1 ⟨rfl, hb1⟩
  have C1 := C0.later hb1
  have hbw1 := below_to b0 hb1
  have bH := below_alloc w1 (.cells #[.bool true, .bool true, .bool true] 46)
  have H2 := Blk.new w1 #[.bool true, .bool true, .bool true] 46
  have C2 := C1.later bH
  have bD := below_alloc (w1.alloc (.cells #[.bool true, .bool true, .bool true] 46)) (.cells (cs8 2 se sq f ve K n s) 25)
  have D3 := Blk.new (w1.alloc (.cells #[.bool true, .bool true, .bool true] 46)) (cs8 2 se sq f ve K n s) 25
  have hz : (w1.alloc (.cells #[.bool true, .bool true, .bool true] 46)).heap.size = w1.heap.size + 1 := by simp
  have C3 := C2.later bD
  have H3 := H2.later bD
  have hbw3 := below_to (below_to hbw1 bH) bD
  rw [hz] at D3
  have hDl := D3.lt
  have hHl := H3.lt
  have hwD : w.heap.size ≤ w1.heap.size + 1 := by have := hbw1.size; omega
  have hCl := C1.lt
  have hDC : ¬ w.heap.size = w1.heap.size + 1 := by omega
  have hDH : ¬ w1.heap.size = w1.heap.size + 1 := by omega
  clear hl c0 c1 c2 c3 c4 c5 c6 c7 hw0 b0 hb1 bH bD C2 H2 hz C0 hDl hHl
  obtain ⟨hl, c0, c1, c2, c3, c4, c5, c6, c7⟩ := C1.c8
  go_wp2_with fail
  generalize hw3 : (w1.alloc (.cells #[.bool true, .bool true, .bool true] 46)).alloc (.cells (cs8 2 se sq f ve K n s) 25) = w3 at *
  clear hw3 C1 hbw1
  clear hl c0 c1 c2 c3 c4 c5 c6 c7
  obtain ⟨hl, c0, c1, c2, c3, c4, c5, c6, c7⟩ := C3.c8
  obtain ⟨hHl, m0, m1, m2⟩ := H3.m3
  obtain ⟨hDl, d0, d1, d2, d3, d4, d5, d6, d7⟩ := D3.c8
  obtain ⟨f0, f1, f2, f3, f4, f5, f6, f7⟩ := D3.t8
  refine (cse _).mono ?_
  rintro x wz ⟨rfl, rfl⟩
  go_wp2_with fail
  refine (csq _).mono ?_
  rintro x wz ⟨rfl, rfl⟩
  have hO := (Only.one w3 (w1.heap.size + 1) 1 (.int .i64 0)).setCell 2 (.int .i64 0)
  have D4 : Blk ((w3.setCell ⟨w1.heap.size + 1, 1, none⟩ (.int .i64 0)).setCell ⟨w1.heap.size + 1, 2, none⟩ (.int .i64 0)) (w1.heap.size + 1) 25 (cs8 2 0 0 f ve K n s) := (D3.set 1 _).set 2 _
  have C4 := C3.only hO hDC
  have H4 := H3.only hO hDH
  have hbw4 := hbw3.trans (hO.below hwD)
  go_wp2_with fail
  generalize hw4 : ((w3.setCell ⟨w1.heap.size + 1, 1, none⟩ (.int .i64 0)).setCell ⟨w1.heap.size + 1, 2, none⟩ (.int .i64 0)) = w4 at *
  clear hw4 hO C3 H3 D3 hbw3
  clear hl c0 c1 c2 c3 c4 c5 c6 c7 hHl m0 m1 m2 hDl d0 d1 d2 d3 d4 d5 d6 d7 f0 f1 f2 f3 f4 f5 f6 f7
  obtain ⟨hl, c0, c1, c2, c3, c4, c5, c6, c7⟩ := C4.c8
  obtain ⟨hHl, m0, m1, m2⟩ := H4.m3
  obtain ⟨hDl, d0, d1, d2, d3, d4, d5, d6, d7⟩ := D4.c8
  obtain ⟨f0, f1, f2, f3, f4, f5, f6, f7⟩ := D4.t8
  refine (cnm w4 hbw4).mono ?_
  rintro x w5 ⟨rfl, hb⟩
  have C5 := C4.later hb
  have H5 := H4.later hb
  have D5 := D4.later hb
  have hbw5 := below_to hbw4 hb
  clear hb C4 H4 D4 hbw4
  clear hl c0 c1 c2 c3 c4 c5 c6 c7 hHl m0 m1 m2 hDl d0 d1 d2 d3 d4 d5 d6 d7 f0 f1 f2 f3 f4 f5 f6 f7
  obtain ⟨hl, c0, c1, c2, c3, c4, c5, c6, c7⟩ := C5.c8
  obtain ⟨hHl, m0, m1, m2⟩ := H5.m3
  obtain ⟨hDl, d0, d1, d2, d3, d4, d5, d6, d7⟩ := D5.c8
  obtain ⟨f0, f1, f2, f3, f4, f5, f6, f7⟩ := D5.t8
  have hO := Only.one w5 (w1.heap.size + 1) 3 (.string ⟨#[]⟩)
  have D6 : Blk (w5.setCell ⟨w1.heap.size + 1, 3, none⟩ (.string ⟨#[]⟩)) (w1.heap.size + 1) 25 (cs8 2 0 0 (txt []) ve K n s) := D5.set 3 _
  have C6 := C5.only hO hDC
  have H6 := H5.only hO hDH
  have hbw6 := hbw5.trans (hO.below hwD)
  go_wp2_with fail
  generalize hw6 : (w5.setCell ⟨w1.heap.size + 1, 3, none⟩ (.string ⟨#[]⟩)) = w6 at *
  clear hw6 hO C5 H5 D5 hbw5
  clear hl c0 c1 c2 c3 c4 c5 c6 c7 hHl m0 m1 m2 hDl d0 d1 d2 d3 d4 d5 d6 d7 f0 f1 f2 f3 f4 f5 f6 f7
  obtain ⟨hl, c0, c1, c2, c3, c4, c5, c6, c7⟩ := C6.c8
  obtain ⟨hHl, m0, m1, m2⟩ := H6.m3
  obtain ⟨hDl, d0, d1, d2, d3, d4, d5, d6, d7⟩ := D6.c8
  obtain ⟨f0, f1, f2, f3, f4, f5, f6, f7⟩ := D6.t8
  refine (cve _).mono ?_
  rintro x wz ⟨rfl, rfl⟩
  have hO := (((Only.one w6 (w1.heap.size + 1) 4 (.int .i64 0)).setCell 5 (.int .i64 0)).setCell 6 (.int .i64 0)).setCell 7 (.string ⟨#[]⟩)
  have D7 : Blk ((((w6.setCell ⟨w1.heap.size + 1, 4, none⟩ (.int .i64 0)).setCell ⟨w1.heap.size + 1, 5, none⟩ (.int .i64 0)).setCell ⟨w1.heap.size + 1, 6, none⟩ (.int .i64 0)).setCell ⟨w1.heap.size + 1, 7, none⟩ (.string ⟨#[]⟩)) (w1.heap.size + 1) 25 (cs8 2 0 0 (txt []) 0 0 0 (txt [])) := (((D6.set 4 _).set 5 _).set 6 _).set 7 _
  have C7 := C6.only hO hDC
  have H7 := H6.only hO hDH
  have hbw7 := hbw6.trans (hO.below hwD)
  have HB := Lib.hid hbw7
  go_wp2
  go_ret
  exact ⟨rfl, HB.out⟩
set_option maxHeartbeats 1000000 in
set_option maxRecDepth 100000 in
theorem pck_2_va (se sq : Int) (f : ByteArray) (ve K n : Int) (s : ByteArray) (hi : Cm.In ⟨2, se, sq, f, ve, K, n, s⟩) (w : World) (hE : Env7 w) (hfz : f.size ≤ 9223372036854775807) (hsz : s.size < 9223372036854775807) (hse : wi 1 se = true) (hsq : wi 1 sq = true) (hnm : nameB f.data.toList = true) (hve : wi 0 ve = true) (hva : checkB K n s.data.toList = false) :
    Calls Tryz.prog 10 #[V8 2 se sq f ve K n s] w fun e w' => e = .returned (.bool (false)) ∧ Below w.heap.size w w' := by
  obtain ⟨-, -, e0, e1, q0, q1, v0, v1, K0, K1, n0, n1⟩ := hi
  simp only at e0 e1 q0 q1 v0 v1 K0 K1 n0 n1
  have b0 := below_alloc w (.cells (cs8 2 se sq f ve K n s) 25)
  have C0 := Blk.new w (cs8 2 se sq f ve K n s) 25
  obtain ⟨w0, hw0⟩ : ∃ w0, w.alloc (.cells (cs8 2 se sq f ve K n s) 25) = w0 := ⟨_, rfl⟩
  rw [hw0] at b0 C0
  have cse := fun w => within_any 1 se w (by decide) (by decide) e0 e1
  simp only [hse] at cse
  have csq := fun w => within_any 1 sq w (by decide) (by decide) q0 q1
  simp only [hsq] at csq
  have cnm := fun w' (hb : Below w.heap.size w w') => pname_any f w' hfz (hE.later hb)
  simp only [hnm] at cnm
  have cve := fun w => within_any 0 ve w (by decide) (by decide) v0 v1
  simp only [hve] at cve
  have cva := fun w' (hb : Below w.heap.size w w') => check_any K n s w' hsz (hE.later hb).tabs
  simp only [hva] at cva
  go_enter Tryz.func10, Tryz.ntmps10
  obtain ⟨hl, c0, c1, c2, c3, c4, c5, c6, c7⟩ := C0.c8
  go_wp2_with fail
  refine (parts_2 _).mono ?_
  rintro x w1 ⟨rfl, hb1⟩
  have C1 := C0.later hb1
  have hbw1 := below_to b0 hb1
  have bH := below_alloc w1 (.cells #[.bool true, .bool true, .bool true] 46)
  have H2 := Blk.new w1 #[.bool true, .bool true, .bool true] 46
  have C2 := C1.later bH
  have bD := below_alloc (w1.alloc (.cells #[.bool true, .bool true, .bool true] 46)) (.cells (cs8 2 se sq f ve K n s) 25)
  have D3 := Blk.new (w1.alloc (.cells #[.bool true, .bool true, .bool true] 46)) (cs8 2 se sq f ve K n s) 25
  have hz : (w1.alloc (.cells #[.bool true, .bool true, .bool true] 46)).heap.size = w1.heap.size + 1 := by simp
  have C3 := C2.later bD
  have H3 := H2.later bD
  have hbw3 := below_to (below_to hbw1 bH) bD
  rw [hz] at D3
  have hDl := D3.lt
  have hHl := H3.lt
  have hwD : w.heap.size ≤ w1.heap.size + 1 := by have := hbw1.size; omega
  have hCl := C1.lt
  have hDC : ¬ w.heap.size = w1.heap.size + 1 := by omega
  have hDH : ¬ w1.heap.size = w1.heap.size + 1 := by omega
  clear hl c0 c1 c2 c3 c4 c5 c6 c7 hw0 b0 hb1 bH bD C2 H2 hz C0 hDl hHl
  obtain ⟨hl, c0, c1, c2, c3, c4, c5, c6, c7⟩ := C1.c8
  go_wp2_with fail
  generalize hw3 : (w1.alloc (.cells #[.bool true, .bool true, .bool true] 46)).alloc (.cells (cs8 2 se sq f ve K n s) 25) = w3 at *
  clear hw3 C1 hbw1
  clear hl c0 c1 c2 c3 c4 c5 c6 c7
  obtain ⟨hl, c0, c1, c2, c3, c4, c5, c6, c7⟩ := C3.c8
  obtain ⟨hHl, m0, m1, m2⟩ := H3.m3
  obtain ⟨hDl, d0, d1, d2, d3, d4, d5, d6, d7⟩ := D3.c8
  obtain ⟨f0, f1, f2, f3, f4, f5, f6, f7⟩ := D3.t8
  refine (cse _).mono ?_
  rintro x wz ⟨rfl, rfl⟩
  go_wp2_with fail
  refine (csq _).mono ?_
  rintro x wz ⟨rfl, rfl⟩
  have hO := (Only.one w3 (w1.heap.size + 1) 1 (.int .i64 0)).setCell 2 (.int .i64 0)
  have D4 : Blk ((w3.setCell ⟨w1.heap.size + 1, 1, none⟩ (.int .i64 0)).setCell ⟨w1.heap.size + 1, 2, none⟩ (.int .i64 0)) (w1.heap.size + 1) 25 (cs8 2 0 0 f ve K n s) := (D3.set 1 _).set 2 _
  have C4 := C3.only hO hDC
  have H4 := H3.only hO hDH
  have hbw4 := hbw3.trans (hO.below hwD)
  go_wp2_with fail
  generalize hw4 : ((w3.setCell ⟨w1.heap.size + 1, 1, none⟩ (.int .i64 0)).setCell ⟨w1.heap.size + 1, 2, none⟩ (.int .i64 0)) = w4 at *
  clear hw4 hO C3 H3 D3 hbw3
  clear hl c0 c1 c2 c3 c4 c5 c6 c7 hHl m0 m1 m2 hDl d0 d1 d2 d3 d4 d5 d6 d7 f0 f1 f2 f3 f4 f5 f6 f7
  obtain ⟨hl, c0, c1, c2, c3, c4, c5, c6, c7⟩ := C4.c8
  obtain ⟨hHl, m0, m1, m2⟩ := H4.m3
  obtain ⟨hDl, d0, d1, d2, d3, d4, d5, d6, d7⟩ := D4.c8
  obtain ⟨f0, f1, f2, f3, f4, f5, f6, f7⟩ := D4.t8
  refine (cnm w4 hbw4).mono ?_
  rintro x w5 ⟨rfl, hb⟩
  have C5 := C4.later hb
  have H5 := H4.later hb
  have D5 := D4.later hb
  have hbw5 := below_to hbw4 hb
  clear hb C4 H4 D4 hbw4
  clear hl c0 c1 c2 c3 c4 c5 c6 c7 hHl m0 m1 m2 hDl d0 d1 d2 d3 d4 d5 d6 d7 f0 f1 f2 f3 f4 f5 f6 f7
  obtain ⟨hl, c0, c1, c2, c3, c4, c5, c6, c7⟩ := C5.c8
  obtain ⟨hHl, m0, m1, m2⟩ := H5.m3
  obtain ⟨hDl, d0, d1, d2, d3, d4, d5, d6, d7⟩ := D5.c8
  obtain ⟨f0, f1, f2, f3, f4, f5, f6, f7⟩ := D5.t8
  have hO := Only.one w5 (w1.heap.size + 1) 3 (.string ⟨#[]⟩)
  have D6 : Blk (w5.setCell ⟨w1.heap.size + 1, 3, none⟩ (.string ⟨#[]⟩)) (w1.heap.size + 1) 25 (cs8 2 0 0 (txt []) ve K n s) := D5.set 3 _
  have C6 := C5.only hO hDC
  have H6 := H5.only hO hDH
  have hbw6 := hbw5.trans (hO.below hwD)
  go_wp2_with fail
  generalize hw6 : (w5.setCell ⟨w1.heap.size + 1, 3, none⟩ (.string ⟨#[]⟩)) = w6 at *
  clear hw6 hO C5 H5 D5 hbw5
  clear hl c0 c1 c2 c3 c4 c5 c6 c7 hHl m0 m1 m2 hDl d0 d1 d2 d3 d4 d5 d6 d7 f0 f1 f2 f3 f4 f5 f6 f7
  obtain ⟨hl, c0, c1, c2, c3, c4, c5, c6, c7⟩ := C6.c8
  obtain ⟨hHl, m0, m1, m2⟩ := H6.m3
  obtain ⟨hDl, d0, d1, d2, d3, d4, d5, d6, d7⟩ := D6.c8
  obtain ⟨f0, f1, f2, f3, f4, f5, f6, f7⟩ := D6.t8
  refine (cve _).mono ?_
  rintro x wz ⟨rfl, rfl⟩
  go_wp2_with fail
  refine (cva w6 hbw6).mono ?_
  rintro x w7 ⟨rfl, hb⟩
  have C7 := C6.later hb
  have H7 := H6.later hb
  have D7 := D6.later hb
  have hbw7 := below_to hbw6 hb
  clear hb C6 H6 D6 hbw6
  clear hl c0 c1 c2 c3 c4 c5 c6 c7 hHl m0 m1 m2 hDl d0 d1 d2 d3 d4 d5 d6 d7 f0 f1 f2 f3 f4 f5 f6 f7
  obtain ⟨hl, c0, c1, c2, c3, c4, c5, c6, c7⟩ := C7.c8
  obtain ⟨hHl, m0, m1, m2⟩ := H7.m3
  obtain ⟨hDl, d0, d1, d2, d3, d4, d5, d6, d7⟩ := D7.c8
  obtain ⟨f0, f1, f2, f3, f4, f5, f6, f7⟩ := D7.t8
  have hO := (((Only.one w7 (w1.heap.size + 1) 4 (.int .i64 0)).setCell 5 (.int .i64 0)).setCell 6 (.int .i64 0)).setCell 7 (.string ⟨#[]⟩)
  have D8 : Blk ((((w7.setCell ⟨w1.heap.size + 1, 4, none⟩ (.int .i64 0)).setCell ⟨w1.heap.size + 1, 5, none⟩ (.int .i64 0)).setCell ⟨w1.heap.size + 1, 6, none⟩ (.int .i64 0)).setCell ⟨w1.heap.size + 1, 7, none⟩ (.string ⟨#[]⟩)) (w1.heap.size + 1) 25 (cs8 2 0 0 (txt []) 0 0 0 (txt [])) := (((D7.set 4 _).set 5 _).set 6 _).set 7 _
  have C8 := C7.only hO hDC
  have H8 := H7.only hO hDH
  have hbw8 := hbw7.trans (hO.below hwD)
  have HB := Lib.hid hbw8
  go_wp2
  go_ret
  exact ⟨rfl, HB.out⟩
set_option maxHeartbeats 1000000 in
set_option maxRecDepth 100000 in
theorem pck_3_ok (se sq : Int) (f : ByteArray) (ve K n : Int) (s : ByteArray) (hi : Cm.In ⟨3, se, sq, f, ve, K, n, s⟩) (w : World) (hse : wi 1 se = true) (hsq : wi 1 sq = true) :
    Calls Tryz.prog 10 #[V8 3 se sq f ve K n s] w fun e w' => e = .returned (.bool (sameC 3 0 0 f ve K n s 3 0 0 (txt []) 0 0 0 (txt []))) ∧ Below w.heap.size w w' := by
  obtain ⟨-, -, e0, e1, q0, q1, v0, v1, K0, K1, n0, n1⟩ := hi
  simp only at e0 e1 q0 q1 v0 v1 K0 K1 n0 n1
  have b0 := below_alloc w (.cells (cs8 3 se sq f ve K n s) 25)
  have C0 := Blk.new w (cs8 3 se sq f ve K n s) 25
  obtain ⟨w0, hw0⟩ : ∃ w0, w.alloc (.cells (cs8 3 se sq f ve K n s) 25) = w0 := ⟨_, rfl⟩
  rw [hw0] at b0 C0
  have cse := fun w => within_any 1 se w (by decide) (by decide) e0 e1
  simp only [hse] at cse
  have csq := fun w => within_any 1 sq w (by decide) (by decide) q0 q1
  simp only [hsq] at csq
  have hqi := fun w => eqlIn_cmd 3 0 0 f ve K n s 3 0 0 (txt []) 0 0 0 (txt []) w
  have hqs := fun w => eql_cmd 3 0 0 f ve K n s 3 0 0 (txt []) 0 0 0 (txt []) w
  generalize sameC 3 0 0 f ve K n s 3 0 0 (txt []) 0 0 0 (txt []) = RR at *
  go_enter Tryz.func10, Tryz.ntmps10
  obtain ⟨hl, c0, c1, c2, c3, c4, c5, c6, c7⟩ := C0.c8
  go_wp2_with fail
  refine (parts_3 _).mono ?_
  rintro x w1 ⟨rfl, hb1⟩
  have C1 := C0.later hb1
  have hbw1 := below_to b0 hb1
  have bH := below_alloc w1 (.cells #[.bool true, .bool false, .bool false] 46)
  have H2 := Blk.new w1 #[.bool true, .bool false, .bool false] 46
  have C2 := C1.later bH
  have bD := below_alloc (w1.alloc (.cells #[.bool true, .bool false, .bool false] 46)) (.cells (cs8 3 se sq f ve K n s) 25)
  have D3 := Blk.new (w1.alloc (.cells #[.bool true, .bool false, .bool false] 46)) (cs8 3 se sq f ve K n s) 25
  have hz : (w1.alloc (.cells #[.bool true, .bool false, .bool false] 46)).heap.size = w1.heap.size + 1 := by simp
  have C3 := C2.later bD
  have H3 := H2.later bD
  have hbw3 := below_to (below_to hbw1 bH) bD
  rw [hz] at D3
  have hDl := D3.lt
  have hHl := H3.lt
  have hwD : w.heap.size ≤ w1.heap.size + 1 := by have := hbw1.size; omega
  have hCl := C1.lt
  have hDC : ¬ w.heap.size = w1.heap.size + 1 := by omega
  have hDH : ¬ w1.heap.size = w1.heap.size + 1 := by omega
  clear hl c0 c1 c2 c3 c4 c5 c6 c7 hw0 b0 hb1 bH bD C2 H2 hz C0 hDl hHl
  obtain ⟨hl, c0, c1, c2, c3, c4, c5, c6, c7⟩ := C1.c8
  go_wp2_with fail
  generalize hw3 : (w1.alloc (.cells #[.bool true, .bool false, .bool false] 46)).alloc (.cells (cs8 3 se sq f ve K n s) 25) = w3 at *
  clear hw3 C1 hbw1
  clear hl c0 c1 c2 c3 c4 c5 c6 c7
  obtain ⟨hl, c0, c1, c2, c3, c4, c5, c6, c7⟩ := C3.c8
  obtain ⟨hHl, m0, m1, m2⟩ := H3.m3
  obtain ⟨hDl, d0, d1, d2, d3, d4, d5, d6, d7⟩ := D3.c8
  obtain ⟨f0, f1, f2, f3, f4, f5, f6, f7⟩ := D3.t8
  refine (cse _).mono ?_
  rintro x wz ⟨rfl, rfl⟩
  go_wp2_with fail
  refine (csq _).mono ?_
  rintro x wz ⟨rfl, rfl⟩
  have hO := (Only.one w3 (w1.heap.size + 1) 1 (.int .i64 0)).setCell 2 (.int .i64 0)
  have D4 : Blk ((w3.setCell ⟨w1.heap.size + 1, 1, none⟩ (.int .i64 0)).setCell ⟨w1.heap.size + 1, 2, none⟩ (.int .i64 0)) (w1.heap.size + 1) 25 (cs8 3 0 0 f ve K n s) := (D3.set 1 _).set 2 _
  have C4 := C3.only hO hDC
  have H4 := H3.only hO hDH
  have hbw4 := hbw3.trans (hO.below hwD)
  have HB := Lib.hid hbw4
  go_wp2
  go_ret
  exact ⟨rfl, HB.out⟩
set_option maxHeartbeats 1000000 in
set_option maxRecDepth 100000 in
theorem pck_3_se (se sq : Int) (f : ByteArray) (ve K n : Int) (s : ByteArray) (hi : Cm.In ⟨3, se, sq, f, ve, K, n, s⟩) (w : World) (hse : wi 1 se = false) :
    Calls Tryz.prog 10 #[V8 3 se sq f ve K n s] w fun e w' => e = .returned (.bool (false)) ∧ Below w.heap.size w w' := by
  obtain ⟨-, -, e0, e1, q0, q1, v0, v1, K0, K1, n0, n1⟩ := hi
  simp only at e0 e1 q0 q1 v0 v1 K0 K1 n0 n1
  have b0 := below_alloc w (.cells (cs8 3 se sq f ve K n s) 25)
  have C0 := Blk.new w (cs8 3 se sq f ve K n s) 25
  obtain ⟨w0, hw0⟩ : ∃ w0, w.alloc (.cells (cs8 3 se sq f ve K n s) 25) = w0 := ⟨_, rfl⟩
  rw [hw0] at b0 C0
  have cse := fun w => within_any 1 se w (by decide) (by decide) e0 e1
  simp only [hse] at cse
  go_enter Tryz.func10, Tryz.ntmps10
  obtain ⟨hl, c0, c1, c2, c3, c4, c5, c6, c7⟩ := C0.c8
  go_wp2_with fail
  refine (parts_3 _).mono ?_
  rintro x w1 ⟨rfl, hb1⟩
  have C1 := C0.later hb1
  have hbw1 := below_to b0 hb1
  have bH := below_alloc w1 (.cells #[.bool true, .bool false, .bool false] 46)
  have H2 := Blk.new w1 #[.bool true, .bool false, .bool false] 46
  have C2 := C1.later bH
  have bD := below_alloc (w1.alloc (.cells #[.bool true, .bool false, .bool false] 46)) (.cells (cs8 3 se sq f ve K n s) 25)
  have D3 := Blk.new (w1.alloc (.cells #[.bool true, .bool false, .bool false] 46)) (cs8 3 se sq f ve K n s) 25
  have hz : (w1.alloc (.cells #[.bool true, .bool false, .bool false] 46)).heap.size = w1.heap.size + 1 := by simp
  have C3 := C2.later bD
  have H3 := H2.later bD
  have hbw3 := below_to (below_to hbw1 bH) bD
  rw [hz] at D3
  have hDl := D3.lt
  have hHl := H3.lt
  have hwD : w.heap.size ≤ w1.heap.size + 1 := by have := hbw1.size; omega
  have hCl := C1.lt
  have hDC : ¬ w.heap.size = w1.heap.size + 1 := by omega
  have hDH : ¬ w1.heap.size = w1.heap.size + 1 := by omega
  clear hl c0 c1 c2 c3 c4 c5 c6 c7 hw0 b0 hb1 bH bD C2 H2 hz C0 hDl hHl
  obtain ⟨hl, c0, c1, c2, c3, c4, c5, c6, c7⟩ := C1.c8
  go_wp2_with fail
  generalize hw3 : (w1.alloc (.cells #[.bool true, .bool false, .bool false] 46)).alloc (.cells (cs8 3 se sq f ve K n s) 25) = w3 at *
  clear hw3 C1 hbw1
  clear hl c0 c1 c2 c3 c4 c5 c6 c7
  obtain ⟨hl, c0, c1, c2, c3, c4, c5, c6, c7⟩ := C3.c8
  obtain ⟨hHl, m0, m1, m2⟩ := H3.m3
  obtain ⟨hDl, d0, d1, d2, d3, d4, d5, d6, d7⟩ := D3.c8
  obtain ⟨f0, f1, f2, f3, f4, f5, f6, f7⟩ := D3.t8
  refine (cse _).mono ?_
  rintro x wz ⟨rfl, rfl⟩
  have hO := (Only.one w3 (w1.heap.size + 1) 1 (.int .i64 0)).setCell 2 (.int .i64 0)
  have D4 : Blk ((w3.setCell ⟨w1.heap.size + 1, 1, none⟩ (.int .i64 0)).setCell ⟨w1.heap.size + 1, 2, none⟩ (.int .i64 0)) (w1.heap.size + 1) 25 (cs8 3 0 0 f ve K n s) := (D3.set 1 _).set 2 _
  have C4 := C3.only hO hDC
  have H4 := H3.only hO hDH
  have hbw4 := hbw3.trans (hO.below hwD)
  have HB := Lib.hid hbw4
  go_wp2
  go_ret
  exact ⟨rfl, HB.out⟩
set_option maxHeartbeats 1000000 in
set_option maxRecDepth 100000 in
theorem pck_3_sq (se sq : Int) (f : ByteArray) (ve K n : Int) (s : ByteArray) (hi : Cm.In ⟨3, se, sq, f, ve, K, n, s⟩) (w : World) (hse : wi 1 se = true) (hsq : wi 1 sq = false) :
    Calls Tryz.prog 10 #[V8 3 se sq f ve K n s] w fun e w' => e = .returned (.bool (false)) ∧ Below w.heap.size w w' := by
  obtain ⟨-, -, e0, e1, q0, q1, v0, v1, K0, K1, n0, n1⟩ := hi
  simp only at e0 e1 q0 q1 v0 v1 K0 K1 n0 n1
  have b0 := below_alloc w (.cells (cs8 3 se sq f ve K n s) 25)
  have C0 := Blk.new w (cs8 3 se sq f ve K n s) 25
  obtain ⟨w0, hw0⟩ : ∃ w0, w.alloc (.cells (cs8 3 se sq f ve K n s) 25) = w0 := ⟨_, rfl⟩
  rw [hw0] at b0 C0
  have cse := fun w => within_any 1 se w (by decide) (by decide) e0 e1
  simp only [hse] at cse
  have csq := fun w => within_any 1 sq w (by decide) (by decide) q0 q1
  simp only [hsq] at csq
  go_enter Tryz.func10, Tryz.ntmps10
  obtain ⟨hl, c0, c1, c2, c3, c4, c5, c6, c7⟩ := C0.c8
  go_wp2_with fail
  refine (parts_3 _).mono ?_
  rintro x w1 ⟨rfl, hb1⟩
  have C1 := C0.later hb1
  have hbw1 := below_to b0 hb1
  have bH := below_alloc w1 (.cells #[.bool true, .bool false, .bool false] 46)
  have H2 := Blk.new w1 #[.bool true, .bool false, .bool false] 46
  have C2 := C1.later bH
  have bD := below_alloc (w1.alloc (.cells #[.bool true, .bool false, .bool false] 46)) (.cells (cs8 3 se sq f ve K n s) 25)
  have D3 := Blk.new (w1.alloc (.cells #[.bool true, .bool false, .bool false] 46)) (cs8 3 se sq f ve K n s) 25
  have hz : (w1.alloc (.cells #[.bool true, .bool false, .bool false] 46)).heap.size = w1.heap.size + 1 := by simp
  have C3 := C2.later bD
  have H3 := H2.later bD
  have hbw3 := below_to (below_to hbw1 bH) bD
  rw [hz] at D3
  have hDl := D3.lt
  have hHl := H3.lt
  have hwD : w.heap.size ≤ w1.heap.size + 1 := by have := hbw1.size; omega
  have hCl := C1.lt
  have hDC : ¬ w.heap.size = w1.heap.size + 1 := by omega
  have hDH : ¬ w1.heap.size = w1.heap.size + 1 := by omega
  clear hl c0 c1 c2 c3 c4 c5 c6 c7 hw0 b0 hb1 bH bD C2 H2 hz C0 hDl hHl
  obtain ⟨hl, c0, c1, c2, c3, c4, c5, c6, c7⟩ := C1.c8
  go_wp2_with fail
  generalize hw3 : (w1.alloc (.cells #[.bool true, .bool false, .bool false] 46)).alloc (.cells (cs8 3 se sq f ve K n s) 25) = w3 at *
  clear hw3 C1 hbw1
  clear hl c0 c1 c2 c3 c4 c5 c6 c7
  obtain ⟨hl, c0, c1, c2, c3, c4, c5, c6, c7⟩ := C3.c8
  obtain ⟨hHl, m0, m1, m2⟩ := H3.m3
  obtain ⟨hDl, d0, d1, d2, d3, d4, d5, d6, d7⟩ := D3.c8
  obtain ⟨f0, f1, f2, f3, f4, f5, f6, f7⟩ := D3.t8
  refine (cse _).mono ?_
  rintro x wz ⟨rfl, rfl⟩
  go_wp2_with fail
  refine (csq _).mono ?_
  rintro x wz ⟨rfl, rfl⟩
  have hO := (Only.one w3 (w1.heap.size + 1) 1 (.int .i64 0)).setCell 2 (.int .i64 0)
  have D4 : Blk ((w3.setCell ⟨w1.heap.size + 1, 1, none⟩ (.int .i64 0)).setCell ⟨w1.heap.size + 1, 2, none⟩ (.int .i64 0)) (w1.heap.size + 1) 25 (cs8 3 0 0 f ve K n s) := (D3.set 1 _).set 2 _
  have C4 := C3.only hO hDC
  have H4 := H3.only hO hDH
  have hbw4 := hbw3.trans (hO.below hwD)
  have HB := Lib.hid hbw4
  go_wp2
  go_ret
  exact ⟨rfl, HB.out⟩
set_option maxHeartbeats 1000000 in
set_option maxRecDepth 100000 in
theorem pck_4_ok (se sq : Int) (f : ByteArray) (ve K n : Int) (s : ByteArray) (hi : Cm.In ⟨4, se, sq, f, ve, K, n, s⟩) (w : World) (hE : Env7 w) (hfz : f.size ≤ 9223372036854775807) (_ : s.size < 9223372036854775807) (hse : wi 1 se = true) (hsq : wi 1 sq = true) (hnm : nameB f.data.toList = true) :
    Calls Tryz.prog 10 #[V8 4 se sq f ve K n s] w fun e w' => e = .returned (.bool (sameC 4 0 0 (txt []) ve K n s 4 0 0 (txt []) 0 0 0 (txt []))) ∧ Below w.heap.size w w' := by
  obtain ⟨-, -, e0, e1, q0, q1, v0, v1, K0, K1, n0, n1⟩ := hi
  simp only at e0 e1 q0 q1 v0 v1 K0 K1 n0 n1
  have b0 := below_alloc w (.cells (cs8 4 se sq f ve K n s) 25)
  have C0 := Blk.new w (cs8 4 se sq f ve K n s) 25
  obtain ⟨w0, hw0⟩ : ∃ w0, w.alloc (.cells (cs8 4 se sq f ve K n s) 25) = w0 := ⟨_, rfl⟩
  rw [hw0] at b0 C0
  have cse := fun w => within_any 1 se w (by decide) (by decide) e0 e1
  simp only [hse] at cse
  have csq := fun w => within_any 1 sq w (by decide) (by decide) q0 q1
  simp only [hsq] at csq
  have cnm := fun w' (hb : Below w.heap.size w w') => pname_any f w' hfz (hE.later hb)
  simp only [hnm] at cnm
  have hqi := fun w => eqlIn_cmd 4 0 0 (txt []) ve K n s 4 0 0 (txt []) 0 0 0 (txt []) w
  have hqs := fun w => eql_cmd 4 0 0 (txt []) ve K n s 4 0 0 (txt []) 0 0 0 (txt []) w
  generalize sameC 4 0 0 (txt []) ve K n s 4 0 0 (txt []) 0 0 0 (txt []) = RR at *
  go_enter Tryz.func10, Tryz.ntmps10
  obtain ⟨hl, c0, c1, c2, c3, c4, c5, c6, c7⟩ := C0.c8
  go_wp2_with fail
  refine (parts_4 _).mono ?_
  rintro x w1 ⟨rfl, hb1⟩
  have C1 := C0.later hb1
  have hbw1 := below_to b0 hb1
  have bH := below_alloc w1 (.cells #[.bool true, .bool true, .bool false] 46)
  have H2 := Blk.new w1 #[.bool true, .bool true, .bool false] 46
  have C2 := C1.later bH
  have bD := below_alloc (w1.alloc (.cells #[.bool true, .bool true, .bool false] 46)) (.cells (cs8 4 se sq f ve K n s) 25)
  have D3 := Blk.new (w1.alloc (.cells #[.bool true, .bool true, .bool false] 46)) (cs8 4 se sq f ve K n s) 25
  have hz : (w1.alloc (.cells #[.bool true, .bool true, .bool false] 46)).heap.size = w1.heap.size + 1 := by simp
  have C3 := C2.later bD
  have H3 := H2.later bD
  have hbw3 := below_to (below_to hbw1 bH) bD
  rw [hz] at D3
  have hDl := D3.lt
  have hHl := H3.lt
  have hwD : w.heap.size ≤ w1.heap.size + 1 := by have := hbw1.size; omega
  have hCl := C1.lt
  have hDC : ¬ w.heap.size = w1.heap.size + 1 := by omega
  have hDH : ¬ w1.heap.size = w1.heap.size + 1 := by omega
  clear hl c0 c1 c2 c3 c4 c5 c6 c7 hw0 b0 hb1 bH bD C2 H2 hz C0 hDl hHl
  obtain ⟨hl, c0, c1, c2, c3, c4, c5, c6, c7⟩ := C1.c8
  go_wp2_with fail
  generalize hw3 : (w1.alloc (.cells #[.bool true, .bool true, .bool false] 46)).alloc (.cells (cs8 4 se sq f ve K n s) 25) = w3 at *
  clear hw3 C1 hbw1
  clear hl c0 c1 c2 c3 c4 c5 c6 c7
  obtain ⟨hl, c0, c1, c2, c3, c4, c5, c6, c7⟩ := C3.c8
  obtain ⟨hHl, m0, m1, m2⟩ := H3.m3
  obtain ⟨hDl, d0, d1, d2, d3, d4, d5, d6, d7⟩ := D3.c8
  obtain ⟨f0, f1, f2, f3, f4, f5, f6, f7⟩ := D3.t8
  refine (cse _).mono ?_
  rintro x wz ⟨rfl, rfl⟩
  go_wp2_with fail
  refine (csq _).mono ?_
  rintro x wz ⟨rfl, rfl⟩
  have hO := (Only.one w3 (w1.heap.size + 1) 1 (.int .i64 0)).setCell 2 (.int .i64 0)
  have D4 : Blk ((w3.setCell ⟨w1.heap.size + 1, 1, none⟩ (.int .i64 0)).setCell ⟨w1.heap.size + 1, 2, none⟩ (.int .i64 0)) (w1.heap.size + 1) 25 (cs8 4 0 0 f ve K n s) := (D3.set 1 _).set 2 _
  have C4 := C3.only hO hDC
  have H4 := H3.only hO hDH
  have hbw4 := hbw3.trans (hO.below hwD)
  go_wp2_with fail
  generalize hw4 : ((w3.setCell ⟨w1.heap.size + 1, 1, none⟩ (.int .i64 0)).setCell ⟨w1.heap.size + 1, 2, none⟩ (.int .i64 0)) = w4 at *
  clear hw4 hO C3 H3 D3 hbw3
  clear hl c0 c1 c2 c3 c4 c5 c6 c7 hHl m0 m1 m2 hDl d0 d1 d2 d3 d4 d5 d6 d7 f0 f1 f2 f3 f4 f5 f6 f7
  obtain ⟨hl, c0, c1, c2, c3, c4, c5, c6, c7⟩ := C4.c8
  obtain ⟨hHl, m0, m1, m2⟩ := H4.m3
  obtain ⟨hDl, d0, d1, d2, d3, d4, d5, d6, d7⟩ := D4.c8
  obtain ⟨f0, f1, f2, f3, f4, f5, f6, f7⟩ := D4.t8
  refine (cnm w4 hbw4).mono ?_
  rintro x w5 ⟨rfl, hb⟩
  have C5 := C4.later hb
  have H5 := H4.later hb
  have D5 := D4.later hb
  have hbw5 := below_to hbw4 hb
  clear hb C4 H4 D4 hbw4
  clear hl c0 c1 c2 c3 c4 c5 c6 c7 hHl m0 m1 m2 hDl d0 d1 d2 d3 d4 d5 d6 d7 f0 f1 f2 f3 f4 f5 f6 f7
  obtain ⟨hl, c0, c1, c2, c3, c4, c5, c6, c7⟩ := C5.c8
  obtain ⟨hHl, m0, m1, m2⟩ := H5.m3
  obtain ⟨hDl, d0, d1, d2, d3, d4, d5, d6, d7⟩ := D5.c8
  obtain ⟨f0, f1, f2, f3, f4, f5, f6, f7⟩ := D5.t8
  have hO := Only.one w5 (w1.heap.size + 1) 3 (.string ⟨#[]⟩)
  have D6 : Blk (w5.setCell ⟨w1.heap.size + 1, 3, none⟩ (.string ⟨#[]⟩)) (w1.heap.size + 1) 25 (cs8 4 0 0 (txt []) ve K n s) := D5.set 3 _
  have C6 := C5.only hO hDC
  have H6 := H5.only hO hDH
  have hbw6 := hbw5.trans (hO.below hwD)
  have HB := Lib.hid hbw6
  go_wp2
  go_ret
  exact ⟨rfl, HB.out⟩
set_option maxHeartbeats 1000000 in
set_option maxRecDepth 100000 in
theorem pck_4_se (se sq : Int) (f : ByteArray) (ve K n : Int) (s : ByteArray) (hi : Cm.In ⟨4, se, sq, f, ve, K, n, s⟩) (w : World) (_ : Env7 w) (_ : f.size ≤ 9223372036854775807) (_ : s.size < 9223372036854775807) (hse : wi 1 se = false) :
    Calls Tryz.prog 10 #[V8 4 se sq f ve K n s] w fun e w' => e = .returned (.bool (false)) ∧ Below w.heap.size w w' := by
  obtain ⟨-, -, e0, e1, q0, q1, v0, v1, K0, K1, n0, n1⟩ := hi
  simp only at e0 e1 q0 q1 v0 v1 K0 K1 n0 n1
  have b0 := below_alloc w (.cells (cs8 4 se sq f ve K n s) 25)
  have C0 := Blk.new w (cs8 4 se sq f ve K n s) 25
  obtain ⟨w0, hw0⟩ : ∃ w0, w.alloc (.cells (cs8 4 se sq f ve K n s) 25) = w0 := ⟨_, rfl⟩
  rw [hw0] at b0 C0
  have cse := fun w => within_any 1 se w (by decide) (by decide) e0 e1
  simp only [hse] at cse
  go_enter Tryz.func10, Tryz.ntmps10
  obtain ⟨hl, c0, c1, c2, c3, c4, c5, c6, c7⟩ := C0.c8
  go_wp2_with fail
  refine (parts_4 _).mono ?_
  rintro x w1 ⟨rfl, hb1⟩
  have C1 := C0.later hb1
  have hbw1 := below_to b0 hb1
  have bH := below_alloc w1 (.cells #[.bool true, .bool true, .bool false] 46)
  have H2 := Blk.new w1 #[.bool true, .bool true, .bool false] 46
  have C2 := C1.later bH
  have bD := below_alloc (w1.alloc (.cells #[.bool true, .bool true, .bool false] 46)) (.cells (cs8 4 se sq f ve K n s) 25)
  have D3 := Blk.new (w1.alloc (.cells #[.bool true, .bool true, .bool false] 46)) (cs8 4 se sq f ve K n s) 25
  have hz : (w1.alloc (.cells #[.bool true, .bool true, .bool false] 46)).heap.size = w1.heap.size + 1 := by simp
  have C3 := C2.later bD
  have H3 := H2.later bD
  have hbw3 := below_to (below_to hbw1 bH) bD
  rw [hz] at D3
  have hDl := D3.lt
  have hHl := H3.lt
  have hwD : w.heap.size ≤ w1.heap.size + 1 := by have := hbw1.size; omega
  have hCl := C1.lt
  have hDC : ¬ w.heap.size = w1.heap.size + 1 := by omega
  have hDH : ¬ w1.heap.size = w1.heap.size + 1 := by omega
  clear hl c0 c1 c2 c3 c4 c5 c6 c7 hw0 b0 hb1 bH bD C2 H2 hz C0 hDl hHl
  obtain ⟨hl, c0, c1, c2, c3, c4, c5, c6, c7⟩ := C1.c8
  go_wp2_with fail
  generalize hw3 : (w1.alloc (.cells #[.bool true, .bool true, .bool false] 46)).alloc (.cells (cs8 4 se sq f ve K n s) 25) = w3 at *
  clear hw3 C1 hbw1
  clear hl c0 c1 c2 c3 c4 c5 c6 c7
  obtain ⟨hl, c0, c1, c2, c3, c4, c5, c6, c7⟩ := C3.c8
  obtain ⟨hHl, m0, m1, m2⟩ := H3.m3
  obtain ⟨hDl, d0, d1, d2, d3, d4, d5, d6, d7⟩ := D3.c8
  obtain ⟨f0, f1, f2, f3, f4, f5, f6, f7⟩ := D3.t8
  refine (cse _).mono ?_
  rintro x wz ⟨rfl, rfl⟩
  have hO := (Only.one w3 (w1.heap.size + 1) 1 (.int .i64 0)).setCell 2 (.int .i64 0)
  have D4 : Blk ((w3.setCell ⟨w1.heap.size + 1, 1, none⟩ (.int .i64 0)).setCell ⟨w1.heap.size + 1, 2, none⟩ (.int .i64 0)) (w1.heap.size + 1) 25 (cs8 4 0 0 f ve K n s) := (D3.set 1 _).set 2 _
  have C4 := C3.only hO hDC
  have H4 := H3.only hO hDH
  have hbw4 := hbw3.trans (hO.below hwD)
  have hO2 := hO.setCell 3 (.string ⟨#[]⟩)
  have hbz := hbw3.trans (hO2.below hwD)
  have HB := Lib.hid hbz
  go_wp2
  go_ret
  exact ⟨rfl, HB.out⟩
set_option maxHeartbeats 1000000 in
set_option maxRecDepth 100000 in
theorem pck_4_sq (se sq : Int) (f : ByteArray) (ve K n : Int) (s : ByteArray) (hi : Cm.In ⟨4, se, sq, f, ve, K, n, s⟩) (w : World) (_ : Env7 w) (_ : f.size ≤ 9223372036854775807) (_ : s.size < 9223372036854775807) (hse : wi 1 se = true) (hsq : wi 1 sq = false) :
    Calls Tryz.prog 10 #[V8 4 se sq f ve K n s] w fun e w' => e = .returned (.bool (false)) ∧ Below w.heap.size w w' := by
  obtain ⟨-, -, e0, e1, q0, q1, v0, v1, K0, K1, n0, n1⟩ := hi
  simp only at e0 e1 q0 q1 v0 v1 K0 K1 n0 n1
  have b0 := below_alloc w (.cells (cs8 4 se sq f ve K n s) 25)
  have C0 := Blk.new w (cs8 4 se sq f ve K n s) 25
  obtain ⟨w0, hw0⟩ : ∃ w0, w.alloc (.cells (cs8 4 se sq f ve K n s) 25) = w0 := ⟨_, rfl⟩
  rw [hw0] at b0 C0
  have cse := fun w => within_any 1 se w (by decide) (by decide) e0 e1
  simp only [hse] at cse
  have csq := fun w => within_any 1 sq w (by decide) (by decide) q0 q1
  simp only [hsq] at csq
  go_enter Tryz.func10, Tryz.ntmps10
  obtain ⟨hl, c0, c1, c2, c3, c4, c5, c6, c7⟩ := C0.c8
  go_wp2_with fail
  refine (parts_4 _).mono ?_
  rintro x w1 ⟨rfl, hb1⟩
  have C1 := C0.later hb1
  have hbw1 := below_to b0 hb1
  have bH := below_alloc w1 (.cells #[.bool true, .bool true, .bool false] 46)
  have H2 := Blk.new w1 #[.bool true, .bool true, .bool false] 46
  have C2 := C1.later bH
  have bD := below_alloc (w1.alloc (.cells #[.bool true, .bool true, .bool false] 46)) (.cells (cs8 4 se sq f ve K n s) 25)
  have D3 := Blk.new (w1.alloc (.cells #[.bool true, .bool true, .bool false] 46)) (cs8 4 se sq f ve K n s) 25
  have hz : (w1.alloc (.cells #[.bool true, .bool true, .bool false] 46)).heap.size = w1.heap.size + 1 := by simp
  have C3 := C2.later bD
  have H3 := H2.later bD
  have hbw3 := below_to (below_to hbw1 bH) bD
  rw [hz] at D3
  have hDl := D3.lt
  have hHl := H3.lt
  have hwD : w.heap.size ≤ w1.heap.size + 1 := by have := hbw1.size; omega
  have hCl := C1.lt
  have hDC : ¬ w.heap.size = w1.heap.size + 1 := by omega
  have hDH : ¬ w1.heap.size = w1.heap.size + 1 := by omega
  clear hl c0 c1 c2 c3 c4 c5 c6 c7 hw0 b0 hb1 bH bD C2 H2 hz C0 hDl hHl
  obtain ⟨hl, c0, c1, c2, c3, c4, c5, c6, c7⟩ := C1.c8
  go_wp2_with fail
  generalize hw3 : (w1.alloc (.cells #[.bool true, .bool true, .bool false] 46)).alloc (.cells (cs8 4 se sq f ve K n s) 25) = w3 at *
  clear hw3 C1 hbw1
  clear hl c0 c1 c2 c3 c4 c5 c6 c7
  obtain ⟨hl, c0, c1, c2, c3, c4, c5, c6, c7⟩ := C3.c8
  obtain ⟨hHl, m0, m1, m2⟩ := H3.m3
  obtain ⟨hDl, d0, d1, d2, d3, d4, d5, d6, d7⟩ := D3.c8
  obtain ⟨f0, f1, f2, f3, f4, f5, f6, f7⟩ := D3.t8
  refine (cse _).mono ?_
  rintro x wz ⟨rfl, rfl⟩
  go_wp2_with fail
  refine (csq _).mono ?_
  rintro x wz ⟨rfl, rfl⟩
  have hO := (Only.one w3 (w1.heap.size + 1) 1 (.int .i64 0)).setCell 2 (.int .i64 0)
  have D4 : Blk ((w3.setCell ⟨w1.heap.size + 1, 1, none⟩ (.int .i64 0)).setCell ⟨w1.heap.size + 1, 2, none⟩ (.int .i64 0)) (w1.heap.size + 1) 25 (cs8 4 0 0 f ve K n s) := (D3.set 1 _).set 2 _
  have C4 := C3.only hO hDC
  have H4 := H3.only hO hDH
  have hbw4 := hbw3.trans (hO.below hwD)
  have hO2 := hO.setCell 3 (.string ⟨#[]⟩)
  have hbz := hbw3.trans (hO2.below hwD)
  have HB := Lib.hid hbz
  go_wp2
  go_ret
  exact ⟨rfl, HB.out⟩
set_option maxHeartbeats 1000000 in
set_option maxRecDepth 100000 in
theorem pck_4_nm (se sq : Int) (f : ByteArray) (ve K n : Int) (s : ByteArray) (hi : Cm.In ⟨4, se, sq, f, ve, K, n, s⟩) (w : World) (hE : Env7 w) (hfz : f.size ≤ 9223372036854775807) (_ : s.size < 9223372036854775807) (hse : wi 1 se = true) (hsq : wi 1 sq = true) (hnm : nameB f.data.toList = false) :
    Calls Tryz.prog 10 #[V8 4 se sq f ve K n s] w fun e w' => e = .returned (.bool (false)) ∧ Below w.heap.size w w' := by
  obtain ⟨-, -, e0, e1, q0, q1, v0, v1, K0, K1, n0, n1⟩ := hi
  simp only at e0 e1 q0 q1 v0 v1 K0 K1 n0 n1
  have b0 := below_alloc w (.cells (cs8 4 se sq f ve K n s) 25)
  have C0 := Blk.new w (cs8 4 se sq f ve K n s) 25
  obtain ⟨w0, hw0⟩ : ∃ w0, w.alloc (.cells (cs8 4 se sq f ve K n s) 25) = w0 := ⟨_, rfl⟩
  rw [hw0] at b0 C0
  have cse := fun w => within_any 1 se w (by decide) (by decide) e0 e1
  simp only [hse] at cse
  have csq := fun w => within_any 1 sq w (by decide) (by decide) q0 q1
  simp only [hsq] at csq
  have cnm := fun w' (hb : Below w.heap.size w w') => pname_any f w' hfz (hE.later hb)
  simp only [hnm] at cnm
  go_enter Tryz.func10, Tryz.ntmps10
  obtain ⟨hl, c0, c1, c2, c3, c4, c5, c6, c7⟩ := C0.c8
  go_wp2_with fail
  refine (parts_4 _).mono ?_
  rintro x w1 ⟨rfl, hb1⟩
  have C1 := C0.later hb1
  have hbw1 := below_to b0 hb1
  have bH := below_alloc w1 (.cells #[.bool true, .bool true, .bool false] 46)
  have H2 := Blk.new w1 #[.bool true, .bool true, .bool false] 46
  have C2 := C1.later bH
  have bD := below_alloc (w1.alloc (.cells #[.bool true, .bool true, .bool false] 46)) (.cells (cs8 4 se sq f ve K n s) 25)
  have D3 := Blk.new (w1.alloc (.cells #[.bool true, .bool true, .bool false] 46)) (cs8 4 se sq f ve K n s) 25
  have hz : (w1.alloc (.cells #[.bool true, .bool true, .bool false] 46)).heap.size = w1.heap.size + 1 := by simp
  have C3 := C2.later bD
  have H3 := H2.later bD
  have hbw3 := below_to (below_to hbw1 bH) bD
  rw [hz] at D3
  have hDl := D3.lt
  have hHl := H3.lt
  have hwD : w.heap.size ≤ w1.heap.size + 1 := by have := hbw1.size; omega
  have hCl := C1.lt
  have hDC : ¬ w.heap.size = w1.heap.size + 1 := by omega
  have hDH : ¬ w1.heap.size = w1.heap.size + 1 := by omega
  clear hl c0 c1 c2 c3 c4 c5 c6 c7 hw0 b0 hb1 bH bD C2 H2 hz C0 hDl hHl
  obtain ⟨hl, c0, c1, c2, c3, c4, c5, c6, c7⟩ := C1.c8
  go_wp2_with fail
  generalize hw3 : (w1.alloc (.cells #[.bool true, .bool true, .bool false] 46)).alloc (.cells (cs8 4 se sq f ve K n s) 25) = w3 at *
  clear hw3 C1 hbw1
  clear hl c0 c1 c2 c3 c4 c5 c6 c7
  obtain ⟨hl, c0, c1, c2, c3, c4, c5, c6, c7⟩ := C3.c8
  obtain ⟨hHl, m0, m1, m2⟩ := H3.m3
  obtain ⟨hDl, d0, d1, d2, d3, d4, d5, d6, d7⟩ := D3.c8
  obtain ⟨f0, f1, f2, f3, f4, f5, f6, f7⟩ := D3.t8
  refine (cse _).mono ?_
  rintro x wz ⟨rfl, rfl⟩
  go_wp2_with fail
  refine (csq _).mono ?_
  rintro x wz ⟨rfl, rfl⟩
  have hO := (Only.one w3 (w1.heap.size + 1) 1 (.int .i64 0)).setCell 2 (.int .i64 0)
  have D4 : Blk ((w3.setCell ⟨w1.heap.size + 1, 1, none⟩ (.int .i64 0)).setCell ⟨w1.heap.size + 1, 2, none⟩ (.int .i64 0)) (w1.heap.size + 1) 25 (cs8 4 0 0 f ve K n s) := (D3.set 1 _).set 2 _
  have C4 := C3.only hO hDC
  have H4 := H3.only hO hDH
  have hbw4 := hbw3.trans (hO.below hwD)
  go_wp2_with fail
  generalize hw4 : ((w3.setCell ⟨w1.heap.size + 1, 1, none⟩ (.int .i64 0)).setCell ⟨w1.heap.size + 1, 2, none⟩ (.int .i64 0)) = w4 at *
  clear hw4 hO C3 H3 D3 hbw3
  clear hl c0 c1 c2 c3 c4 c5 c6 c7 hHl m0 m1 m2 hDl d0 d1 d2 d3 d4 d5 d6 d7 f0 f1 f2 f3 f4 f5 f6 f7
  obtain ⟨hl, c0, c1, c2, c3, c4, c5, c6, c7⟩ := C4.c8
  obtain ⟨hHl, m0, m1, m2⟩ := H4.m3
  obtain ⟨hDl, d0, d1, d2, d3, d4, d5, d6, d7⟩ := D4.c8
  obtain ⟨f0, f1, f2, f3, f4, f5, f6, f7⟩ := D4.t8
  refine (cnm w4 hbw4).mono ?_
  rintro x w5 ⟨rfl, hb⟩
  have C5 := C4.later hb
  have H5 := H4.later hb
  have D5 := D4.later hb
  have hbw5 := below_to hbw4 hb
  clear hb C4 H4 D4 hbw4
  clear hl c0 c1 c2 c3 c4 c5 c6 c7 hHl m0 m1 m2 hDl d0 d1 d2 d3 d4 d5 d6 d7 f0 f1 f2 f3 f4 f5 f6 f7
  obtain ⟨hl, c0, c1, c2, c3, c4, c5, c6, c7⟩ := C5.c8
  obtain ⟨hHl, m0, m1, m2⟩ := H5.m3
  obtain ⟨hDl, d0, d1, d2, d3, d4, d5, d6, d7⟩ := D5.c8
  obtain ⟨f0, f1, f2, f3, f4, f5, f6, f7⟩ := D5.t8
  have hO := Only.one w5 (w1.heap.size + 1) 3 (.string ⟨#[]⟩)
  have D6 : Blk (w5.setCell ⟨w1.heap.size + 1, 3, none⟩ (.string ⟨#[]⟩)) (w1.heap.size + 1) 25 (cs8 4 0 0 (txt []) ve K n s) := D5.set 3 _
  have C6 := C5.only hO hDC
  have H6 := H5.only hO hDH
  have hbw6 := hbw5.trans (hO.below hwD)
  have HB := Lib.hid hbw6
  go_wp2
  go_ret
  exact ⟨rfl, HB.out⟩
end Go.Proofs.YtkbeemkmcnfiiaaGreatDoor
