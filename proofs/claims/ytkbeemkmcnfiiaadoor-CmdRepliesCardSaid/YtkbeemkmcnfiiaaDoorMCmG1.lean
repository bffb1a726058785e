/- The contract of cmd.Get: what any bytes say, by kinds. Printed by gen/cmget.py. -/
import Derived.Test.YtkbeemkmcnfiiaaDoorMCmCh
namespace Go.Proofs.YtkbeemkmcnfiiaaDoor
open Go.RowKit


set_option maxHeartbeats 2000000 in
set_option maxRecDepth 100000 in
theorem pget_1 (A : Option Addr) (L : List UInt8) (cap : Nat) (w : World) (hk : (stI (L, false)).1 = 1) (hl : L.length ≤ 140737488355328) (hB : Bs w A L) (hcap : A = none → cap = 0) (hT : Tabs w) :
    Calls Tryd.prog 11 #[.slice A L.length cap] w (GotC w (getC L)) := by
  have bR := below_alloc w (.cells (cs8 0 0 0 ⟨#[]⟩ 0 0 0 ⟨#[]⟩) 36)
  have R0 := Blk.new w (cs8 0 0 0 ⟨#[]⟩ 0 0 0 ⟨#[]⟩) 36
  have hz : (w.alloc (.cells (cs8 0 0 0 ⟨#[]⟩ 0 0 0 ⟨#[]⟩) 36)).heap.size = w.heap.size + 1 := by simp
  obtain ⟨w0, hw0⟩ : ∃ w0, w.alloc (.cells (cs8 0 0 0 ⟨#[]⟩ 0 0 0 ⟨#[]⟩) 36) = w0 := ⟨_, rfl⟩
  rw [hw0] at bR R0 hz
  have cN := new_any A L cap w0 hl (hB.below bR) hcap
  have k0 := fun w g h => int_any w0.heap.size g (L, false) w h
  have z0 := stI_lo (L, false)
  have hG : getC L = endC (rdC (stI (L, false)).1 (stI (L, false)).2) := rfl
  simp only [hk] at k0 z0 hG
  obtain ⟨s0, hs0⟩ : ∃ s0, (stI (L, false)).2 = s0 := ⟨_, rfl⟩
  simp only [hs0] at k0 hG
  rw [rdC_1] at hG
  unfold rd1 at hG
  have zl : (-9223372036854775808 : Int) ≤ 0 := by decide
  have zh : (0 : Int) ≤ 9223372036854775807 := by decide
  have hin : Cm.In ⟨1, 0, 0, (txt []), 0, 0, 0, (txt [])⟩ := ⟨z0.1, z0.2, zl, zh, zl, zh, zl, zh, zl, zh, zl, zh⟩
  rw [show getC L = endC (⟨1, 0, 0, (txt []), 0, 0, 0, (txt [])⟩, s0) from hG]
  obtain ⟨ko, kb, ky⟩ := endC_of ⟨1, 0, 0, (txt []), 0, 0, 0, (txt [])⟩ s0
  have HO := Lib.hid ko
  have HB := Lib.hid kb
  have HY := Lib.hid ky
  have HIN := Lib.hid hin
  have HT := Lib.hid hT
  clear hG hin ko kb ky hT hB hcap zl zh z0 hs0 hk
  go_enter Tryd.func11, Tryd.ntmps11
  go_wp2_with fail
  refine cN.mono ?_
  rintro x w1 ⟨g, rfl, hR1, hb1⟩
  have R1 := R0.later hb1
  have hbw1 := below_to bR hb1
  have hgN : w.heap.size + 1 ≤ g := by have := hR1.1; omega
  have hgR : ¬ g = w.heap.size := by omega
  have hRg : ¬ w.heap.size = g := fun h => hgR h.symm
  clear cN hw0 hb1 R0 bR
  go_wp2_with fail
  refine (k0 w1 g hR1).mono ?_
  rintro x w2 ⟨rfl, hR2, hO2⟩
  have R2 := R1.only hO2 hRg
  have hbw2 := hbw1.trans (hO2.below (by omega))
  have C3 := Blk.new w2 (cs8 1 0 0 ⟨#[]⟩ 0 0 0 ⟨#[]⟩) 36
  have b3 := below_alloc w2 (.cells (cs8 1 0 0 ⟨#[]⟩ 0 0 0 ⟨#[]⟩) 36)
  have hR3 := hR2.below b3 (Nat.le_refl _)
  have R3 := R2.later b3
  have hbw3 := below_to hbw2 b3
  have hgl := hR2.lt
  have hCg : ¬ w2.heap.size = g := by omega
  have hgC : ¬ g = w2.heap.size := by omega
  have hCR : ¬ w2.heap.size = w.heap.size := by have := R2.lt; omega
  have hRC : ¬ w.heap.size = w2.heap.size := fun h => hCR h.symm
  have hwC : w.heap.size ≤ w2.heap.size := hbw2.size
  clear k0 hR1 hO2 R1 R2 b3 hR2 hbw2 hbw1
  obtain ⟨hl3, c0, c1, c2, c3, c4, c5, c6, c7⟩ := C3.c8
  go_wp2_with fail
  generalize hw3 : w2.alloc (.cells (cs8 1 0 0 ⟨#[]⟩ 0 0 0 ⟨#[]⟩) 36) = w3 at *
  refine (parts_1 w3).mono ?_
  rintro x w4 ⟨rfl, hb⟩
  have hR4 := hR3.below hb (Nat.le_refl _)
  have R4 := R3.later hb
  have C4 := C3.later hb
  have hbw4 := below_to hbw3 hb
  have H5 := Blk.new w4 #[.bool false, .bool false, .bool false] 52
  have b5 := below_alloc w4 (.cells #[.bool false, .bool false, .bool false] 52)
  have hR5 := hR4.below b5 (Nat.le_refl _)
  have R5 := R4.later b5
  have C5 := C4.later b5
  have hbw5 := below_to hbw4 b5
  have hg4 := hR4.lt
  have hC4 := C4.lt
  have hr4 := R4.lt
  have hHg : ¬ w4.heap.size = g := by omega
  have hHC : ¬ w4.heap.size = w2.heap.size := by omega
  have hCH : ¬ w2.heap.size = w4.heap.size := by omega
  clear hl3 c0 c1 c2 c3 c4 c5 c6 c7 hw3 hb hR3 R3 C3 hbw3 b5 hR4 R4 hbw4
  obtain ⟨hHl, m0, m1, m2⟩ := H5.m3
  obtain ⟨hl4, c0, c1, c2, c3, c4, c5, c6, c7⟩ := C5.c8
  go_wp2_with fail
  generalize hw5 : w4.alloc (.cells #[.bool false, .bool false, .bool false] 52) = w5 at *
  clear hw5 C4 hHl m0 m1 m2 hl4 c0 c1 c2 c3 c4 c5 c6 c7
  have cE := end_any w0.heap.size g s0 w5 hR5
  clear hR5 H5
  obtain ⟨Z, hZ⟩ : ∃ Z, (!s0.2 && s0.1.length == 0) = Z := ⟨_, rfl⟩
  rw [hZ] at cE
  cases Z with
  | false =>
    have hno := HO.out hZ
    have HNo := Lib.hid hno
    clear hno hZ
    obtain ⟨y0, y1, y2, y3, y4, y5, y6, y7, y8⟩ := R5.c8
    obtain ⟨f0, f1, f2, f3, f4, f5, f6, f7⟩ := R5.t8
    refine cE.mono ?_
    rintro x w8 ⟨rfl, rfl⟩
    have HF := Lib.hid (below_set8 hbw5 (Nat.le_refl _) (.int .i64 0) (.int .i64 0) (.int .i64 0) (.string ⟨#[]⟩) (.int .i64 0) (.int .i64 0) (.int .i64 0) (.string ⟨#[]⟩))
    clear cE hbw5 C5
    go_wp2_with fail
    exact bodyPost_ret (v := .tuple #[V8 0 0 0 ⟨#[]⟩ 0 0 0 ⟨#[]⟩, .bool false]) (by simp [results, Tryd.results11, go_sem, y1, y2, y3, y4, y5, y6, y7, y8]) rfl ⟨by rw [HNo.out] <;> rfl, HF.out⟩
  | true =>
    refine cE.mono ?_
    rintro x w8 ⟨rfl, rfl⟩
    have cC := pcheck_1 0 0 (txt []) 0 0 0 (txt []) HIN.out w5 
    obtain ⟨hl4, c0, c1, c2, c3, c4, c5, c6, c7⟩ := C5.c8
    cases hD : cmdB ⟨1, 0, 0, (txt []), 0, 0, 0, (txt [])⟩ with
    | false =>
      have hno := HB.out hZ hD
      have HNo := Lib.hid hno
      rw [hD] at cC
      clear hno hZ cE hD
      go_wp2_with fail
      refine cC.mono ?_
      rintro x w8 ⟨rfl, hb8⟩
      have R8 := R5.later hb8
      have hbw8 := below_to hbw5 hb8
      obtain ⟨y0, y1, y2, y3, y4, y5, y6, y7, y8⟩ := R8.c8
      obtain ⟨f0, f1, f2, f3, f4, f5, f6, f7⟩ := R8.t8
      have HF := Lib.hid (below_set8 hbw8 (Nat.le_refl _) (.int .i64 0) (.int .i64 0) (.int .i64 0) (.string ⟨#[]⟩) (.int .i64 0) (.int .i64 0) (.int .i64 0) (.string ⟨#[]⟩))
      clear cC hbw5 C5 hl4 c0 c1 c2 c3 c4 c5 c6 c7 R5 R8 hb8 hbw8
      go_wp2_with fail
      exact bodyPost_ret (v := .tuple #[V8 0 0 0 ⟨#[]⟩ 0 0 0 ⟨#[]⟩, .bool false]) (by simp [results, Tryd.results11, go_sem, y1, y2, y3, y4, y5, y6, y7, y8]) rfl ⟨by rw [HNo.out] <;> rfl, HF.out⟩
    | true =>
      have hyes := HY.out hZ hD
      have HNo := Lib.hid hyes
      rw [hD] at cC
      clear hyes hZ cE hD
      go_wp2_with fail
      refine cC.mono ?_
      rintro x w8 ⟨rfl, hb8⟩
      have R8 := R5.later hb8
      have C8 := C5.later hb8
      have hbw8 := below_to hbw5 hb8
      clear hl4 c0 c1 c2 c3 c4 c5 c6 c7
      obtain ⟨hl4, c0, c1, c2, c3, c4, c5, c6, c7⟩ := C8.c8
      obtain ⟨y0, y1, y2, y3, y4, y5, y6, y7, y8⟩ := R8.c8
      obtain ⟨f0, f1, f2, f3, f4, f5, f6, f7⟩ := R8.t8
      have HF := Lib.hid (below_set8 hbw8 (Nat.le_refl _) (.int .i64 1) (.int .i64 0) (.int .i64 0) (.string ⟨#[]⟩) (.int .i64 0) (.int .i64 0) (.int .i64 0) (.string ⟨#[]⟩))
      clear cC hbw5 C5 R5 R8 C8 hb8 hbw8
      go_wp2_with fail
      exact bodyPost_ret (v := .tuple #[V8 1 0 0 ⟨#[]⟩ 0 0 0 ⟨#[]⟩, .bool true]) (by simp [results, Tryd.results11, go_sem, y1, y2, y3, y4, y5, y6, y7, y8]) rfl ⟨by rw [HNo.out] <;> rfl, HF.out⟩
end Go.Proofs.YtkbeemkmcnfiiaaDoor
