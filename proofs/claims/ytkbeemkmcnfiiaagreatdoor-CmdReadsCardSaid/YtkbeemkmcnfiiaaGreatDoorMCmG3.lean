/- The contract of cmd.Get: what any bytes say, by kinds. Printed by gen/cmget.py. -/
import Derived.Test.YtkbeemkmcnfiiaaGreatDoorMCmCh
namespace Go.Proofs.YtkbeemkmcnfiiaaGreatDoor
open Go.RowKit


set_option maxHeartbeats 2000000 in
set_option maxRecDepth 100000 in
theorem pget_3 (A : Option Addr) (L : List UInt8) (cap : Nat) (w : World) (hk : (stI (L, false)).1 = 3) (hl : L.length ≤ 140737488355328) (hB : Bs w A L) (hcap : A = none → cap = 0) (hT : Tabs w) :
    Calls Tryz.prog 15 #[.slice A L.length cap] w (GotC w (getC L)) := by
  have bR := below_alloc w (.cells (cs8 0 0 0 ⟨#[]⟩ 0 0 0 ⟨#[]⟩) 25)
  have R0 := Blk.new w (cs8 0 0 0 ⟨#[]⟩ 0 0 0 ⟨#[]⟩) 25
  have hz : (w.alloc (.cells (cs8 0 0 0 ⟨#[]⟩ 0 0 0 ⟨#[]⟩) 25)).heap.size = w.heap.size + 1 := by simp
  obtain ⟨w0, hw0⟩ : ∃ w0, w.alloc (.cells (cs8 0 0 0 ⟨#[]⟩ 0 0 0 ⟨#[]⟩) 25) = w0 := ⟨_, rfl⟩
  rw [hw0] at bR R0 hz
  have cN := new_any A L cap w0 hl (hB.below bR) hcap
  have k0 := fun w g h => int_any w0.heap.size g (L, false) w h
  have z0 := stI_lo (L, false)
  have hG : getC L = endC (rdC (stI (L, false)).1 (stI (L, false)).2) := rfl
  simp only [hk] at k0 z0 hG
  obtain ⟨s0, hs0⟩ : ∃ s0, (stI (L, false)).2 = s0 := ⟨_, rfl⟩
  simp only [hs0] at k0 hG
  rw [rdC_3] at hG
  unfold rd3 at hG
  have k1 := fun w g h => int_any w0.heap.size g s0 w h
  have z1 := stI_lo s0
  obtain ⟨se, hse⟩ : ∃ se, (stI s0).1 = se := ⟨_, rfl⟩
  obtain ⟨s1, hs1⟩ : ∃ s1, (stI s0).2 = s1 := ⟨_, rfl⟩
  simp only [hse, hs1] at k1 z1 hG
  have k2 := fun w g h => int_any w0.heap.size g s1 w h
  have z2 := stI_lo s1
  obtain ⟨sq, hsq⟩ : ∃ sq, (stI s1).1 = sq := ⟨_, rfl⟩
  obtain ⟨s2, hs2⟩ : ∃ s2, (stI s1).2 = s2 := ⟨_, rfl⟩
  simp only [hsq, hs2] at k2 z2 hG
  have zl : (-9223372036854775808 : Int) ≤ 0 := by decide
  have zh : (0 : Int) ≤ 9223372036854775807 := by decide
  have hin : Cm.In ⟨3, se, sq, (txt []), 0, 0, 0, (txt [])⟩ := ⟨z0.1, z0.2, z1.1, z1.2, z2.1, z2.2, zl, zh, zl, zh, zl, zh⟩
  rw [show getC L = endC (⟨3, se, sq, (txt []), 0, 0, 0, (txt [])⟩, s2) from hG]
  obtain ⟨ko, kb, ky⟩ := endC_of ⟨3, se, sq, (txt []), 0, 0, 0, (txt [])⟩ s2
  have HO := Lib.hid ko
  have HB := Lib.hid kb
  have HY := Lib.hid ky
  have HIN := Lib.hid hin
  have HT := Lib.hid hT
  clear hG hin ko kb ky hT hB hcap zl zh z0 hs0 hs1 hs2 z1 z2 hse hsq hk
  go_enter Tryz.func15, Tryz.ntmps15
  go_wp2_with fail
  refine cN.mono ?_
  rintro x w1 ⟨g, rfl, hR1, hb1⟩
  have R1 := R0.later hb1
  have hbw1 := below_to bR hb1
  have hgN : w.heap.size + 1 ≤ g := by have := hR1.1; omega
  have hgR : ¬ g = w.heap.size := by omega
  have hRg : ¬ w.heap.size = g := fun h => hgR h.symm
  clear cN hw0 hb1 R0 bR
  go_wp2_with fail
  refine (k0 w1 g hR1).mono ?_
  rintro x w2 ⟨rfl, hR2, hO2⟩
  have R2 := R1.only hO2 hRg
  have hbw2 := hbw1.trans (hO2.below (by omega))
  have C3 := Blk.new w2 (cs8 3 0 0 ⟨#[]⟩ 0 0 0 ⟨#[]⟩) 25
  have b3 := below_alloc w2 (.cells (cs8 3 0 0 ⟨#[]⟩ 0 0 0 ⟨#[]⟩) 25)
  have hR3 := hR2.below b3 (Nat.le_refl _)
  have R3 := R2.later b3
  have hbw3 := below_to hbw2 b3
  have hgl := hR2.lt
  have hCg : ¬ w2.heap.size = g := by omega
  have hgC : ¬ g = w2.heap.size := by omega
  have hCR : ¬ w2.heap.size = w.heap.size := by have := R2.lt; omega
  have hRC : ¬ w.heap.size = w2.heap.size := fun h => hCR h.symm
  have hwC : w.heap.size ≤ w2.heap.size := hbw2.size
  clear k0 hR1 hO2 R1 R2 b3 hR2 hbw2 hbw1
  obtain ⟨hl3, c0, c1, c2, c3, c4, c5, c6, c7⟩ := C3.c8
  go_wp2_with fail
  generalize hw3 : w2.alloc (.cells (cs8 3 0 0 ⟨#[]⟩ 0 0 0 ⟨#[]⟩) 25) = w3 at *
  refine (parts_3 w3).mono ?_
  rintro x w4 ⟨rfl, hb⟩
  have hR4 := hR3.below hb (Nat.le_refl _)
  have R4 := R3.later hb
  have C4 := C3.later hb
  have hbw4 := below_to hbw3 hb
  have H5 := Blk.new w4 #[.bool true, .bool false, .bool false] 46
  have b5 := below_alloc w4 (.cells #[.bool true, .bool false, .bool false] 46)
  have hR5 := hR4.below b5 (Nat.le_refl _)
  have R5 := R4.later b5
  have C5 := C4.later b5
  have hbw5 := below_to hbw4 b5
  have hg4 := hR4.lt
  have hC4 := C4.lt
  have hr4 := R4.lt
  have hHg : ¬ w4.heap.size = g := by omega
  have hHC : ¬ w4.heap.size = w2.heap.size := by omega
  have hCH : ¬ w2.heap.size = w4.heap.size := by omega
  clear hl3 c0 c1 c2 c3 c4 c5 c6 c7 hw3 hb hR3 R3 C3 hbw3 b5 hR4 R4 hbw4
  obtain ⟨hHl, m0, m1, m2⟩ := H5.m3
  obtain ⟨hl4, c0, c1, c2, c3, c4, c5, c6, c7⟩ := C5.c8
  go_wp2_with fail
  generalize hw5 : w4.alloc (.cells #[.bool true, .bool false, .bool false] 46) = w5 at *
  clear hw5 C4 hHl m0 m1 m2 hl4 c0 c1 c2 c3 c4 c5 c6 c7
  refine (k1 w5 g hR5).mono ?_
  rintro x w6 ⟨rfl, hR6, hO⟩
  have C6 := C5.only hO hCg
  have R6 := R5.only hO hRg
  have H6 := H5.only hO hHg
  have hbw6 := hbw5.trans (hO.below (by omega))
  clear k1 hO hR5 C5 R5 H5 hbw5
  obtain ⟨hl4, c0, c1, c2, c3, c4, c5, c6, c7⟩ := C6.c8
  obtain ⟨f0, f1, f2, f3, f4, f5, f6, f7⟩ := C6.t8
  obtain ⟨hHl, m0, m1, m2⟩ := H6.m3
  have C7 : Blk (w6.setCell ⟨w2.heap.size, 1, none⟩ (.int .i64 se)) w2.heap.size 25 (cs8 3 se 0 ⟨#[]⟩ 0 0 0 ⟨#[]⟩) := C6.set 1 _
  have hO := Only.one w6 w2.heap.size 1 (.int .i64 se)
  have hR7 := hR6.blk C6 (noU8_8 _ _ _ _ _ _ _ _) hO hgC
  have R7 := R6.only hO hRC
  have H7 := H6.only hO hHC
  have hbw7 := hbw6.trans (hO.below hwC)
  go_wp2_with fail
  generalize hw7 : w6.setCell ⟨w2.heap.size, 1, none⟩ (.int .i64 se) = w7 at *
  clear hw7 hO hR6 C6 R6 H6 hbw6 hl4 c0 c1 c2 c3 c4 c5 c6 c7 f0 f1 f2 f3 f4 f5 f6 f7 hHl m0 m1 m2
  refine (k2 w7 g hR7).mono ?_
  rintro x w8 ⟨rfl, hR8, hO⟩
  have C8 := C7.only hO hCg
  have R8 := R7.only hO hRg
  have H8 := H7.only hO hHg
  have hbw8 := hbw7.trans (hO.below (by omega))
  clear k2 hO hR7 C7 R7 H7 hbw7
  obtain ⟨hl4, c0, c1, c2, c3, c4, c5, c6, c7⟩ := C8.c8
  obtain ⟨f0, f1, f2, f3, f4, f5, f6, f7⟩ := C8.t8
  obtain ⟨hHl, m0, m1, m2⟩ := H8.m3
  have C9 : Blk (w8.setCell ⟨w2.heap.size, 2, none⟩ (.int .i64 sq)) w2.heap.size 25 (cs8 3 se sq ⟨#[]⟩ 0 0 0 ⟨#[]⟩) := C8.set 2 _
  have hO := Only.one w8 w2.heap.size 2 (.int .i64 sq)
  have hR9 := hR8.blk C8 (noU8_8 _ _ _ _ _ _ _ _) hO hgC
  have R9 := R8.only hO hRC
  have H9 := H8.only hO hHC
  have hbw9 := hbw8.trans (hO.below hwC)
  go_wp2_with fail
  generalize hw9 : w8.setCell ⟨w2.heap.size, 2, none⟩ (.int .i64 sq) = w9 at *
  clear hw9 hO hR8 C8 R8 H8 hbw8 hl4 c0 c1 c2 c3 c4 c5 c6 c7 f0 f1 f2 f3 f4 f5 f6 f7 hHl m0 m1 m2
  have cE := end_any w0.heap.size g s2 w9 hR9
  clear hR9 H9
  obtain ⟨Z, hZ⟩ : ∃ Z, (!s2.2 && s2.1.length == 0) = Z := ⟨_, rfl⟩
  rw [hZ] at cE
  cases Z with
  | false =>
    have hno := HO.out hZ
    have HNo := Lib.hid hno
    clear hno hZ
    obtain ⟨y0, y1, y2, y3, y4, y5, y6, y7, y8⟩ := R9.c8
    obtain ⟨f0, f1, f2, f3, f4, f5, f6, f7⟩ := R9.t8
    refine cE.mono ?_
    rintro x w8 ⟨rfl, rfl⟩
    have HF := Lib.hid (below_set8 hbw9 (Nat.le_refl _) (.int .i64 0) (.int .i64 0) (.int .i64 0) (.string ⟨#[]⟩) (.int .i64 0) (.int .i64 0) (.int .i64 0) (.string ⟨#[]⟩))
    clear cE hbw9 C9
    go_wp2_with fail
    exact bodyPost_ret (v := .tuple #[V8 0 0 0 ⟨#[]⟩ 0 0 0 ⟨#[]⟩, .bool false]) (by simp [results, Tryz.results15, go_sem, y1, y2, y3, y4, y5, y6, y7, y8]) rfl ⟨by rw [HNo.out] <;> rfl, HF.out⟩
  | true =>
    refine cE.mono ?_
    rintro x w8 ⟨rfl, rfl⟩
    have cC := pcheck_3 se sq (txt []) 0 0 0 (txt []) HIN.out w9 
    obtain ⟨hl4, c0, c1, c2, c3, c4, c5, c6, c7⟩ := C9.c8
    cases hD : cmdB ⟨3, se, sq, (txt []), 0, 0, 0, (txt [])⟩ with
    | false =>
      have hno := HB.out hZ hD
      have HNo := Lib.hid hno
      rw [hD] at cC
      clear hno hZ cE hD
      go_wp2_with fail
      refine cC.mono ?_
      rintro x w8 ⟨rfl, hb8⟩
      have R8 := R9.later hb8
      have hbw8 := below_to hbw9 hb8
      obtain ⟨y0, y1, y2, y3, y4, y5, y6, y7, y8⟩ := R8.c8
      obtain ⟨f0, f1, f2, f3, f4, f5, f6, f7⟩ := R8.t8
      have HF := Lib.hid (below_set8 hbw8 (Nat.le_refl _) (.int .i64 0) (.int .i64 0) (.int .i64 0) (.string ⟨#[]⟩) (.int .i64 0) (.int .i64 0) (.int .i64 0) (.string ⟨#[]⟩))
      clear cC hbw9 C9 hl4 c0 c1 c2 c3 c4 c5 c6 c7 R9 R8 hb8 hbw8
      go_wp2_with fail
      exact bodyPost_ret (v := .tuple #[V8 0 0 0 ⟨#[]⟩ 0 0 0 ⟨#[]⟩, .bool false]) (by simp [results, Tryz.results15, go_sem, y1, y2, y3, y4, y5, y6, y7, y8]) rfl ⟨by rw [HNo.out] <;> rfl, HF.out⟩
    | true =>
      have hyes := HY.out hZ hD
      have HNo := Lib.hid hyes
      rw [hD] at cC
      clear hyes hZ cE hD
      go_wp2_with fail
      refine cC.mono ?_
      rintro x w8 ⟨rfl, hb8⟩
      have R8 := R9.later hb8
      have C8 := C9.later hb8
      have hbw8 := below_to hbw9 hb8
      clear hl4 c0 c1 c2 c3 c4 c5 c6 c7
      obtain ⟨hl4, c0, c1, c2, c3, c4, c5, c6, c7⟩ := C8.c8
      obtain ⟨y0, y1, y2, y3, y4, y5, y6, y7, y8⟩ := R8.c8
      obtain ⟨f0, f1, f2, f3, f4, f5, f6, f7⟩ := R8.t8
      have HF := Lib.hid (below_set8 hbw8 (Nat.le_refl _) (.int .i64 3) (.int .i64 se) (.int .i64 sq) (.string ⟨#[]⟩) (.int .i64 0) (.int .i64 0) (.int .i64 0) (.string ⟨#[]⟩))
      clear cC hbw9 C9 R9 R8 C8 hb8 hbw8
      go_wp2_with fail
      exact bodyPost_ret (v := .tuple #[V8 3 se sq ⟨#[]⟩ 0 0 0 ⟨#[]⟩, .bool true]) (by simp [results, Tryz.results15, go_sem, y1, y2, y3, y4, y5, y6, y7, y8]) rfl ⟨by rw [HNo.out] <;> rfl, HF.out⟩
end Go.Proofs.YtkbeemkmcnfiiaaGreatDoor
