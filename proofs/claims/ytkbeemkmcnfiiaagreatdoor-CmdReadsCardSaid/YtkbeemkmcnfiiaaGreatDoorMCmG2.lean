/- The contract of cmd.Get: what any bytes say, by kinds. Printed by gen/cmget.py. -/
import Derived.Test.YtkbeemkmcnfiiaaGreatDoorMCmCh
namespace Go.Proofs.YtkbeemkmcnfiiaaGreatDoor
open Go.RowKit


set_option maxHeartbeats 2000000 in
set_option maxRecDepth 100000 in
theorem pget_2 (A : Option Addr) (L : List UInt8) (cap : Nat) (w : World) (hk : (stI (L, false)).1 = 2) (hl : L.length ≤ 140737488355328) (hB : Bs w A L) (hcap : A = none → cap = 0) (hT : Env7 w) :
    Calls Tryz.prog 15 #[.slice A L.length cap] w (GotC w (getC L)) := by
  have bR := below_alloc w (.cells (cs8 0 0 0 ⟨#[]⟩ 0 0 0 ⟨#[]⟩) 25)
  have R0 := Blk.new w (cs8 0 0 0 ⟨#[]⟩ 0 0 0 ⟨#[]⟩) 25
  have hz : (w.alloc (.cells (cs8 0 0 0 ⟨#[]⟩ 0 0 0 ⟨#[]⟩) 25)).heap.size = w.heap.size + 1 := by simp
  obtain ⟨w0, hw0⟩ : ∃ w0, w.alloc (.cells (cs8 0 0 0 ⟨#[]⟩ 0 0 0 ⟨#[]⟩) 25) = w0 := ⟨_, rfl⟩
  rw [hw0] at bR R0 hz
  have cN := new_any A L cap w0 hl (hB.below bR) hcap
  have k0 := fun w g h => int_any w0.heap.size g (L, false) w h
  have z0 := stI_lo (L, false)
  have hG : getC L = endC (rdC (stI (L, false)).1 (stI (L, false)).2) := rfl
  simp only [hk] at k0 z0 hG
  obtain ⟨s0, hs0⟩ : ∃ s0, (stI (L, false)).2 = s0 := ⟨_, rfl⟩
  simp only [hs0] at k0 hG
  rw [rdC_2] at hG
  unfold rd2 at hG
  have k1 := fun w g h => int_any w0.heap.size g s0 w h
  have z1 := stI_lo s0
  obtain ⟨se, hse⟩ : ∃ se, (stI s0).1 = se := ⟨_, rfl⟩
  obtain ⟨s1, hs1⟩ : ∃ s1, (stI s0).2 = s1 := ⟨_, rfl⟩
  simp only [hse, hs1] at k1 z1 hG
  have k2 := fun w g h => int_any w0.heap.size g s1 w h
  have z2 := stI_lo s1
  obtain ⟨sq, hsq⟩ : ∃ sq, (stI s1).1 = sq := ⟨_, rfl⟩
  obtain ⟨s2, hs2⟩ : ∃ s2, (stI s1).2 = s2 := ⟨_, rfl⟩
  simp only [hsq, hs2] at k2 z2 hG
  have k3 := fun w g h => wtext_any w0.heap.size g s2 24 w h
  have hf24 := stT_24 s2
  simp only [txt] at hG
  obtain ⟨f, hf⟩ : ∃ f : ByteArray, (⟨(stT 24 s2).1.toArray⟩ : ByteArray) = f := ⟨_, rfl⟩
  obtain ⟨s3, hs3⟩ : ∃ s3, (stT 24 s2).2 = s3 := ⟨_, rfl⟩
  simp only [hf, hs3] at k3 hG hf24
  have k4 := fun w g h => int_any w0.heap.size g s3 w h
  have z4 := stI_lo s3
  obtain ⟨ve, hve⟩ : ∃ ve, (stI s3).1 = ve := ⟨_, rfl⟩
  obtain ⟨s4, hs4⟩ : ∃ s4, (stI s3).2 = s4 := ⟨_, rfl⟩
  simp only [hve, hs4] at k4 z4 hG
  have k5 := fun w g h hT => get_any w0.heap.size g s4 w h hT
  unfold GotV at k5
  have hi5 := getS_in s4
  have hl5 := getS_len s4
  obtain ⟨K, hK⟩ : ∃ K, (getS s4).1.1 = K := ⟨_, rfl⟩
  obtain ⟨n, hn⟩ : ∃ n, (getS s4).1.2.1 = n := ⟨_, rfl⟩
  have hsz : (⟨(getS s4).1.2.2.toArray⟩ : ByteArray).size < 9223372036854775807 := by show (getS s4).1.2.2.toArray.size < _; rw [List.size_toArray]; omega
  obtain ⟨s, hs⟩ : ∃ s : ByteArray, (⟨(getS s4).1.2.2.toArray⟩ : ByteArray) = s := ⟨_, rfl⟩
  obtain ⟨s5, hs5⟩ : ∃ s5, (getS s4).2 = s5 := ⟨_, rfl⟩
  simp only [hK, hn, hs, hs5] at k5 hG hi5 hsz
  clear hl5
  have zl : (-9223372036854775808 : Int) ≤ 0 := by decide
  have zh : (0 : Int) ≤ 9223372036854775807 := by decide
  have hin : Cm.In ⟨2, se, sq, f, ve, K, n, s⟩ := ⟨z0.1, z0.2, z1.1, z1.2, z2.1, z2.2, z4.1, z4.2, hi5.2.2.1, hi5.2.2.2, hi5.1, hi5.2.1⟩
  rw [show getC L = endC (⟨2, se, sq, f, ve, K, n, s⟩, s5) from hG]
  obtain ⟨ko, kb, ky⟩ := endC_of ⟨2, se, sq, f, ve, K, n, s⟩ s5
  have HO := Lib.hid ko
  have HB := Lib.hid kb
  have HY := Lib.hid ky
  have HIN := Lib.hid hin
  have HT := Lib.hid hT
  clear hG hin ko kb ky hT hB hcap zl zh z0 hs0 hs1 hs2 hs3 hs4 hs5 z1 z2 z4 hse hsq hve hf hK hn hs hi5 hk
  have HF24 := Lib.hid hf24
  clear hf24
  have HSZ := Lib.hid hsz
  clear hsz
  go_enter Tryz.func15, Tryz.ntmps15
  go_wp2_with fail
  refine cN.mono ?_
  rintro x w1 ⟨g, rfl, hR1, hb1⟩
  have R1 := R0.later hb1
  have hbw1 := below_to bR hb1
  have hgN : w.heap.size + 1 ≤ g := by have := hR1.1; omega
  have hgR : ¬ g = w.heap.size := by omega
  have hRg : ¬ w.heap.size = g := fun h => hgR h.symm
  clear cN hw0 hb1 R0 bR
  go_wp2_with fail
  refine (k0 w1 g hR1).mono ?_
  rintro x w2 ⟨rfl, hR2, hO2⟩
  have R2 := R1.only hO2 hRg
  have hbw2 := hbw1.trans (hO2.below (by omega))
  have C3 := Blk.new w2 (cs8 2 0 0 ⟨#[]⟩ 0 0 0 ⟨#[]⟩) 25
  have b3 := below_alloc w2 (.cells (cs8 2 0 0 ⟨#[]⟩ 0 0 0 ⟨#[]⟩) 25)
  have hR3 := hR2.below b3 (Nat.le_refl _)
  have R3 := R2.later b3
  have hbw3 := below_to hbw2 b3
  have hgl := hR2.lt
  have hCg : ¬ w2.heap.size = g := by omega
  have hgC : ¬ g = w2.heap.size := by omega
  have hCR : ¬ w2.heap.size = w.heap.size := by have := R2.lt; omega
  have hRC : ¬ w.heap.size = w2.heap.size := fun h => hCR h.symm
  have hwC : w.heap.size ≤ w2.heap.size := hbw2.size
  clear k0 hR1 hO2 R1 R2 b3 hR2 hbw2 hbw1
  obtain ⟨hl3, c0, c1, c2, c3, c4, c5, c6, c7⟩ := C3.c8
  go_wp2_with fail
  generalize hw3 : w2.alloc (.cells (cs8 2 0 0 ⟨#[]⟩ 0 0 0 ⟨#[]⟩) 25) = w3 at *
  refine (parts_2 w3).mono ?_
  rintro x w4 ⟨rfl, hb⟩
  have hR4 := hR3.below hb (Nat.le_refl _)
  have R4 := R3.later hb
  have C4 := C3.later hb
  have hbw4 := below_to hbw3 hb
  have H5 := Blk.new w4 #[.bool true, .bool true, .bool true] 46
  have b5 := below_alloc w4 (.cells #[.bool true, .bool true, .bool true] 46)
  have hR5 := hR4.below b5 (Nat.le_refl _)
  have R5 := R4.later b5
  have C5 := C4.later b5
  have hbw5 := below_to hbw4 b5
  have hg4 := hR4.lt
  have hC4 := C4.lt
  have hr4 := R4.lt
  have hHg : ¬ w4.heap.size = g := by omega
  have hHC : ¬ w4.heap.size = w2.heap.size := by omega
  have hCH : ¬ w2.heap.size = w4.heap.size := by omega
  clear hl3 c0 c1 c2 c3 c4 c5 c6 c7 hw3 hb hR3 R3 C3 hbw3 b5 hR4 R4 hbw4
  obtain ⟨hHl, m0, m1, m2⟩ := H5.m3
  obtain ⟨hl4, c0, c1, c2, c3, c4, c5, c6, c7⟩ := C5.c8
  go_wp2_with fail
  generalize hw5 : w4.alloc (.cells #[.bool true, .bool true, .bool true] 46) = w5 at *
  clear hw5 C4 hHl m0 m1 m2 hl4 c0 c1 c2 c3 c4 c5 c6 c7
  refine (k1 w5 g hR5).mono ?_
  rintro x w6 ⟨rfl, hR6, hO⟩
  have C6 := C5.only hO hCg
  have R6 := R5.only hO hRg
  have H6 := H5.only hO hHg
  have hbw6 := hbw5.trans (hO.below (by omega))
  clear k1 hO hR5 C5 R5 H5 hbw5
  obtain ⟨hl4, c0, c1, c2, c3, c4, c5, c6, c7⟩ := C6.c8
  obtain ⟨f0, f1, f2, f3, f4, f5, f6, f7⟩ := C6.t8
  obtain ⟨hHl, m0, m1, m2⟩ := H6.m3
  have C7 : Blk (w6.setCell ⟨w2.heap.size, 1, none⟩ (.int .i64 se)) w2.heap.size 25 (cs8 2 se 0 ⟨#[]⟩ 0 0 0 ⟨#[]⟩) := C6.set 1 _
  have hO := Only.one w6 w2.heap.size 1 (.int .i64 se)
  have hR7 := hR6.blk C6 (noU8_8 _ _ _ _ _ _ _ _) hO hgC
  have R7 := R6.only hO hRC
  have H7 := H6.only hO hHC
  have hbw7 := hbw6.trans (hO.below hwC)
  go_wp2_with fail
  generalize hw7 : w6.setCell ⟨w2.heap.size, 1, none⟩ (.int .i64 se) = w7 at *
  clear hw7 hO hR6 C6 R6 H6 hbw6 hl4 c0 c1 c2 c3 c4 c5 c6 c7 f0 f1 f2 f3 f4 f5 f6 f7 hHl m0 m1 m2
  refine (k2 w7 g hR7).mono ?_
  rintro x w8 ⟨rfl, hR8, hO⟩
  have C8 := C7.only hO hCg
  have R8 := R7.only hO hRg
  have H8 := H7.only hO hHg
  have hbw8 := hbw7.trans (hO.below (by omega))
  clear k2 hO hR7 C7 R7 H7 hbw7
  obtain ⟨hl4, c0, c1, c2, c3, c4, c5, c6, c7⟩ := C8.c8
  obtain ⟨f0, f1, f2, f3, f4, f5, f6, f7⟩ := C8.t8
  obtain ⟨hHl, m0, m1, m2⟩ := H8.m3
  have C9 : Blk (w8.setCell ⟨w2.heap.size, 2, none⟩ (.int .i64 sq)) w2.heap.size 25 (cs8 2 se sq ⟨#[]⟩ 0 0 0 ⟨#[]⟩) := C8.set 2 _
  have hO := Only.one w8 w2.heap.size 2 (.int .i64 sq)
  have hR9 := hR8.blk C8 (noU8_8 _ _ _ _ _ _ _ _) hO hgC
  have R9 := R8.only hO hRC
  have H9 := H8.only hO hHC
  have hbw9 := hbw8.trans (hO.below hwC)
  go_wp2_with fail
  generalize hw9 : w8.setCell ⟨w2.heap.size, 2, none⟩ (.int .i64 sq) = w9 at *
  clear hw9 hO hR8 C8 R8 H8 hbw8 hl4 c0 c1 c2 c3 c4 c5 c6 c7 f0 f1 f2 f3 f4 f5 f6 f7 hHl m0 m1 m2
  refine (k3 w9 g hR9).mono ?_
  rintro x w10 ⟨rfl, hR10, hO⟩
  have C10 := C9.only hO hCg
  have R10 := R9.only hO hRg
  have H10 := H9.only hO hHg
  have hbw10 := hbw9.trans (hO.below (by omega))
  clear k3 hO hR9 C9 R9 H9 hbw9
  obtain ⟨hl4, c0, c1, c2, c3, c4, c5, c6, c7⟩ := C10.c8
  obtain ⟨f0, f1, f2, f3, f4, f5, f6, f7⟩ := C10.t8
  obtain ⟨hHl, m0, m1, m2⟩ := H10.m3
  have C11 : Blk (w10.setCell ⟨w2.heap.size, 3, none⟩ (.string f)) w2.heap.size 25 (cs8 2 se sq f 0 0 0 ⟨#[]⟩) := C10.set 3 _
  have hO := Only.one w10 w2.heap.size 3 (.string f)
  have hR11 := hR10.blk C10 (noU8_8 _ _ _ _ _ _ _ _) hO hgC
  have R11 := R10.only hO hRC
  have H11 := H10.only hO hHC
  have hbw11 := hbw10.trans (hO.below hwC)
  go_wp2_with fail
  generalize hw11 : w10.setCell ⟨w2.heap.size, 3, none⟩ (.string f) = w11 at *
  clear hw11 hO hR10 C10 R10 H10 hbw10 hl4 c0 c1 c2 c3 c4 c5 c6 c7 f0 f1 f2 f3 f4 f5 f6 f7 hHl m0 m1 m2
  refine (k4 w11 g hR11).mono ?_
  rintro x w12 ⟨rfl, hR12, hO⟩
  have C12 := C11.only hO hCg
  have R12 := R11.only hO hRg
  have H12 := H11.only hO hHg
  have hbw12 := hbw11.trans (hO.below (by omega))
  clear k4 hO hR11 C11 R11 H11 hbw11
  obtain ⟨hl4, c0, c1, c2, c3, c4, c5, c6, c7⟩ := C12.c8
  obtain ⟨f0, f1, f2, f3, f4, f5, f6, f7⟩ := C12.t8
  obtain ⟨hHl, m0, m1, m2⟩ := H12.m3
  have C13 : Blk (w12.setCell ⟨w2.heap.size, 4, none⟩ (.int .i64 ve)) w2.heap.size 25 (cs8 2 se sq f ve 0 0 ⟨#[]⟩) := C12.set 4 _
  have hO := Only.one w12 w2.heap.size 4 (.int .i64 ve)
  have hR13 := hR12.blk C12 (noU8_8 _ _ _ _ _ _ _ _) hO hgC
  have R13 := R12.only hO hRC
  have H13 := H12.only hO hHC
  have hbw13 := hbw12.trans (hO.below hwC)
  go_wp2_with fail
  generalize hw13 : w12.setCell ⟨w2.heap.size, 4, none⟩ (.int .i64 ve) = w13 at *
  clear hw13 hO hR12 C12 R12 H12 hbw12 hl4 c0 c1 c2 c3 c4 c5 c6 c7 f0 f1 f2 f3 f4 f5 f6 f7 hHl m0 m1 m2
  refine (k5 w13 g hR13 (fun w' o => HT.out.tabs.later (hbw13.trans (o.below (by omega) hbw13.size)))).mono ?_
  rintro x w14 ⟨rfl, hR14, hO⟩
  have C14 := C13.onl hO hCg
  have R14 := R13.onl hO hRg
  have H14 := H13.onl hO hHg
  have hbw14 := hbw13.trans (hO.below (by omega) hbw13.size)
  clear k5 hO hR13 C13 R13 H13 hbw13
  obtain ⟨hl4, c0, c1, c2, c3, c4, c5, c6, c7⟩ := C14.c8
  obtain ⟨f0, f1, f2, f3, f4, f5, f6, f7⟩ := C14.t8
  obtain ⟨hHl, m0, m1, m2⟩ := H14.m3
  have C15 : Blk (((w14.setCell ⟨w2.heap.size, 5, none⟩ (.int .i64 K)).setCell ⟨w2.heap.size, 6, none⟩ (.int .i64 n)).setCell ⟨w2.heap.size, 7, none⟩ (.string s)) w2.heap.size 25 (cs8 2 se sq f ve K n s) := ((C14.set 5 _).set 6 _).set 7 _
  have hO := ((Only.one w14 w2.heap.size 5 (.int .i64 K)).setCell 6 (.int .i64 n)).setCell 7 (.string s)
  have hR15 := hR14.blk C14 (noU8_8 _ _ _ _ _ _ _ _) hO hgC
  have R15 := R14.only hO hRC
  have H15 := H14.only hO hHC
  have hbw15 := hbw14.trans (hO.below hwC)
  go_wp2_with fail
  generalize hw15 : ((w14.setCell ⟨w2.heap.size, 5, none⟩ (.int .i64 K)).setCell ⟨w2.heap.size, 6, none⟩ (.int .i64 n)).setCell ⟨w2.heap.size, 7, none⟩ (.string s) = w15 at *
  clear hw15 hO hR14 C14 R14 H14 hbw14 hl4 c0 c1 c2 c3 c4 c5 c6 c7 f0 f1 f2 f3 f4 f5 f6 f7 hHl m0 m1 m2
  have cE := end_any w0.heap.size g s5 w15 hR15
  clear hR15 H15
  obtain ⟨Z, hZ⟩ : ∃ Z, (!s5.2 && s5.1.length == 0) = Z := ⟨_, rfl⟩
  rw [hZ] at cE
  cases Z with
  | false =>
    have hno := HO.out hZ
    have HNo := Lib.hid hno
    clear hno hZ
    obtain ⟨y0, y1, y2, y3, y4, y5, y6, y7, y8⟩ := R15.c8
    obtain ⟨f0, f1, f2, f3, f4, f5, f6, f7⟩ := R15.t8
    refine cE.mono ?_
    rintro x w8 ⟨rfl, rfl⟩
    have HF := Lib.hid (below_set8 hbw15 (Nat.le_refl _) (.int .i64 0) (.int .i64 0) (.int .i64 0) (.string ⟨#[]⟩) (.int .i64 0) (.int .i64 0) (.int .i64 0) (.string ⟨#[]⟩))
    clear cE hbw15 C15
    go_wp2_with fail
    exact bodyPost_ret (v := .tuple #[V8 0 0 0 ⟨#[]⟩ 0 0 0 ⟨#[]⟩, .bool false]) (by simp [results, Tryz.results15, go_sem, y1, y2, y3, y4, y5, y6, y7, y8]) rfl ⟨by rw [HNo.out] <;> rfl, HF.out⟩
  | true =>
    refine cE.mono ?_
    rintro x w8 ⟨rfl, rfl⟩
    have cC := pcheck_2 se sq f ve K n s HIN.out w15 (HT.out.later hbw15) HF24.out HSZ.out
    obtain ⟨hl4, c0, c1, c2, c3, c4, c5, c6, c7⟩ := C15.c8
    cases hD : cmdB ⟨2, se, sq, f, ve, K, n, s⟩ with
    | false =>
      have hno := HB.out hZ hD
      have HNo := Lib.hid hno
      rw [hD] at cC
      clear hno hZ cE hD
      go_wp2_with fail
      refine cC.mono ?_
      rintro x w8 ⟨rfl, hb8⟩
      have R8 := R15.later hb8
      have hbw8 := below_to hbw15 hb8
      obtain ⟨y0, y1, y2, y3, y4, y5, y6, y7, y8⟩ := R8.c8
      obtain ⟨f0, f1, f2, f3, f4, f5, f6, f7⟩ := R8.t8
      have HF := Lib.hid (below_set8 hbw8 (Nat.le_refl _) (.int .i64 0) (.int .i64 0) (.int .i64 0) (.string ⟨#[]⟩) (.int .i64 0) (.int .i64 0) (.int .i64 0) (.string ⟨#[]⟩))
      clear cC hbw15 C15 hl4 c0 c1 c2 c3 c4 c5 c6 c7 R15 R8 hb8 hbw8
      go_wp2_with fail
      exact bodyPost_ret (v := .tuple #[V8 0 0 0 ⟨#[]⟩ 0 0 0 ⟨#[]⟩, .bool false]) (by simp [results, Tryz.results15, go_sem, y1, y2, y3, y4, y5, y6, y7, y8]) rfl ⟨by rw [HNo.out] <;> rfl, HF.out⟩
    | true =>
      have hyes := HY.out hZ hD
      have HNo := Lib.hid hyes
      rw [hD] at cC
      clear hyes hZ cE hD
      go_wp2_with fail
      refine cC.mono ?_
      rintro x w8 ⟨rfl, hb8⟩
      have R8 := R15.later hb8
      have C8 := C15.later hb8
      have hbw8 := below_to hbw15 hb8
      clear hl4 c0 c1 c2 c3 c4 c5 c6 c7
      obtain ⟨hl4, c0, c1, c2, c3, c4, c5, c6, c7⟩ := C8.c8
      obtain ⟨y0, y1, y2, y3, y4, y5, y6, y7, y8⟩ := R8.c8
      obtain ⟨f0, f1, f2, f3, f4, f5, f6, f7⟩ := R8.t8
      have HF := Lib.hid (below_set8 hbw8 (Nat.le_refl _) (.int .i64 2) (.int .i64 se) (.int .i64 sq) (.string f) (.int .i64 ve) (.int .i64 K) (.int .i64 n) (.string s))
      clear cC hbw15 C15 R15 R8 C8 hb8 hbw8
      go_wp2_with fail
      exact bodyPost_ret (v := .tuple #[V8 2 se sq f ve K n s, .bool true]) (by simp [results, Tryz.results15, go_sem, y1, y2, y3, y4, y5, y6, y7, y8]) rfl ⟨by rw [HNo.out] <;> rfl, HF.out⟩
end Go.Proofs.YtkbeemkmcnfiiaaGreatDoor
