/- The contract of the document's own Get of a command, by kinds. Printed by gen/cmrget.py. -/
import Derived.Test.YtkbeemkmcnfiiaaGreatDoorMCmAny
import Derived.Test.YtkbeemkmcnfiiaaGreatDoorMRdEnd
namespace Go.Proofs.YtkbeemkmcnfiiaaGreatDoor
open Go.RowKit


set_option maxHeartbeats 2000000 in
set_option maxRecDepth 100000 in
theorem rgetc_1 (A : Option Addr) (L : List UInt8) (cap : Nat) (w : World) (hk : (stI (L, false)).1 = 1) (hl : L.length ≤ 140737488355328) (hlc : L.length ≤ cap) (hB : Bs w A L) (hT : Env7 w) :
    Calls Tryz.prog 18 #[.slice A L.length cap] w (GotC w (getC L)) := by
  have bR := below_alloc w (.cells (cs8 0 0 0 ⟨#[]⟩ 0 0 0 ⟨#[]⟩) 25)
  have R0 := Blk.new w (cs8 0 0 0 ⟨#[]⟩ 0 0 0 ⟨#[]⟩) 25
  have hz : (w.alloc (.cells (cs8 0 0 0 ⟨#[]⟩ 0 0 0 ⟨#[]⟩) 25)).heap.size = w.heap.size + 1 := by simp
  obtain ⟨w0, hw0⟩ : ∃ w0, w.alloc (.cells (cs8 0 0 0 ⟨#[]⟩ 0 0 0 ⟨#[]⟩) 25) = w0 := ⟨_, rfl⟩
  rw [hw0] at bR R0 hz
  have hR1 := RR.first (w := w0) (hB.below bR) hlc hl 65 rfl
  have bg := below_alloc w0 (.cells #[.slice A L.length cap, .int .i64 0, .bool false] 65)
  have bC := below_alloc (w0.alloc (.cells #[.slice A L.length cap, .int .i64 0, .bool false] 65)) (.cells (cs8 0 0 0 ⟨#[]⟩ 0 0 0 ⟨#[]⟩) 25)
  have C2 := Blk.new (w0.alloc (.cells #[.slice A L.length cap, .int .i64 0, .bool false] 65)) (cs8 0 0 0 ⟨#[]⟩ 0 0 0 ⟨#[]⟩) 25
  have hz2 : (w0.alloc (.cells #[.slice A L.length cap, .int .i64 0, .bool false] 65)).heap.size = w0.heap.size + 1 := by simp
  have hR2 := hR1.later bC
  have R2 := (R0.later bg).later bC
  have hbw2 := below_to (below_to bR bg) bC
  rw [hz2] at C2
  have hgR : ¬ w0.heap.size = w.heap.size := by omega
  have hRg : ¬ w.heap.size = w0.heap.size := by omega
  have hCg : ¬ w0.heap.size + 1 = w0.heap.size := by omega
  have hgC : ¬ w0.heap.size = w0.heap.size + 1 := by omega
  have hCR : ¬ w0.heap.size + 1 = w.heap.size := by omega
  have hRC : ¬ w.heap.size = w0.heap.size + 1 := by omega
  have hwg : w.heap.size ≤ w0.heap.size := by omega
  have hwC : w.heap.size ≤ w0.heap.size + 1 := by omega
  have hgo : w.heap.size ≤ w.heap.size := Nat.le_refl _
  have k0 := fun w g h => refrint_any g (L, false) w h
  have z0 := stI_lo (L, false)
  have hG : getC L = endC (rdC (stI (L, false)).1 (stI (L, false)).2) := rfl
  simp only [hk] at k0 z0 hG
  obtain ⟨s0, hs0⟩ : ∃ s0, (stI (L, false)).2 = s0 := ⟨_, rfl⟩
  simp only [hs0] at k0 hG
  rw [rdC_1] at hG
  unfold rd1 at hG
  have zl : (-9223372036854775808 : Int) ≤ 0 := by decide
  have zh : (0 : Int) ≤ 9223372036854775807 := by decide
  have hin : Cm.In ⟨1, 0, 0, (txt []), 0, 0, 0, (txt [])⟩ := ⟨z0.1, z0.2, zl, zh, zl, zh, zl, zh, zl, zh, zl, zh⟩
  rw [show getC L = endC (⟨1, 0, 0, (txt []), 0, 0, 0, (txt [])⟩, s0) from hG]
  obtain ⟨ko, kb, ky⟩ := endC_of ⟨1, 0, 0, (txt []), 0, 0, 0, (txt [])⟩ s0
  have HO := Lib.hid ko
  have HB := Lib.hid kb
  have HY := Lib.hid ky
  have HIN := Lib.hid hin
  have HT := Lib.hid hT
  clear hG hin hT hB hlc zl zh hR1 bg bC hz hz2 R0 bR ko kb ky hs0 z0 hk
  go_enter Tryz.func18, Tryz.ntmps18
  obtain ⟨hl4, c0, c1, c2, c3, c4, c5, c6, c7⟩ := C2.c8
  go_wp2_with fail
  generalize hw2 : (w0.alloc (.cells #[.slice A L.length cap, .int .i64 0, .bool false] 65)).alloc (.cells (cs8 0 0 0 ⟨#[]⟩ 0 0 0 ⟨#[]⟩) 25) = w2 at *
  clear hw2 hw0 hl4 c0 c1 c2 c3 c4 c5 c6 c7
  refine (k0 w2 _ hR2).mono ?_
  rintro x w3 ⟨rfl, hR3, hO⟩
  have C3 := C2.only hO hCg
  have R3 := R2.only hO hRg
  have hbw3 := hbw2.trans (hO.below hwg)
  clear k0 hO hR2 C2 R2 hbw2
  obtain ⟨hl4, c0, c1, c2, c3, c4, c5, c6, c7⟩ := C3.c8
  obtain ⟨f0, f1, f2, f3, f4, f5, f6, f7⟩ := C3.t8
  have C4 : Blk (w3.setCell ⟨w0.heap.size + 1, 0, none⟩ (.int .i64 1)) (w0.heap.size + 1) 25 (cs8 1 0 0 ⟨#[]⟩ 0 0 0 ⟨#[]⟩) := C3.set 0 _
  have hO := Only.one w3 (w0.heap.size + 1) 0 (.int .i64 1)
  have hR4 := hR3.blk C3 (noU8_8 _ _ _ _ _ _ _ _) hO hgC
  have R4 := R3.only hO hRC
  have hbw4 := hbw3.trans (hO.below hwC)
  go_wp2_with fail
  generalize hw4 : w3.setCell ⟨w0.heap.size + 1, 0, none⟩ (.int .i64 1) = w4 at *
  clear hw4 hO hR3 C3 R3 hbw3 hl4 c0 c1 c2 c3 c4 c5 c6 c7 f0 f1 f2 f3 f4 f5 f6 f7
  have cE := refend_any _ s0 w4 hR4
  clear hR4
  obtain ⟨Z, hZ⟩ : ∃ Z, (!s0.2 && s0.1.length == 0) = Z := ⟨_, rfl⟩
  rw [hZ] at cE
  cases Z with
  | false =>
    have HNo := Lib.hid (HO.out hZ)
    clear hZ
    refine cE.mono ?_
    rintro x wE ⟨rfl, dn, rfl⟩
    have hbn := below_drewN (Below.refl w4.heap.size w4) dn
    have RE := R4.later hbn
    have hbwE := below_to hbw4 hbn
    obtain ⟨y0, y1, y2, y3, y4, y5, y6, y7, y8⟩ := RE.c8
    obtain ⟨f0, f1, f2, f3, f4, f5, f6, f7⟩ := RE.t8
    have HF := Lib.hid (below_set8 hbwE (Nat.le_refl _) (.int .i64 0) (.int .i64 0) (.int .i64 0) (.string ⟨#[]⟩) (.int .i64 0) (.int .i64 0) (.int .i64 0) (.string ⟨#[]⟩))
    clear cE hbw4 C4 R4 RE hbwE hbn
    generalize w4.drewN dn = wE at *
    go_wp2_with fail
    exact bodyPost_ret (v := .tuple #[V8 0 0 0 ⟨#[]⟩ 0 0 0 ⟨#[]⟩, .bool false]) (by simp [results, Tryz.results18, go_sem, y1, y2, y3, y4, y5, y6, y7, y8]) rfl ⟨by rw [HNo.out] <;> rfl, HF.out⟩
  | true =>
    refine cE.mono ?_
    rintro x wE ⟨rfl, dn, rfl⟩
    have hbn := below_drewN (Below.refl w4.heap.size w4) dn
    have RE := R4.later hbn
    have CE := C4.later hbn
    have hbwE := below_to hbw4 hbn
    clear cE hbw4 C4 R4 hbn
    generalize w4.drewN dn = wE at *
    have cC := rcheck_any ⟨1, 0, 0, (txt []), 0, 0, 0, (txt [])⟩ HIN.out wE (HT.out.later hbwE) (show (txt []).size ≤ 9223372036854775807 by decide)
    dsimp only [Cm.v] at cC
    obtain ⟨hl4, c0, c1, c2, c3, c4, c5, c6, c7⟩ := CE.c8
    cases hD : cmdB ⟨1, 0, 0, (txt []), 0, 0, 0, (txt [])⟩ with
    | false =>
      have HNo := Lib.hid (HB.out hZ hD)
      rw [hD] at cC
      clear hZ hD
      go_wp2_with fail
      refine cC.mono ?_
      rintro x wF ⟨rfl, hbF⟩
      have RF := RE.later hbF
      have hbwF := below_to hbwE hbF
      obtain ⟨y0, y1, y2, y3, y4, y5, y6, y7, y8⟩ := RF.c8
      obtain ⟨f0, f1, f2, f3, f4, f5, f6, f7⟩ := RF.t8
      have HF := Lib.hid (below_set8 hbwF (Nat.le_refl _) (.int .i64 0) (.int .i64 0) (.int .i64 0) (.string ⟨#[]⟩) (.int .i64 0) (.int .i64 0) (.int .i64 0) (.string ⟨#[]⟩))
      clear cC hbwE CE hl4 c0 c1 c2 c3 c4 c5 c6 c7 RE RF hbF hbwF
      go_wp2_with fail
      exact bodyPost_ret (v := .tuple #[V8 0 0 0 ⟨#[]⟩ 0 0 0 ⟨#[]⟩, .bool false]) (by simp [results, Tryz.results18, go_sem, y1, y2, y3, y4, y5, y6, y7, y8]) rfl ⟨by rw [HNo.out] <;> rfl, HF.out⟩
    | true =>
      have HNo := Lib.hid (HY.out hZ hD)
      rw [hD] at cC
      clear hZ hD
      go_wp2_with fail
      refine cC.mono ?_
      rintro x wF ⟨rfl, hbF⟩
      have RF := RE.later hbF
      have CF := CE.later hbF
      have hbwF := below_to hbwE hbF
      clear hl4 c0 c1 c2 c3 c4 c5 c6 c7
      obtain ⟨hl4, c0, c1, c2, c3, c4, c5, c6, c7⟩ := CF.c8
      obtain ⟨y0, y1, y2, y3, y4, y5, y6, y7, y8⟩ := RF.c8
      obtain ⟨f0, f1, f2, f3, f4, f5, f6, f7⟩ := RF.t8
      have HF := Lib.hid (below_set8 hbwF (Nat.le_refl _) (.int .i64 1) (.int .i64 0) (.int .i64 0) (.string ⟨#[]⟩) (.int .i64 0) (.int .i64 0) (.int .i64 0) (.string ⟨#[]⟩))
      clear cC hbwE CE RE RF CF hbF hbwF
      go_wp2_with fail
      exact bodyPost_ret (v := .tuple #[V8 1 0 0 ⟨#[]⟩ 0 0 0 ⟨#[]⟩, .bool true]) (by simp [results, Tryz.results18, go_sem, y1, y2, y3, y4, y5, y6, y7, y8]) rfl ⟨by rw [HNo.out] <;> rfl, HF.out⟩
end Go.Proofs.YtkbeemkmcnfiiaaGreatDoor
