/- The contract of the document's own GetReply. -/
import Derived.Test.YtindkpfmflcibaaGreatDoorMRpG
import Derived.Test.YtindkpfmflcibaaGreatDoorMRdEnd
namespace Go.Proofs.YtindkpfmflcibaaGreatDoor
open Go.RowKit

set_option maxHeartbeats 2000000 in
set_option maxRecDepth 100000 in
theorem rgetr_any (A : Option Addr) (L : List UInt8) (cap : Nat) (w : World) (hl : L.length ≤ 140737488355328) (hlc : L.length ≤ cap) (hB : Bs w A L) :
    Calls Tryz.prog 44 #[.slice A L.length cap] w (GotP w (getP L)) := by
  have bR := below_alloc w (.cells (cs5 0 0 0 0 ⟨#[]⟩) 34)
  have R0 := Blk.new w (cs5 0 0 0 0 ⟨#[]⟩) 34
  have hz : (w.alloc (.cells (cs5 0 0 0 0 ⟨#[]⟩) 34)).heap.size = w.heap.size + 1 := by simp
  obtain ⟨w0, hw0⟩ : ∃ w0, w.alloc (.cells (cs5 0 0 0 0 ⟨#[]⟩) 34) = w0 := ⟨_, rfl⟩
  rw [hw0] at bR R0 hz
  have hR1 := RR.first (w := w0) (hB.below bR) hlc hl 63 rfl
  have bg := below_alloc w0 (.cells #[.slice A L.length cap, .int .i64 0, .bool false] 63)
  have bC := below_alloc (w0.alloc (.cells #[.slice A L.length cap, .int .i64 0, .bool false] 63)) (.cells (cs5 0 0 0 0 ⟨#[]⟩) 34)
  have C2 := Blk.new (w0.alloc (.cells #[.slice A L.length cap, .int .i64 0, .bool false] 63)) (cs5 0 0 0 0 ⟨#[]⟩) 34
  have hz2 : (w0.alloc (.cells #[.slice A L.length cap, .int .i64 0, .bool false] 63)).heap.size = w0.heap.size + 1 := by simp
  have hR2 := hR1.later bC
  have R2 := (R0.later bg).later bC
  have hbw2 := below_to (below_to bR bg) bC
  rw [hz2] at C2
  have hgR : ¬ w0.heap.size = w.heap.size := by omega
  have hRg : ¬ w.heap.size = w0.heap.size := by omega
  have hCg : ¬ w0.heap.size + 1 = w0.heap.size := by omega
  have hgC : ¬ w0.heap.size = w0.heap.size + 1 := by omega
  have hCR : ¬ w0.heap.size + 1 = w.heap.size := by omega
  have hRC : ¬ w.heap.size = w0.heap.size + 1 := by omega
  have hwg : w.heap.size ≤ w0.heap.size := by omega
  have hwC : w.heap.size ≤ w0.heap.size + 1 := by omega
  have ci := fun w g h => refrint_any g (L, false) w h
  obtain ⟨e, he⟩ : ∃ e, (stI (L, false)).1 = e := ⟨_, rfl⟩
  obtain ⟨s1, hs1⟩ : ∃ s1, (stI (L, false)).2 = s1 := ⟨_, rfl⟩
  simp only [he, hs1] at ci
  have cj := fun w g h => refrint_any g s1 w h
  obtain ⟨n, hn⟩ : ∃ n, (stI s1).1 = n := ⟨_, rfl⟩
  obtain ⟨s2, hs2⟩ : ∃ s2, (stI s1).2 = s2 := ⟨_, rfl⟩
  simp only [hn, hs2] at cj
  have cg := fun w g h => refget_any g s2 w h
  unfold GotR at cg
  obtain ⟨K, hK⟩ : ∃ K, (getS s2).1.1 = K := ⟨_, rfl⟩
  obtain ⟨m, hm⟩ : ∃ m, (getS s2).1.2.1 = m := ⟨_, rfl⟩
  obtain ⟨t, ht⟩ : ∃ t : ByteArray, (⟨(getS s2).1.2.2.toArray⟩ : ByteArray) = t := ⟨_, rfl⟩
  obtain ⟨s3, hs3⟩ : ∃ s3, (getS s2).2 = s3 := ⟨_, rfl⟩
  simp only [hK, hm, ht, hs3] at cg
  have hrd : rdP (L, false) = (⟨e, n, K, m, t⟩, s3) := by
    unfold rdP
    rw [he, hs1, hn, hs2, hK, hm, hs3]
    show ((⟨e, n, K, m, (⟨(getS s2).1.2.2.toArray⟩ : ByteArray)⟩ : Rp), s3) = _
    rw [ht]
  have hin : Rp.In ⟨e, n, K, m, t⟩ := by
    have z := stI_lo (L, false)
    have z1 := stI_lo s1
    have g := getS_in s2
    rw [he] at z
    rw [hn] at z1
    rw [hK, hm] at g
    exact ⟨z.1, z.2, z1.1, z1.2, g.2.2.1, g.2.2.2, g.1, g.2.1⟩
  obtain ⟨ko, kb, ky⟩ := getP_of hrd
  have HO := Lib.hid ko
  have HB := Lib.hid kb
  have HY := Lib.hid ky
  have HIN := Lib.hid hin
  clear he hs1 hn hs2 hK hm ht hs3 hrd hin ko kb ky hB hR1 bg bC hz hz2 R0 bR
  go_enter Tryz.func44, Tryz.ntmps44
  obtain ⟨hl4, c0, c1, c2, c3, c4⟩ := C2.c5
  go_wp2_with fail
  generalize hw2 : (w0.alloc (.cells #[.slice A L.length cap, .int .i64 0, .bool false] 63)).alloc (.cells (cs5 0 0 0 0 ⟨#[]⟩) 34) = w2 at *
  clear hw2 hw0 hl4 c0 c1 c2 c3 c4
  refine (ci w2 _ hR2).mono ?_
  rintro x w3 ⟨rfl, hR3, hO⟩
  have C3 := C2.only hO hCg
  have R3 := R2.only hO hRg
  have hbw3 := hbw2.trans (hO.below hwg)
  clear ci hO hR2 C2 R2 hbw2
  obtain ⟨hl4, c0, c1, c2, c3, c4⟩ := C3.c5
  obtain ⟨f0, f1, f2, f3, f4, -, -, -⟩ := C3.t8
  have C4 : Blk (w3.setCell ⟨w0.heap.size + 1, 0, none⟩ (.int .i64 e)) (w0.heap.size + 1) 34 (cs5 e 0 0 0 ⟨#[]⟩) := C3.set 0 _
  have hO := Only.one w3 (w0.heap.size + 1) 0 (.int .i64 e)
  have hR4 := hR3.blk C3 (noU8_5 _ _ _ _ _) hO hgC
  have R4 := R3.only hO hRC
  have hbw4 := hbw3.trans (hO.below hwC)
  go_wp2_with fail
  generalize hw4 : w3.setCell ⟨w0.heap.size + 1, 0, none⟩ (.int .i64 e) = w4 at *
  clear hw4 hO hR3 C3 R3 hbw3 hl4 c0 c1 c2 c3 c4 f0 f1 f2 f3 f4
  refine (cj w4 _ hR4).mono ?_
  rintro x w5 ⟨rfl, hR5, hO⟩
  have C5 := C4.only hO hCg
  have R5 := R4.only hO hRg
  have hbw5 := hbw4.trans (hO.below hwg)
  clear cj hO hR4 C4 R4 hbw4
  obtain ⟨hl4, c0, c1, c2, c3, c4⟩ := C5.c5
  obtain ⟨f0, f1, f2, f3, f4, -, -, -⟩ := C5.t8
  have C6 : Blk (w5.setCell ⟨w0.heap.size + 1, 1, none⟩ (.int .i64 n)) (w0.heap.size + 1) 34 (cs5 e n 0 0 ⟨#[]⟩) := C5.set 1 _
  have hO := Only.one w5 (w0.heap.size + 1) 1 (.int .i64 n)
  have hR6 := hR5.blk C5 (noU8_5 _ _ _ _ _) hO hgC
  have R6 := R5.only hO hRC
  have hbw6 := hbw5.trans (hO.below hwC)
  go_wp2_with fail
  generalize hw6 : w5.setCell ⟨w0.heap.size + 1, 1, none⟩ (.int .i64 n) = w6 at *
  clear hw6 hO hR5 C5 R5 hbw5 hl4 c0 c1 c2 c3 c4 f0 f1 f2 f3 f4
  refine (cg w6 _ hR6).mono ?_
  rintro x w7 ⟨rfl, hR7, hO⟩
  have C7 := C6.onl hO hCg
  have R7 := R6.onl hO hRg
  have hbw7 := hbw6.trans (hO.below hwg hbw6.size)
  clear cg hO hR6 C6 R6 hbw6
  obtain ⟨hl4, c0, c1, c2, c3, c4⟩ := C7.c5
  obtain ⟨f0, f1, f2, f3, f4, -, -, -⟩ := C7.t8
  have C8 : Blk (((w7.setCell ⟨w0.heap.size + 1, 2, none⟩ (.int .i64 K)).setCell ⟨w0.heap.size + 1, 3, none⟩ (.int .i64 m)).setCell ⟨w0.heap.size + 1, 4, none⟩ (.string t)) (w0.heap.size + 1) 34 (cs5 e n K m t) := ((C7.set 2 _).set 3 _).set 4 _
  have hO := ((Only.one w7 (w0.heap.size + 1) 2 (.int .i64 K)).setCell 3 (.int .i64 m)).setCell 4 (.string t)
  have hR8 := hR7.blk C7 (noU8_5 _ _ _ _ _) hO hgC
  have R8 := R7.only hO hRC
  have hbw8 := hbw7.trans (hO.below hwC)
  go_wp2_with fail
  generalize hw8 : ((w7.setCell ⟨w0.heap.size + 1, 2, none⟩ (.int .i64 K)).setCell ⟨w0.heap.size + 1, 3, none⟩ (.int .i64 m)).setCell ⟨w0.heap.size + 1, 4, none⟩ (.string t) = w8 at *
  have cE := refend_any _ s3 w8 hR8
  clear hw8 hO hR7 C7 R7 hbw7 hl4 c0 c1 c2 c3 c4 f0 f1 f2 f3 f4 hR8
  obtain ⟨Z, hZ⟩ : ∃ Z, (!s3.2 && s3.1.length == 0) = Z := ⟨_, rfl⟩
  rw [hZ] at cE
  cases Z with
  | false =>
    have HNo := Lib.hid (HO.out hZ)
    clear hZ
    refine cE.mono ?_
    rintro x w9 ⟨rfl, dn, rfl⟩
    have hbn := below_drewN (Below.refl w8.heap.size w8) dn
    have R9 := R8.later hbn
    have hbw9 := below_to hbw8 hbn
    obtain ⟨y0, y1, y2, y3, y4, y5⟩ := R9.c5
    obtain ⟨f0, f1, f2, f3, f4, -, -, -⟩ := R9.t8
    have HF := Lib.hid (below_set5 hbw9 (Nat.le_refl _) (.int .i64 0) (.int .i64 0) (.int .i64 0) (.int .i64 0) (.string ⟨#[]⟩))
    clear cE hbw8 C8 R8 R9 hbw9 hbn
    generalize w8.drewN dn = w9 at *
    go_wp2_with fail
    exact bodyPost_ret (v := .tuple #[V5 0 0 0 0 ⟨#[]⟩, .bool false]) (by simp [results, Tryz.results44, go_sem, y1, y2, y3, y4, y5]) rfl ⟨by rw [HNo.out] <;> rfl, HF.out⟩
  | true =>
    refine cE.mono ?_
    rintro x w9 ⟨rfl, dn, rfl⟩
    have hbn := below_drewN (Below.refl w8.heap.size w8) dn
    have R9 := R8.later hbn
    have C9 := C8.later hbn
    have hbw9 := below_to hbw8 hbn
    clear cE hbw8 C8 R8 hbn
    generalize w8.drewN dn = w9 at *
    have cC := rreply_any ⟨e, n, K, m, t⟩ HIN.out w9
    dsimp only at cC
    obtain ⟨hl7, c0, c1, c2, c3, c4⟩ := C9.c5
    cases hD : repB ⟨e, n, K, m, t⟩ with
    | false =>
      have HNo := Lib.hid (HB.out hZ hD)
      rw [hD] at cC
      clear hZ hD
      go_wp2_with fail
      refine cC.mono ?_
      rintro x w8 ⟨rfl, hb8⟩
      have R8 := R9.later hb8
      have hbw8 := below_to hbw9 hb8
      obtain ⟨y0, y1, y2, y3, y4, y5⟩ := R8.c5
      obtain ⟨f0, f1, f2, f3, f4, -, -, -⟩ := R8.t8
      have HF := Lib.hid (below_set5 hbw8 (Nat.le_refl _) (.int .i64 0) (.int .i64 0) (.int .i64 0) (.int .i64 0) (.string ⟨#[]⟩))
      clear cC hbw9 C9 hl7 c0 c1 c2 c3 c4 R8 R9 hb8 hbw8
      go_wp2_with fail
      exact bodyPost_ret (v := .tuple #[V5 0 0 0 0 ⟨#[]⟩, .bool false]) (by simp [results, Tryz.results44, go_sem, y1, y2, y3, y4, y5]) rfl ⟨by rw [HNo.out] <;> rfl, HF.out⟩
    | true =>
      have HNo := Lib.hid (HY.out hZ hD)
      rw [hD] at cC
      clear hZ hD
      go_wp2_with fail
      refine cC.mono ?_
      rintro x w8 ⟨rfl, hb8⟩
      have R8 := R9.later hb8
      have C8 := C9.later hb8
      have hbw8 := below_to hbw9 hb8
      clear hl7 c0 c1 c2 c3 c4
      obtain ⟨hl7, c0, c1, c2, c3, c4⟩ := C8.c5
      obtain ⟨y0, y1, y2, y3, y4, y5⟩ := R8.c5
      obtain ⟨f0, f1, f2, f3, f4, -, -, -⟩ := R8.t8
      have HF := Lib.hid (below_set5 hbw8 (Nat.le_refl _) (.int .i64 e) (.int .i64 n) (.int .i64 K) (.int .i64 m) (.string t))
      clear cC hbw9 C9 R8 R9 C8 hb8 hbw8
      go_wp2_with fail
      exact bodyPost_ret (v := .tuple #[V5 e n K m t, .bool true]) (by simp [results, Tryz.results44, go_sem, y1, y2, y3, y4, y5]) rfl ⟨by rw [HNo.out] <;> rfl, HF.out⟩
end Go.Proofs.YtindkpfmflcibaaGreatDoor
