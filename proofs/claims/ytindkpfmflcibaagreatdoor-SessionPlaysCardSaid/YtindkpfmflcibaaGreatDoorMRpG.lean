/- The contract of cmd.GetReply: what any bytes say. -/
import Derived.Test.YtindkpfmflcibaaGreatDoorMRpK
namespace Go.Proofs.YtindkpfmflcibaaGreatDoor
open Go.RowKit

def GotP (w : World) (p : Rp × Bool) (e : Ending) (w' : World) : Prop := e = .returned (.tuple #[V5 p.1.e p.1.n p.1.K p.1.m p.1.s, .bool p.2]) ∧ Below w.heap.size w w'
theorem below_setQ {w w8 : World} {R : Nat} (h : Below w.heap.size w w8) (hR : w.heap.size ≤ R) (i : Nat) (u : Value) : Below w.heap.size w (w8.setCell ⟨R, i, none⟩ u) := h.trans ((Only.one _ _ _ _).below hR)
theorem below_set5 {w w8 : World} {R : Nat} (h : Below w.heap.size w w8) (hR : w.heap.size ≤ R) (a b c d e : Value) :
    Below w.heap.size w (((((w8.setCell ⟨R, 0, none⟩ a).setCell ⟨R, 1, none⟩ b).setCell ⟨R, 2, none⟩ c).setCell ⟨R, 3, none⟩ d).setCell ⟨R, 4, none⟩ e) :=
  below_setQ (below_setQ (below_setQ (below_setQ (below_setQ h hR _ _) hR _ _) hR _ _) hR _ _) hR _ _
/-- A reply is read of bytes that may be its own: what comes of the names. -/
theorem getP_of {L : List UInt8} {e n K m : Int} {t : ByteArray} {s3 : St} (h : rdP (L, false) = (⟨e, n, K, m, t⟩, s3)) :
    ((!s3.2 && s3.1.length == 0) = false → getP L = (Rp.zero, false)) ∧ ((!s3.2 && s3.1.length == 0) = true → repB ⟨e, n, K, m, t⟩ = false → getP L = (Rp.zero, false)) ∧
    ((!s3.2 && s3.1.length == 0) = true → repB ⟨e, n, K, m, t⟩ = true → getP L = (⟨e, n, K, m, t⟩, true)) := by
  refine ⟨fun h1 => getP_no fun k => ?_, fun _ h2 => getP_no fun k => ?_, fun h1 h2 => ?_⟩
  · rw [h] at k
    dsimp only at k
    rw [k.1.1, k.1.2] at h1
    cases h1
  · rw [h] at k
    rw [h2] at k
    cases k.2
  · simp only [Bool.and_eq_true, Bool.not_eq_true', beq_iff_eq] at h1
    rw [getP_yes (by rw [h]; exact h1.1) (by rw [h]; exact List.eq_nil_of_length_eq_zero h1.2) (by rw [h]; exact h2), h]

set_option maxHeartbeats 2000000 in
set_option maxRecDepth 100000 in
theorem pgetr_any (A : Option Addr) (L : List UInt8) (cap : Nat) (w : World) (hl : L.length ≤ 140737488355328) (hB : Bs w A L) (hcap : A = none → cap = 0) (hT : Tabs w) :
    Calls Tryz.prog 79 #[.slice A L.length cap] w (GotP w (getP L)) := by
  have bR := below_alloc w (.cells (cs5 0 0 0 0 ⟨#[]⟩) 34)
  have R0 := Blk.new w (cs5 0 0 0 0 ⟨#[]⟩) 34
  have hz : (w.alloc (.cells (cs5 0 0 0 0 ⟨#[]⟩) 34)).heap.size = w.heap.size + 1 := by simp
  obtain ⟨w0, hw0⟩ : ∃ w0, w.alloc (.cells (cs5 0 0 0 0 ⟨#[]⟩) 34) = w0 := ⟨_, rfl⟩
  rw [hw0] at bR R0 hz
  have cN := new_any A L cap w0 hl (hB.below bR) hcap
  have ci := fun w g h => int_any w0.heap.size g (L, false) w h
  obtain ⟨e, he⟩ : ∃ e, (stI (L, false)).1 = e := ⟨_, rfl⟩
  obtain ⟨s1, hs1⟩ : ∃ s1, (stI (L, false)).2 = s1 := ⟨_, rfl⟩
  simp only [he, hs1] at ci
  have cj := fun w g h => int_any w0.heap.size g s1 w h
  obtain ⟨n, hn⟩ : ∃ n, (stI s1).1 = n := ⟨_, rfl⟩
  obtain ⟨s2, hs2⟩ : ∃ s2, (stI s1).2 = s2 := ⟨_, rfl⟩
  simp only [hn, hs2] at cj
  have cg := fun w g h hT => get_any w0.heap.size g s2 w h hT
  unfold GotV at cg
  obtain ⟨K, hK⟩ : ∃ K, (getS s2).1.1 = K := ⟨_, rfl⟩
  obtain ⟨m, hm⟩ : ∃ m, (getS s2).1.2.1 = m := ⟨_, rfl⟩
  obtain ⟨t, ht⟩ : ∃ t : ByteArray, (⟨(getS s2).1.2.2.toArray⟩ : ByteArray) = t := ⟨_, rfl⟩
  obtain ⟨s3, hs3⟩ : ∃ s3, (getS s2).2 = s3 := ⟨_, rfl⟩
  simp only [hK, hm, ht, hs3] at cg
  have hrd : rdP (L, false) = (⟨e, n, K, m, t⟩, s3) := by
    unfold rdP
    rw [he, hs1, hn, hs2, hK, hm, hs3]
    show ((⟨e, n, K, m, (⟨(getS s2).1.2.2.toArray⟩ : ByteArray)⟩ : Rp), s3) = _
    rw [ht]
  have hin : Rp.In ⟨e, n, K, m, t⟩ := by
    have z := stI_lo (L, false)
    have z1 := stI_lo s1
    have g := getS_in s2
    rw [he] at z
    rw [hn] at z1
    rw [hK, hm] at g
    exact ⟨z.1, z.2, z1.1, z1.2, g.2.2.1, g.2.2.2, g.1, g.2.1⟩
  have htz : t.size < 9223372036854775807 := by
    have := getS_len s2
    rw [← ht]
    show (getS s2).1.2.2.toArray.size < _
    rw [List.size_toArray]; omega
  obtain ⟨ko, kb, ky⟩ := getP_of hrd
  have HO := Lib.hid ko
  have HB := Lib.hid kb
  have HY := Lib.hid ky
  have HIN := Lib.hid hin
  have HTZ := Lib.hid htz
  have HT := Lib.hid hT
  clear he hs1 hn hs2 hK hm ht hs3 hrd hin htz ko kb ky hT hB hcap
  go_enter Tryz.func79, Tryz.ntmps79
  go_wp2_with fail
  refine cN.mono ?_
  rintro x w1 ⟨g, rfl, hR1, hb1⟩
  have R1 := R0.later hb1
  have hbw1 := below_to bR hb1
  have hgN : w.heap.size + 1 ≤ g := by have := hR1.1; omega
  have hgR : ¬ g = w.heap.size := by omega
  clear cN hw0 hb1 R0 bR
  go_wp2_with fail
  refine (ci w1 g hR1).mono ?_
  rintro x w2 ⟨rfl, hR2, hO2⟩
  have R2 := R1.only hO2 (by omega)
  have hbw2 := hbw1.trans (hO2.below (by omega))
  have C3 := Blk.new w2 (cs5 e 0 0 0 ⟨#[]⟩) 34
  have b3 := below_alloc w2 (.cells (cs5 e 0 0 0 ⟨#[]⟩) 34)
  have hR3 := hR2.below b3 (Nat.le_refl _)
  have R3 := R2.later b3
  have hbw3 := below_to hbw2 b3
  have hgl := hR2.lt
  have hCg : ¬ w2.heap.size = g := by omega
  have hgC : ¬ g = w2.heap.size := by omega
  have hCR : ¬ w2.heap.size = w.heap.size := by have := R2.lt; omega
  have hRC : ¬ w.heap.size = w2.heap.size := fun h => hCR h.symm
  have hwC : w.heap.size ≤ w2.heap.size := hbw2.size
  clear ci hR1 hO2 R1 R2 b3 hR2 hbw2 hbw1
  go_wp2_with fail
  generalize hw3 : w2.alloc (.cells (cs5 e 0 0 0 ⟨#[]⟩) 34) = w3 at *
  refine (cj w3 g hR3).mono ?_
  rintro x w4 ⟨rfl, hR4, hO4⟩
  have C4 := C3.only hO4 hCg
  have R4 := R3.only hO4 (by omega)
  have hbw4 := hbw3.trans (hO4.below (by omega))
  obtain ⟨hl4, c0, c1, c2, c3, c4⟩ := C4.c5
  obtain ⟨f0, f1, f2, f3, f4, -, -, -⟩ := C4.t8
  have C5 : Blk (w4.setCell ⟨w2.heap.size, 1, none⟩ (.int .i64 n)) w2.heap.size 34 (cs5 e n 0 0 ⟨#[]⟩) := C4.set 1 _
  have hO5 := Only.one w4 w2.heap.size 1 (.int .i64 n)
  have hR5 := hR4.blk C4 (noU8_5 _ _ _ _ _) hO5 hgC
  have R5 := R4.only hO5 hRC
  have hbw5 := hbw4.trans (hO5.below hwC)
  clear hw3 cj hR3 hO4 C3 R3 hbw3
  go_wp2_with fail
  generalize hw5 : w4.setCell ⟨w2.heap.size, 1, none⟩ (.int .i64 n) = w5 at *
  refine (cg w5 g hR5 (fun w' o => HT.out.later (hbw5.trans (o.below (by omega) hbw5.size)))).mono ?_
  rintro x w6 ⟨rfl, hR6, hO6⟩
  have C6 := C5.onl hO6 hCg
  have R6 := R5.onl hO6 (by omega)
  have hbw6 := hbw5.trans (hO6.below (by omega) hbw5.size)
  clear hw5 cg hR5 hO6 C5 R5 hbw5 hR4 C4 R4 hO5 hbw4 hl4 c0 c1 c2 c3 c4 f0 f1 f2 f3 f4
  obtain ⟨hl6, c0, c1, c2, c3, c4⟩ := C6.c5
  obtain ⟨f0, f1, f2, f3, f4, -, -, -⟩ := C6.t8
  have C7 : Blk (((w6.setCell ⟨w2.heap.size, 2, none⟩ (.int .i64 K)).setCell ⟨w2.heap.size, 3, none⟩ (.int .i64 m)).setCell ⟨w2.heap.size, 4, none⟩ (.string t)) w2.heap.size 34 (cs5 e n K m t) := ((C6.set 2 _).set 3 _).set 4 _
  have hO7 := ((Only.one w6 w2.heap.size 2 (.int .i64 K)).setCell 3 (.int .i64 m)).setCell 4 (.string t)
  have hR7 := hR6.blk C6 (noU8_5 _ _ _ _ _) hO7 hgC
  have R7 := R6.only hO7 hRC
  have hbw7 := hbw6.trans (hO7.below hwC)
  go_wp2_with fail
  generalize hw7 : ((w6.setCell ⟨w2.heap.size, 2, none⟩ (.int .i64 K)).setCell ⟨w2.heap.size, 3, none⟩ (.int .i64 m)).setCell ⟨w2.heap.size, 4, none⟩ (.string t) = w7 at *
  have cE := end_any w0.heap.size g s3 w7 hR7
  clear hw7 hR6 C6 R6 hO7 hbw6 hl6 c0 c1 c2 c3 c4 f0 f1 f2 f3 f4 hR7
  obtain ⟨Z, hZ⟩ : ∃ Z, (!s3.2 && s3.1.length == 0) = Z := ⟨_, rfl⟩
  rw [hZ] at cE
  cases Z with
  | false =>
    have hno := HO.out hZ
    have HNo := Lib.hid hno
    clear hno hZ
    obtain ⟨y0, y1, y2, y3, y4, y5⟩ := R7.c5
    obtain ⟨f0, f1, f2, f3, f4, -, -, -⟩ := R7.t8
    refine cE.mono ?_
    rintro x w8 ⟨rfl, rfl⟩
    have HF := Lib.hid (below_set5 hbw7 (Nat.le_refl _) (.int .i64 0) (.int .i64 0) (.int .i64 0) (.int .i64 0) (.string ⟨#[]⟩))
    clear cE hbw7 C7
    go_wp2_with fail
    exact bodyPost_ret (v := .tuple #[V5 0 0 0 0 ⟨#[]⟩, .bool false]) (by simp [results, Tryz.results79, go_sem, y1, y2, y3, y4, y5]) rfl ⟨by rw [HNo.out] <;> rfl, HF.out⟩
  | true =>
    refine cE.mono ?_
    rintro x w8 ⟨rfl, rfl⟩
    have cC := preply_any ⟨e, n, K, m, t⟩ HIN.out w7 HTZ.out (HT.out.later hbw7)
    dsimp only at cC
    obtain ⟨hl7, c0, c1, c2, c3, c4⟩ := C7.c5
    cases hD : repB ⟨e, n, K, m, t⟩ with
    | false =>
      have hno := HB.out hZ hD
      have HNo := Lib.hid hno
      rw [hD] at cC
      clear hno hZ cE hD
      go_wp2_with fail
      refine cC.mono ?_
      rintro x w8 ⟨rfl, hb8⟩
      have R8 := R7.later hb8
      have hbw8 := below_to hbw7 hb8
      obtain ⟨y0, y1, y2, y3, y4, y5⟩ := R8.c5
      obtain ⟨f0, f1, f2, f3, f4, -, -, -⟩ := R8.t8
      have HF := Lib.hid (below_set5 hbw8 (Nat.le_refl _) (.int .i64 0) (.int .i64 0) (.int .i64 0) (.int .i64 0) (.string ⟨#[]⟩))
      clear cC hbw7 C7 hl7 c0 c1 c2 c3 c4 R7 R8 hb8 hbw8
      go_wp2_with fail
      exact bodyPost_ret (v := .tuple #[V5 0 0 0 0 ⟨#[]⟩, .bool false]) (by simp [results, Tryz.results79, go_sem, y1, y2, y3, y4, y5]) rfl ⟨by rw [HNo.out] <;> rfl, HF.out⟩
    | true =>
      have hyes := HY.out hZ hD
      have HNo := Lib.hid hyes
      rw [hD] at cC
      clear hyes hZ cE hD
      go_wp2_with fail
      refine cC.mono ?_
      rintro x w8 ⟨rfl, hb8⟩
      have R8 := R7.later hb8
      have C8 := C7.later hb8
      have hbw8 := below_to hbw7 hb8
      clear hl7 c0 c1 c2 c3 c4
      obtain ⟨hl7, c0, c1, c2, c3, c4⟩ := C8.c5
      obtain ⟨y0, y1, y2, y3, y4, y5⟩ := R8.c5
      obtain ⟨f0, f1, f2, f3, f4, -, -, -⟩ := R8.t8
      have HF := Lib.hid (below_set5 hbw8 (Nat.le_refl _) (.int .i64 e) (.int .i64 n) (.int .i64 K) (.int .i64 m) (.string t))
      clear cC hbw7 C7 R7 R8 C8 hb8 hbw8
      go_wp2_with fail
      exact bodyPost_ret (v := .tuple #[V5 e n K m t, .bool true]) (by simp [results, Tryz.results79, go_sem, y1, y2, y3, y4, y5]) rfl ⟨by rw [HNo.out] <;> rfl, HF.out⟩
end Go.Proofs.YtindkpfmflcibaaGreatDoor
