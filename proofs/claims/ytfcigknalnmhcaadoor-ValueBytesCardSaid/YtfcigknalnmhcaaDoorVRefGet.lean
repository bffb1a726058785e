/- The contract of the document's own Get. -/
import Derived.Test.YtfcigknalnmhcaaDoorVGet
namespace Go.Proofs.YtfcigknalnmhcaaDoor
open Go.RowKit

set_option maxHeartbeats 2000000 in
set_option maxRecDepth 100000 in
theorem refget_any (g : Nat) (s : St) (w : World) (h : RR w g s) :
    Calls Tryd.prog 38 #[.pointer (some ⟨g, 0, none⟩)] w (GotR g w s) := by
  have hg := h.lt
  have hba := below_alloc w (.cells #[.int .i64 0, .int .i64 0, .string ⟨#[]⟩] 23)
  have hbb := below_alloc (w.alloc (.cells #[.int .i64 0, .int .i64 0, .string ⟨#[]⟩] 23)) (.cells #[.int .i64 0, .int .i64 0, .string ⟨#[]⟩] 23)
  have hr0 := (Vl.new w 0 0 ⟨#[]⟩ 23 rfl).later hbb
  have hv0 := Vl.new (w.alloc (.cells #[.int .i64 0, .int .i64 0, .string ⟨#[]⟩] 23)) 0 0 ⟨#[]⟩ 23 rfl
  have hz : (w.alloc (.cells #[.int .i64 0, .int .i64 0, .string ⟨#[]⟩] 23)).heap.size = w.heap.size + 1 := by simp
  rw [hz] at hv0
  have h0 := (h.later hba).later hbb
  have o0 := ((Onl.refl g w).later hba).later hbb
  have c1 := refrint_any g s _ h0
  have hY := get_yes (s := s)
  have hN := get_no (s := s)
  obtain ⟨K, hK⟩ : ∃ K, (stI s).1 = K := ⟨_, rfl⟩
  obtain ⟨s1, hs1⟩ : ∃ s1, (stI s).2 = s1 := ⟨_, rfl⟩
  rw [hK, hs1] at c1 hY hN
  have c2 := fun w h => refrint_any g s1 w h
  obtain ⟨n, hn⟩ : ∃ n, (stI s1).1 = n := ⟨_, rfl⟩
  obtain ⟨s2, hs2⟩ : ∃ s2, (stI s1).2 = s2 := ⟨_, rfl⟩
  simp only [hn, hs2] at c2 hY hN
  have c3 := fun w h => refrtext_any g s2 400 w h
  obtain ⟨L, hL⟩ : ∃ L, (stT 400 s2).1 = L := ⟨_, rfl⟩
  obtain ⟨s3, hs3⟩ : ∃ s3, (stT 400 s2).2 = s3 := ⟨_, rfl⟩
  simp only [hL, hs3] at c3 hY hN
  have hLz : L.length ≤ 400 := by rw [← hL]; exact stT_len s2
  have HY := Lib.hid hY
  have HN := Lib.hid hN
  have HR := Lib.hid h
  obtain ⟨t, ht⟩ : ∃ t : ByteArray, (⟨L.toArray⟩ : ByteArray) = t := ⟨_, rfl⟩
  have htd : t.data.toList = L := by rw [← ht]
  have htz : t.size ≤ 400 := by rw [← ht]; show L.toArray.size ≤ 400; rw [List.size_toArray]; exact hLz
  simp only [ht] at c3
  have HTD := Lib.hid htd
  have HT := Lib.hid ht
  clear h hK hs1 hn hs2 hL hs3 hY hN hba hbb hz ht htd
  go_enter Tryd.func38, Tryd.ntmps38
  go_wp2_with fail
  generalize hw0 : (w.alloc (.cells #[.int .i64 0, .int .i64 0, .string ⟨#[]⟩] 23)).alloc (.cells #[.int .i64 0, .int .i64 0, .string ⟨#[]⟩] 23) = w0 at *
  refine c1.mono ?_
  rintro e w1 ⟨rfl, hR1, hO1⟩
  have hgR : ¬ g = w.heap.size := by omega
  have hgV : ¬ g = w.heap.size + 1 := by omega
  have hVR : ¬ w.heap.size = w.heap.size + 1 := by omega
  have hV : w.heap.size ≤ w.heap.size + 1 := by omega
  have r1 := hr0.other hO1 (by omega)
  have v1 := hv0.other hO1 (by omega)
  have o1 := o0.only hO1
  clear hw0 hO1 hr0 hv0 h0 o0
  obtain ⟨z0, z1, z2, f0, f1, f2⟩ := v1.cells
  have v2 := v1.set0 K
  have hs2 := Only.one w1 (w.heap.size + 1) 0 (.int .i64 K)
  have hR2 := hR1.otherV v1 hs2 hgV
  have r2 := r1.other hs2 hVR
  have o2 := o1.new hs2 hV
  go_wp2_with fail
  generalize hw2 : w1.setCell ⟨w.heap.size + 1, 0, none⟩ (.int .i64 K) = w2 at *
  refine (c2 w2 hR2).mono ?_
  rintro e w3 ⟨rfl, hR3, hO3⟩
  have v3 := v2.other hO3 (by omega)
  have r3 := r2.other hO3 (by omega)
  have o3 := o2.only hO3
  clear v2 hR2 r2 o2 hO3 hw2 v1 hR1 r1 o1 hs2 z0 z1 z2 f0 f1 f2
  obtain ⟨z0, z1, z2, f0, f1, f2⟩ := v3.cells
  have v4 := v3.set1 n
  have hs4 := Only.one w3 (w.heap.size + 1) 1 (.int .i64 n)
  have hR4 := hR3.otherV v3 hs4 hgV
  have r4 := r3.other hs4 hVR
  have o4 := o3.new hs4 hV
  go_wp2_with fail
  generalize hw4 : w3.setCell ⟨w.heap.size + 1, 1, none⟩ (.int .i64 n) = w4 at *
  refine (c3 w4 hR4).mono ?_
  rintro e w5 ⟨rfl, hR5, hO5⟩
  have v5 := v4.other hO5 (by omega)
  have r5 := r4.other hO5 (by omega)
  have o5 := o4.only hO5
  clear v4 hR4 r4 o4 hO5 hw4 v3 hR3 r3 o3 hs4 z0 z1 z2 f0 f1 f2 c1 c2 c3
  obtain ⟨z0, z1, z2, f0, f1, f2⟩ := v5.cells
  have v6 := v5.set2 t
  have hs6 := Only.one w5 (w.heap.size + 1) 2 (.string t)
  have hR6 := hR5.otherV v5 hs6 hgV
  have r6 := r5.other hs6 hVR
  have o6 := o5.new hs6 hV
  have hgR2 : ¬ w.heap.size = g := fun e => hgR e.symm
  have hgV2 : ¬ w.heap.size + 1 = g := fun e => hgV e.symm
  have hVR2 : ¬ w.heap.size + 1 = w.heap.size := by omega
  obtain ⟨L3, b3⟩ := s3
  have hc5 : w5.cell? ⟨g, 2, none⟩ = some (.bool b3) ∧ w5.frozen? ⟨g, 2, none⟩ = false := by obtain ⟨A, C, cap, at_, hRB, -⟩ := hR5; exact ⟨hRB.cells.2.2.1, hRB.cells.2.2.2.2⟩
  have hc6 : (w5.setCell ⟨w.heap.size + 1, 2, none⟩ (.string t)).cell? ⟨g, 2, none⟩ = some (.bool b3) ∧ (w5.setCell ⟨w.heap.size + 1, 2, none⟩ (.string t)).frozen? ⟨g, 2, none⟩ = false := by obtain ⟨A, C, cap, at_, hRB, -⟩ := hR6; exact ⟨hRB.cells.2.2.1, hRB.cells.2.2.2.2⟩
  obtain ⟨hc5, hf5⟩ := hc5
  obtain ⟨hc6, hf6⟩ := hc6
  cases b3 with
  | true =>
    have hno := HN.out (fun h => by cases h.1)
    have hRd : RR ((w5.setCell ⟨w.heap.size + 1, 2, none⟩ (.string t)).setCell ⟨g, 2, none⟩ (.bool true)) g ([], true) := by obtain ⟨A, C, cap, at_, hRB, -⟩ := hR6; exact RR.dead hRB.setBad
    have r7 := r6.other (Only.one _ g 2 (.bool true)) hgR2
    have o7 := o6.only (Only.one _ g 2 (.bool true))
    have hfin := put3R 0 0 ⟨#[]⟩ hRd r7 o7 hgR
    obtain ⟨y0, y1, y2, e0, e1, e2⟩ := r7.cells
    obtain ⟨x0, x1, x2, d0, d1, d2⟩ := r5.cells
    have HF := Lib.hid hfin
    have HNo := Lib.hid hno
    clear hfin hno hRd
    go_wp2
    exact bodyPost_ret (v := V3 0 0 ⟨#[]⟩) (by simp [results, Tryd.results38, go_sem, y0, y1, y2]) rfl ⟨by rw [HNo.out], by rw [HNo.out]; exact HF.out.1, HF.out.2⟩
  | false =>
    have cC := refCheck_any K n t (w5.setCell ⟨w.heap.size + 1, 2, none⟩ (.string t))
    rw [HTD.out] at cC
    obtain ⟨x0, x1, x2, d0, d1, d2⟩ := v6.cells
    cases hc : checkB K n L with
    | false =>
      have hno := HN.out (fun h => by rw [hc] at h; cases h.2)
      rw [hc] at cC
      go_wp2_with fail
      refine cC.mono ?_
      rintro e w7 ⟨rfl, hb7⟩
      have hR7 := hR6.later hb7
      have r7 := r6.later hb7
      have o7 := o6.later hb7
      have hc7 : w7.cell? ⟨g, 2, none⟩ = some (.bool false) ∧ w7.frozen? ⟨g, 2, none⟩ = false := by obtain ⟨A, C, cap, at_, hRB, -⟩ := hR7; exact ⟨hRB.cells.2.2.1, hRB.cells.2.2.2.2⟩
      obtain ⟨hc7, hf7⟩ := hc7
      have hRd : RR (w7.setCell ⟨g, 2, none⟩ (.bool true)) g ([], true) := by obtain ⟨A, C, cap, at_, hRB, -⟩ := hR7; exact RR.dead hRB.setBad
      have r8 := r7.other (Only.one _ g 2 (.bool true)) hgR2
      have o8 := o7.only (Only.one _ g 2 (.bool true))
      have hfin := put3R 0 0 ⟨#[]⟩ hRd r8 o8 hgR
      clear cC hR6 r6 o6 v6 hb7 z0 z1 z2 f0 f1 f2 x0 x1 x2 d0 d1 d2 hc5 hf5 hc6 hf6 hR7 o7 hs6
      obtain ⟨y0, y1, y2, e0, e1, e2⟩ := r8.cells
      obtain ⟨x0, x1, x2, d0, d1, d2⟩ := r7.cells
      have HF := Lib.hid hfin
      have HNo := Lib.hid hno
      clear hfin hno hRd
      go_wp2
      exact bodyPost_ret (v := V3 0 0 ⟨#[]⟩) (by simp [results, Tryd.results38, go_sem, y0, y1, y2]) rfl ⟨by rw [HNo.out], by rw [HNo.out]; exact HF.out.1, HF.out.2⟩
    | true =>
      have hyes := HY.out rfl hc
      rw [hc] at cC
      go_wp2_with fail
      refine cC.mono ?_
      rintro e w7 ⟨rfl, hb7⟩
      have hR7 := hR6.later hb7
      have r7 := r6.later hb7
      have v7 := v6.later hb7
      have o7 := o6.later hb7
      clear cC hR6 r6 o6 v6 hb7 z0 z1 z2 f0 f1 f2 x0 x1 x2 d0 d1 d2 hc5 hf5 hc6 hf6 hs6
      obtain ⟨z0, z1, z2, f0, f1, f2⟩ := v7.cells
      obtain ⟨y0, y1, y2, e0, e1, e2⟩ := r7.cells
      have hfin := put3R K n t hR7 r7 o7 hgR
      have HF := Lib.hid hfin
      have HYes := Lib.hid hyes
      clear hfin hyes
      go_wp2
      exact bodyPost_ret (v := V3 K n t) (by simp [results, Tryd.results38, go_sem, y0, y1, y2]) rfl ⟨by rw [HYes.out, ← HT.out], by rw [HYes.out]; exact HF.out.1, HF.out.2⟩
end Go.Proofs.YtfcigknalnmhcaaDoor
