/- The contracts of cmd.CheckReply and PutReply, and of the document's own. -/
import Derived.Test.YtindkpfmflcibaaGreatDoorMCmS
namespace Go.Proofs.YtindkpfmflcibaaGreatDoor
open Go.RowKit

set_option maxHeartbeats 1000000 in
theorem preply_any (r : Rp) (hi : r.In) (w : World) (hs : r.s.size < 9223372036854775807) (hT : Tabs w) :
    Calls Tryz.prog 34 #[V5 r.e r.n r.K r.m r.s] w fun e w' => e = .returned (.bool (repB r)) ∧ Below w.heap.size w w' := by
  obtain ⟨e, n, K, m, s⟩ := r
  obtain ⟨e0, e1, n0, n1, k0, k1, m0, m1⟩ := hi
  simp only at e0 e1 n0 n1 k0 k1 m0 m1 hs
  unfold repB
  dsimp only
  have b0 := below_alloc w (.cells (cs5 e n K m s) 34)
  have C0 := Blk.new w (cs5 e n K m s) 34
  by_cases h0 : 0 ≤ e
  · by_cases h1 : e ≤ 24
    · rw [decide_eq_true h0, decide_eq_true h1]
      have cW := fun w => within_any 0 n w (by decide) (by decide) n0 n1
      obtain ⟨B, hB⟩ : ∃ B, wi 0 n = B := ⟨_, rfl⟩
      rw [hB] at cW ⊢
      cases B with
      | false =>
        go_enter Tryz.func34, Tryz.ntmps34
        go_wp2_with fail
        refine (cW _).mono ?_
        rintro e w1 ⟨rfl, rfl⟩
        go_wp2
        go_ret
        exact ⟨rfl, b0⟩
      | true =>
        obtain ⟨w0, hw0⟩ : ∃ w0, w.alloc (.cells (cs5 e n K m s) 34) = w0 := ⟨_, rfl⟩
        rw [hw0] at b0 C0
        have cC := check_any K m s w0 hs (hT.later b0)
        obtain ⟨D, hD⟩ : ∃ D, checkB K m s.data.toList = D := ⟨_, rfl⟩
        rw [hD] at cC ⊢
        obtain ⟨hl, c0, c1, c2, c3, c4⟩ := C0.c5
        go_enter Tryz.func34, Tryz.ntmps34
        go_wp2_with fail
        refine (cW _).mono ?_
        rintro e w1 ⟨rfl, rfl⟩
        go_wp2_with fail
        refine cC.mono ?_
        rintro e w1 ⟨rfl, hb1⟩
        go_wp2
        go_ret
        exact ⟨rfl, below_to b0 hb1⟩
    · rw [decide_eq_true h0, decide_eq_false h1]
      go_enter Tryz.func34, Tryz.ntmps34
      go_wp2
      go_ret
      exact ⟨rfl, b0⟩
  · rw [decide_eq_false h0]
    go_enter Tryz.func34, Tryz.ntmps34
    go_wp2
    go_ret
    exact ⟨rfl, b0⟩
set_option maxHeartbeats 1000000 in
theorem rreply_any (r : Rp) (hi : r.In) (w : World) :
    Calls Tryz.prog 36 #[V5 r.e r.n r.K r.m r.s] w fun e w' => e = .returned (.bool (repB r)) ∧ Below w.heap.size w w' := by
  obtain ⟨e, n, K, m, s⟩ := r
  obtain ⟨e0, e1, n0, n1, k0, k1, m0, m1⟩ := hi
  simp only at e0 e1 n0 n1 k0 k1 m0 m1
  unfold repB
  dsimp only
  have b0 := below_alloc w (.cells (cs5 e n K m s) 34)
  have C0 := Blk.new w (cs5 e n K m s) 34
  by_cases h0 : 0 ≤ e
  · by_cases h1 : e ≤ 24
    · rw [decide_eq_true h0, decide_eq_true h1]
      have cW := fun w => counts_any n 0 w (by decide) (by decide) n0 n1
      obtain ⟨B, hB⟩ : ∃ B, wi 0 n = B := ⟨_, rfl⟩
      rw [hB] at cW ⊢
      cases B with
      | false =>
        go_enter Tryz.func36, Tryz.ntmps36
        go_wp2_with fail
        refine (cW _).mono ?_
        rintro e w1 ⟨rfl, rfl⟩
        go_wp2
        go_ret
        exact ⟨rfl, b0⟩
      | true =>
        obtain ⟨w0, hw0⟩ : ∃ w0, w.alloc (.cells (cs5 e n K m s) 34) = w0 := ⟨_, rfl⟩
        rw [hw0] at b0 C0
        have cC := refCheck_any K m s w0
        obtain ⟨D, hD⟩ : ∃ D, checkB K m s.data.toList = D := ⟨_, rfl⟩
        rw [hD] at cC ⊢
        obtain ⟨hl, c0, c1, c2, c3, c4⟩ := C0.c5
        go_enter Tryz.func36, Tryz.ntmps36
        go_wp2_with fail
        refine (cW _).mono ?_
        rintro e w1 ⟨rfl, rfl⟩
        go_wp2_with fail
        refine cC.mono ?_
        rintro e w1 ⟨rfl, hb1⟩
        go_wp2
        go_ret
        exact ⟨rfl, below_to b0 hb1⟩
    · rw [decide_eq_true h0, decide_eq_false h1]
      go_enter Tryz.func36, Tryz.ntmps36
      go_wp2
      go_ret
      exact ⟨rfl, b0⟩
  · rw [decide_eq_false h0]
    go_enter Tryz.func36, Tryz.ntmps36
    go_wp2
    go_ret
    exact ⟨rfl, b0⟩

set_option maxHeartbeats 1000000 in
theorem pputr_any (r : Rp) (hi : r.In) (w : World) (hs : r.s.data.toList.length ≤ 1000000) :
    Calls Tryz.prog 61 #[V5 r.e r.n r.K r.m r.s] w (OwnBytes w (putP r)) := by
  obtain ⟨e, n, K, m, s⟩ := r
  obtain ⟨e0, e1, n0, n1, k0, k1, m0, m1⟩ := hi
  simp only at e0 e1 n0 n1 k0 k1 m0 m1 hs
  have b0 := below_alloc w (.cells (cs5 e n K m s) 34)
  have C0 := Blk.new w (cs5 e n K m s) 34
  have t1 := putI_ten (v := e) e0 e1
  have t2 := putI_ten (v := n) n0 n1
  have c1 := fun w => put_nil e w e0 e1
  have c2 := fun (M : List UInt8) (hM : M = putI e) A1 cap1 w1 h1 h2 => putint_any A1 M cap1 n w1 (by rw [hM]; omega) h1 h2 n0 n1
  have c3 := fun (M : List UInt8) (hM : M = putI e ++ putI n) A1 cap1 w1 h1 h2 => put_any A1 M cap1 K m s w1 (by rw [hM, List.length_append]; omega) h1 h2 k0 k1 m0 m1
  obtain ⟨M1, hM1⟩ : ∃ M, M = putI e := ⟨_, rfl⟩
  obtain ⟨M2, hM2⟩ : ∃ M, M = putI e ++ putI n := ⟨_, rfl⟩
  have d2 := c2 M1 hM1
  have d3 := c3 M2 hM2
  have hG : putP ⟨e, n, K, m, s⟩ = M2 ++ putV K m s.data.toList := by rw [hM2]; rfl
  rw [← hM1] at hM2
  simp only [← hM1] at c1
  simp only [← hM2] at d2
  rw [hG]
  generalize M2 ++ putV K m s.data.toList = G at d3 ⊢
  obtain ⟨w0, hw0⟩ : ∃ w0, w.alloc (.cells (cs5 e n K m s) 34) = w0 := ⟨_, rfl⟩
  rw [hw0] at b0 C0
  clear c2 c3 hM1 hM2 hs t1 t2 hG
  go_enter Tryz.func61, Tryz.ntmps61
  obtain ⟨hl, z0, z1, z2, z3, z4⟩ := C0.c5
  go_wp2_with fail
  refine (c1 _).mono ?_
  rintro e w1 ⟨A1, cap1, rfl, hB1, _, ho1, hb1⟩
  have C1 := C0.later hb1
  have hbw1 := below_to b0 hb1
  clear c1 hw0 hl z0 z1 z2 z3 z4 b0 hb1 C0
  obtain ⟨hl, z0, z1, z2, z3, z4⟩ := C1.c5
  go_wp2_with fail
  refine (d2 A1 cap1 _ (own_cap ho1) hB1).mono ?_
  rintro e w2 ⟨A2, cap2, rfl, hB2, _, ho2, hb2⟩
  have C2 := C1.later hb2
  have hbw2 := below_to hbw1 hb2
  clear d2 hl z0 z1 z2 z3 z4 hb2 C1 hB1 ho1
  obtain ⟨hl, z0, z1, z2, z3, z4⟩ := C2.c5
  go_wp2_with fail
  refine (d3 A2 cap2 _ (own_cap ho2) hB2).mono ?_
  rintro e w3 ho3
  obtain ⟨A3, cap3, rfl, hB3, hc3, ho3, hb3⟩ := own_of ho3 hbw2
  go_wp2
  go_ret
  exact ⟨A3, cap3, rfl, hB3, hc3, ho3, hb3⟩
end Go.Proofs.YtindkpfmflcibaaGreatDoor
