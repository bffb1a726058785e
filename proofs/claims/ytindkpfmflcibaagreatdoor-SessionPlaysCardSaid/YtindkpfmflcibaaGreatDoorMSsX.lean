/- A session as bytes. -/
import Derived.Test.YtindkpfmflcibaaGreatDoorMSsL
import Derived.Test.YtindkpfmflcibaaGreatDoorMRpK
import Derived.Test.YtindkpfmflcibaaGreatDoorWA
namespace Go.Proofs.YtindkpfmflcibaaGreatDoor
open Go.RowKit Go.Maps Go.Sort Go.Shelf
set_option linter.unusedSimpArgs false

/-- The bytes of a session, of a table. -/
def seB (s : Se) : List UInt8 := putI s.id ++ putI s.used ++ putI s.seq ++ putT (putP s.r)
def tabB (L : List Se) : List UInt8 := putI (L.length : Int) ++ L.flatMap seB
theorem putP_len {r : Rp} (h : r.In) (hs : r.s.data.toList.length ≤ 1000000) : (putP r).length ≤ 1000100 := by
  have t1 := putI_ten (v := r.e) h.e0 h.e1
  have t2 := putI_ten (v := r.n) h.n0 h.n1
  have t3 := putI_ten (v := r.K) h.K0 h.K1
  have t4 := putI_ten (v := r.m) h.m0 h.m1
  have t5 := putI_ten (v := (r.s.data.toList.length : Int)) (by omega) (by omega)
  unfold putP putV putT
  simp only [List.length_append]
  omega
set_option maxHeartbeats 2000000 in
set_option maxRecDepth 100000 in
theorem stput1_any (s : Se) (w : World) (i0 : -9223372036854775808 ≤ s.id) (i1 : s.id ≤ 9223372036854775807) (u0 : -9223372036854775808 ≤ s.used) (u1 : s.used ≤ 9223372036854775807) (q0 : -9223372036854775808 ≤ s.seq) (q1 : s.seq ≤ 9223372036854775807)
    (hi : s.r.In) (hs : s.r.s.data.toList.length ≤ 1000000) : Calls Tryz.prog 38 #[.int .i64 s.id, s.v] w (OwnBytes w (seB s)) := by
  obtain ⟨i, u, q, r⟩ := s
  dsimp only at *
  have b0 := Ss.below_alloc w (.cells (cs7 u q r) 68)
  have C0 := Blk.new w (cs7 u q r) 68
  have t1 := putI_ten (v := i) i0 i1
  have t2 := putI_ten (v := u) u0 u1
  have t3 := putI_ten (v := q) q0 q1
  have hlp := putP_len hi hs
  have c1 := fun w => put_nil i w i0 i1
  have c2 := fun (M : List UInt8) (hM : M = putI i) A1 cap1 w1 h1 h2 => putint_any A1 M cap1 u w1 (by rw [hM]; omega) h1 h2 u0 u1
  have c3 := fun (M : List UInt8) (hM : M = putI i ++ putI u) A1 cap1 w1 h1 h2 => putint_any A1 M cap1 q w1 (by rw [hM, List.length_append]; omega) h1 h2 q0 q1
  have c4 := fun w => pputr_any r hi w hs
  have c5 := fun (M : List UInt8) (hM : M = putI i ++ putI u ++ putI q) A1 cap1 w1 h1 h2 => puttext_any A1 M cap1 (txt (putP r)) w1 (by rw [hM, List.length_append, List.length_append, txt_list]; omega) h1 h2
  obtain ⟨M1, hM1⟩ : ∃ M, M = putI i := ⟨_, rfl⟩
  obtain ⟨M2, hM2⟩ : ∃ M, M = putI i ++ putI u := ⟨_, rfl⟩
  obtain ⟨M3, hM3⟩ : ∃ M, M = putI i ++ putI u ++ putI q := ⟨_, rfl⟩
  have d2 := c2 M1 hM1
  have d3 := c3 M2 hM2
  have d5 := c5 M3 hM3
  rw [txt_list] at d5
  have hG : seB ⟨i, u, q, r⟩ = M3 ++ putT (putP r) := by rw [hM3]; rfl
  rw [← hM2] at hM3
  rw [← hM1] at hM2
  simp only [← hM1] at c1
  simp only [← hM2] at d2
  simp only [← hM3] at d3
  rw [hG]
  obtain ⟨X, hX⟩ : ∃ X, putP r = X := ⟨_, rfl⟩
  rw [hX] at d5 c4 ⊢
  generalize M3 ++ putT X = G at d5 ⊢
  obtain ⟨w0, hw0⟩ : ∃ w0, w.alloc (.cells (cs7 u q r) 68) = w0 := ⟨_, rfl⟩
  rw [hw0] at b0 C0
  clear c2 c3 c5 hM1 hM2 hM3 hs t1 t2 t3 hG hX hlp
  change Calls _ _ #[.int .i64 i, .agg (cs7 u q r)] w _
  obtain ⟨ex, nx, kx, mx, sx⟩ := r
  dsimp only at *
  go_enter Tryz.func38, Tryz.ntmps38
  go_wp2_with fail
  refine (c1 _).mono ?_
  rintro e w1 ⟨A1, cap1, rfl, hB1, _, ho1, hb1⟩
  have C1 := C0.later hb1
  have hbw1 := below_to b0 hb1
  clear c1 hw0 b0 hb1 C0
  obtain ⟨-, z0, z1, z2, z3, z4, z5, z6, -⟩ := sev_of_block (w := w1) (g := w.heap.size) (u := u) (q := q) (r := ⟨ex, nx, kx, mx, sx⟩) C1
  go_wp2_with fail
  refine (d2 A1 cap1 _ (own_cap ho1) hB1).mono ?_
  rintro e w2 ⟨A2, cap2, rfl, hB2, _, ho2, hb2⟩
  have C2 := C1.later hb2
  have hbw2 := below_to hbw1 hb2
  clear d2 z0 z1 z2 z3 z4 z5 z6 hb2 C1 hB1 ho1
  obtain ⟨-, z0, z1, z2, z3, z4, z5, z6, -⟩ := sev_of_block (w := w2) (g := w.heap.size) (u := u) (q := q) (r := ⟨ex, nx, kx, mx, sx⟩) C2
  go_wp2_with fail
  refine (d3 A2 cap2 _ (own_cap ho2) hB2).mono ?_
  rintro e w3 ⟨A3, cap3, rfl, hB3, _, ho3, hb3⟩
  have C3 := C2.later hb3
  have hbw3 := below_to hbw2 hb3
  clear d3 z0 z1 z2 z3 z4 z5 z6 hb3 C2 hB2 ho2
  obtain ⟨-, z0, z1, z2, z3, z4, z5, z6, -⟩ := sev_of_block (w := w3) (g := w.heap.size) (u := u) (q := q) (r := ⟨ex, nx, kx, mx, sx⟩) C3
  go_wp2_with fail
  refine (c4 _).mono ?_
  rintro e w4 ⟨A4, cap4, rfl, hB4, _, ho4, hb4⟩
  have hbw4 := below_to hbw3 hb4
  have HB3 := Lib.hid (hB3.below hb4)
  have HC3 := Lib.hid (own_cap ho3)
  have hcv := run_str_of (w := w4) 35 9 5 cap4 Tryz.underlying35 Tryz.underlying5 Tryz.underlying9 hB4
  clear c4 z0 z1 z2 z3 z4 z5 z6 hb4 C3 hB3 ho3 hB4 ho4 hbw3
  go_wp2_with fail
  refine (d5 A3 cap3 _ HC3.out HB3.out).mono ?_
  rintro e w5 ho5
  obtain ⟨A5, cap5, rfl, hB5, hc5, ho5, hb5⟩ := own_of ho5 hbw4
  go_wp2
  go_ret
  exact ⟨A5, cap5, rfl, hB5, hc5, ho5, hb5⟩
end Go.Proofs.YtindkpfmflcibaaGreatDoor
