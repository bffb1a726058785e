/- What is kept of one: a reply with a text of its own; the last one; one is kept. -/
import Derived.Test.YtindkpfmflcibaaGreatDoorMSsU
import Derived.Test.YtindkpfmflcibaaGreatDoorMRpK
import Derived.Test.YtindkpfmflcibaaGreatDoorMBlk
import Derived.Test.YtindkpfmflcibaaGreatDoorGB
import Derived.Deep.RegionWith
namespace Go.Proofs.YtindkpfmflcibaaGreatDoor
open Go.RowKit Go.Maps Go.Sort Go.Shelf
set_option linter.unusedSimpArgs false

abbrev Rp.v5 (r : Rp) : Value := V5 r.e r.n r.K r.m r.s
theorem below_cell {w w8 : World} {R : Nat} (h : Below w.heap.size w w8) (hR : w.heap.size ≤ R) (i : Nat) (u : Value) : Below w.heap.size w (w8.setCell ⟨R, i, none⟩ u) := h.trans ((Only.one _ _ _ _).below hR)
theorem below_cells5 {w w8 : World} {R : Nat} (h : Below w.heap.size w w8) (hR : w.heap.size ≤ R) (a b c d e : Value) :
    Below w.heap.size w (((((w8.setCell ⟨R, 0, none⟩ a).setCell ⟨R, 1, none⟩ b).setCell ⟨R, 2, none⟩ c).setCell ⟨R, 3, none⟩ d).setCell ⟨R, 4, none⟩ e) :=
  below_cell (below_cell (below_cell (below_cell (below_cell h hR _ _) hR _ _) hR _ _) hR _ _) hR _ _
set_option maxHeartbeats 2000000 in
set_option maxRecDepth 100000 in
theorem own_rep (r : Rp) (w : World) (hs : r.s.size ≤ 281474976710656) : Calls Tryz.prog 35 #[V5 r.e r.n r.K r.m r.s] w fun e w' => e = .returned (V5 r.e r.n r.K r.m r.s) ∧ Below w.heap.size w w' := by
  obtain ⟨e, n, K, m, s⟩ := r
  dsimp only at *
  have b1 := Ss.below_alloc w (.cells (cs5 e n K m s) 34)
  have C1 := Blk.new w (cs5 e n K m s) 34
  have z1 : (w.alloc (.cells (cs5 e n K m s) 34)).heap.size = w.heap.size + 1 := by simp
  obtain ⟨w1, hw1⟩ : ∃ w1, w.alloc (.cells (cs5 e n K m s) 34) = w1 := ⟨_, rfl⟩
  rw [hw1] at b1 C1 z1
  have b2 := Ss.below_alloc w1 (.cells (cs5 0 0 0 0 ⟨#[]⟩) 34)
  have R2 := Blk.new w1 (cs5 0 0 0 0 ⟨#[]⟩) 34
  obtain ⟨w2, hw2⟩ : ∃ w2, w1.alloc (.cells (cs5 0 0 0 0 ⟨#[]⟩) 34) = w2 := ⟨_, rfl⟩
  rw [hw2] at b2 R2
  have C2 := C1.later b2
  have hB2 := below_to b1 b2
  rw [z1] at R2
  obtain ⟨l1, c0, c1, c2, c3, c4⟩ := C2.c5
  have cl := clone_any s w2 hs
  clear C1 b1 b2
  go_enter Tryz.func35, Tryz.ntmps35
  go_wp2_with fail
  refine cl.mono ?_
  rintro x w3 ⟨rfl, b3⟩
  have C3 := C2.later b3
  have R3 := R2.later b3
  have hB3 := below_to hB2 b3
  clear hw1 hw2 C2 R2 hB2 b3 l1 c0 c1 c2 c3 c4 cl
  obtain ⟨l1, c0, c1, c2, c3, c4⟩ := C3.c5
  obtain ⟨f0, f1, f2, f3, f4, -, -, -⟩ := C3.t8
  have C4 : Blk (w3.setCell ⟨w.heap.size, 4, none⟩ (.string s)) w.heap.size 34 (cs5 e n K m s) := C3.set 4 _
  have R4 := R3.only (Only.one w3 w.heap.size 4 (.string s)) (by omega)
  have hB4 := below_cell hB3 (Nat.le_refl _) 4 (.string s)
  obtain ⟨w4, hw4⟩ : ∃ w4, w3.setCell ⟨w.heap.size, 4, none⟩ (.string s) = w4 := ⟨_, rfl⟩
  rw [hw4] at C4 R4 hB4
  obtain ⟨l4, d0, d1, d2, d3, d4⟩ := C4.c5
  obtain ⟨g0, g1, g2, g3, g4, -, -, -⟩ := R4.t8
  obtain ⟨l5, y0, y1, y2, y3, y4⟩ := R4.c5
  have hB5 := below_cells5 hB4 (Nat.le_succ w.heap.size) (.int .i64 e) (.int .i64 n) (.int .i64 K) (.int .i64 m) (.string s)
  have HB5 := Lib.hid hB5
  clear hB5 hB4 hB3 C3 R3 C4 R4
  go_wp2_with fail
  exact bodyPost_ret (v := V5 e n K m s) (by simp [results, Tryz.results35, go_sem, y0, y1, y2, y3, y4]) rfl ⟨rfl, HB5.out⟩
theorem repOf_in {most : Nat} {L : List Se} (h : Tb most L) (i : Int) : (repOf i L).In ∧ repB (repOf i L) = true := by
  unfold repOf
  cases hf : findS i L with
  | none => exact ⟨zero_in, zero_rep⟩
  | some s => exact ⟨h.rin s (findS_mem hf).1, h.rep s (findS_mem hf).1⟩
theorem rep_size {r : Rp} (h : repB r = true) : r.s.size ≤ 400 := by
  have := checkB_len (repB_check h)
  rwa [show r.s.data.toList.length = r.s.size from rfl] at this
set_option maxHeartbeats 4000000 in
set_option maxRecDepth 100000 in
theorem stlast_any (T r most : Nat) (L : List Se) (i : Int) (w : World) (h : Tab w T r most L) :
    Calls Tryz.prog 18 #[.pointer (some ⟨T, 0, none⟩), .int .i64 i] w fun e w' => e = .returned (.tuple #[.int .i64 (seqOf i L), (repOf i L).v5, .bool (findS i L).isSome]) ∧ Below w.heap.size w w' := by
  have hr := rep_size (repOf_in h.t i).2
  have b1 := Ss.below_alloc w (.cells (cs5 0 0 0 0 ⟨#[]⟩) 34)
  have R1 := Blk.new w (cs5 0 0 0 0 ⟨#[]⟩) 34
  have z1 : (w.alloc (.cells (cs5 0 0 0 0 ⟨#[]⟩) 34)).heap.size = w.heap.size + 1 := by simp
  obtain ⟨w1, hw1⟩ : ∃ w1, w.alloc (.cells (cs5 0 0 0 0 ⟨#[]⟩) 34) = w1 := ⟨_, rfl⟩
  rw [hw1] at b1 R1 z1
  have h1 := h.later b1
  have hc1 := h1.c1
  have hlk := h1.valS i
  generalize usedOf i L = ux at *
  generalize seqOf i L = qx at *
  generalize repOf i L = rx at *
  generalize (findS i L).isSome = is at *
  have b2 := Ss.below_alloc w1 (.cells #[.int .i64 ux, .int .i64 qx, .int .i64 rx.e, .int .i64 rx.n, .int .i64 rx.K, .int .i64 rx.m, .string rx.s] 68)
  have S2 := sev_new w1 ux qx rx 68
  rw [z1] at S2
  obtain ⟨w2, hw2⟩ : ∃ w2, w1.alloc (.cells #[.int .i64 ux, .int .i64 qx, .int .i64 rx.e, .int .i64 rx.n, .int .i64 rx.K, .int .i64 rx.m, .string rx.s] 68) = w2 := ⟨_, rfl⟩
  rw [hw2] at b2 S2
  have R2 := R1.later b2
  have B2 := below_to b1 b2
  have SH := Lib.hid S2
  have RH := Lib.hid R2
  have BH := Lib.hid B2
  obtain ⟨ex, nx, kx, mx, sx⟩ := rx
  dsimp only at *
  have cO := fun W => own_rep ⟨ex, nx, kx, mx, sx⟩ W (by show sx.size ≤ _; omega)
  dsimp only at cO
  obtain ⟨hl2, x0, x1, x2, x3, x4, x5, x6, -⟩ := S2
  clear b1 b2 R1 R2 B2 h h1 hr
  go_enter Tryz.func18, Tryz.ntmps18
  go_wp2_with fail
  clear hw1 hw2
  go_region_with (go_at_call 35; refine (cO _).mono ?_; rintro e wy ⟨rfl, hby⟩; obtain ⟨-, u0, u1, u2, u3, u4, u5, u6, -⟩ := (SH.out.later (below_drewN (Below.refl _ _) _)).later hby; have RY := (RH.out.later (below_drewN (Below.refl _ _) _)).later hby; obtain ⟨l5, y0, y1, y2, y3, y4⟩ := RY.c5; obtain ⟨g0, g1, g2, g3, g4, -, -, -⟩ := RY.t8)
  all_goals
    have hB5 := Lib.hid (below_cells5 (below_to (below_drewN BH.out _) hby) (Nat.le_refl _) (.int .i64 ex) (.int .i64 nx) (.int .i64 kx) (.int .i64 mx) (.string sx))
    clear hby
    go_wp2_with fail
    exact bodyPost_ret (v := .tuple #[.int .i64 qx, V5 ex nx kx mx sx, .bool is]) (by simp [results, Tryz.results18, go_sem, y0, y1, y2, y3, y4]) rfl ⟨rfl, by first | exact hB5.out | exact below_drewN hB5.out _⟩
end Go.Proofs.YtindkpfmflcibaaGreatDoor
