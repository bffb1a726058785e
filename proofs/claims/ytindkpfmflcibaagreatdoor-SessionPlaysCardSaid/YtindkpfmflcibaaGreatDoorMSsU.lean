/- One of a table is used. -/
import Derived.Test.YtindkpfmflcibaaGreatDoorMSsO
namespace Go.Proofs.YtindkpfmflcibaaGreatDoor
open Go.RowKit Go.Maps Go.Sort Go.Shelf
set_option linter.unusedSimpArgs false

/-- Seven cells of the call's own. -/
structure Sev (w : World) (g : Nat) (u q : Int) (r : Rp) : Prop where
  lt : g < w.heap.size
  c0 : w.cell? ⟨g, 0, none⟩ = some (.int .i64 u)
  c1 : w.cell? ⟨g, 1, none⟩ = some (.int .i64 q)
  c2 : w.cell? ⟨g, 2, none⟩ = some (.int .i64 r.e)
  c3 : w.cell? ⟨g, 3, none⟩ = some (.int .i64 r.n)
  c4 : w.cell? ⟨g, 4, none⟩ = some (.int .i64 r.K)
  c5 : w.cell? ⟨g, 5, none⟩ = some (.int .i64 r.m)
  c6 : w.cell? ⟨g, 6, none⟩ = some (.string r.s)
  fz : ∀ i, w.frozen? ⟨g, i, none⟩ = false
theorem sev_of_block {w : World} {g : Nat} {u q : Int} {r : Rp} {t : TypeId} (h : w.heap[g]? = some (.cells #[.int .i64 u, .int .i64 q, .int .i64 r.e, .int .i64 r.n, .int .i64 r.K, .int .i64 r.m, .string r.s] t)) : Sev w g u q r := by
  refine ⟨(Array.getElem?_eq_some_iff.1 h).1, ?_, ?_, ?_, ?_, ?_, ?_, ?_, fun i => ?_⟩
  all_goals first
    | (unfold World.cell?; rw [h]; rfl)
    | (unfold World.frozen?; rw [h]; simp)
theorem sev_new (w : World) (u q : Int) (r : Rp) (t : TypeId) : Sev (w.alloc (.cells #[.int .i64 u, .int .i64 q, .int .i64 r.e, .int .i64 r.n, .int .i64 r.K, .int .i64 r.m, .string r.s] t)) w.heap.size u q r := sev_of_block (Go.MapKept.heap_alloc w _).1
theorem Sev.later {w w' : World} {g : Nat} {u q : Int} {r : Rp} (h : Sev w g u q r) (hb : Below w.heap.size w w') : Sev w' g u q r :=
  ⟨Nat.lt_of_lt_of_le h.lt hb.size, (hb.cell (p := ⟨g, 0, none⟩) h.lt).trans h.c0, (hb.cell (p := ⟨g, 1, none⟩) h.lt).trans h.c1, (hb.cell (p := ⟨g, 2, none⟩) h.lt).trans h.c2, (hb.cell (p := ⟨g, 3, none⟩) h.lt).trans h.c3, (hb.cell (p := ⟨g, 4, none⟩) h.lt).trans h.c4, (hb.cell (p := ⟨g, 5, none⟩) h.lt).trans h.c5, (hb.cell (p := ⟨g, 6, none⟩) h.lt).trans h.c6, fun i => (hb.frozen (p := ⟨g, i, none⟩) h.lt).trans (h.fz i)⟩
set_option maxHeartbeats 2000000 in
set_option maxRecDepth 100000 in
theorem stuse_any (T r most : Nat) (L : List Se) (i a : Int) (w : World) (h : Tab w T r most L) :
    Calls Tryz.prog 10 #[.pointer (some ⟨T, 0, none⟩), .int .i64 i, .int .i64 a] w (EndT w T r most (useS i a L).2 (.bool (useS i a L).1)) := by
  have H := Lib.hid h
  have hc1 := h.c1
  have hlk := h.valS i
  have hTl := h.lt
  have hrl := h.m.lt
  cases hf : findS i L with
  | none =>
    have HE : Hid (EndT w T r most (useS i a L).2 (.bool (useS i a L).1) = EndT w T r most L (.bool false)) := Lib.hid (by unfold useS; rw [updS_none hf, hf]; rfl)
    rw [HE.out]
    rw [hf] at hlk
    generalize usedOf i L = ux at *
    generalize seqOf i L = qx at *
    generalize repOf i L = rx at *
    have hb1 := Ss.below_alloc w (.cells #[.int .i64 ux, .int .i64 qx, .int .i64 rx.e, .int .i64 rx.n, .int .i64 rx.K, .int .i64 rx.m, .string rx.s] 68)
    have H1 := Lib.hid (h.later hb1)
    have HB1 := Lib.hid (But2.of (a := w.heap.size) (b := r) hb1)
    obtain ⟨ex, nx, kx, mx, sx⟩ := rx
    dsimp only at hlk H1 HB1
    clear h hb1
    go_enter Tryz.func10, Tryz.ntmps10
    go_wp2_with fail
    go_ret
    exact ⟨rfl, H1.out, HB1.out⟩
  | some s =>
    have HE : Hid (EndT w T r most (useS i a L).2 (.bool (useS i a L).1) = EndT w T r most (updS i (useF a) L) (.bool true)) := Lib.hid (by unfold useS; rw [hf]; rfl)
    rw [HE.out]
    rw [hf] at hlk
    have eu : usedOf i L = s.used := by unfold usedOf; rw [hf]
    have eq : seqOf i L = s.seq := by unfold seqOf; rw [hf]
    have er : repOf i L = s.r := by unfold repOf; rw [hf]
    rw [eu, eq, er] at hlk
    obtain ⟨z, hz⟩ : ∃ z, z = max s.used (min a 1099511627776) := ⟨_, rfl⟩
    have hb1 := Ss.below_alloc w (.cells #[.int .i64 s.used, .int .i64 s.seq, .int .i64 s.r.e, .int .i64 s.r.n, .int .i64 s.r.K, .int .i64 s.r.m, .string s.r.s] 68)
    have S1 := sev_new w s.used s.seq s.r 68
    obtain ⟨w1, hw1⟩ : ∃ w1, w.alloc (.cells #[.int .i64 s.used, .int .i64 s.seq, .int .i64 s.r.e, .int .i64 s.r.n, .int .i64 s.r.K, .int .i64 s.r.m, .string s.r.s] 68) = w1 := ⟨_, rfl⟩
    rw [hw1] at hb1 S1
    have hblk : w1.heap[w.heap.size]? = some (.cells #[.int .i64 s.used, .int .i64 s.seq, .int .i64 s.r.e, .int .i64 s.r.n, .int .i64 s.r.K, .int .i64 s.r.m, .string s.r.s] 68) := by rw [← hw1]; exact (Go.MapKept.heap_alloc w _).1
    have S2 : Sev (w1.setCell ⟨w.heap.size, 0, none⟩ (.int .i64 z)) w.heap.size z s.seq s.r := by
      refine sev_of_block (t := 68) ?_
      show (w1.heap.modify w.heap.size _)[w.heap.size]? = _
      rw [Array.getElem?_modify, if_pos rfl, hblk]
      rfl
    have hb2 : Below w.heap.size w (w1.setCell ⟨w.heap.size, 0, none⟩ (.int .i64 z)) := hb1.trans ⟨rfl, rfl, rfl, by simp [World.setCell], fun k hk => Below.heap_setCell _ _ _ _ (by simp only; omega)⟩
    obtain ⟨w2, hw2⟩ : ∃ w2, w1.setCell ⟨w.heap.size, 0, none⟩ (.int .i64 z) = w2 := ⟨_, rfl⟩
    rw [hw2] at S2 hb2
    have H2 := h.later hb2
    have e2 := H2.c1
    obtain ⟨w3, hput, hB3, hM3⟩ := updT (a := w.heap.size) (f := useF a) (H2.m.same (w' := w2.drew) rfl) H2.t.up hf (fun _ => rfl)
    have HB3 := Lib.hid ((But2.of (a := w.heap.size) (b := r) hb2).trans ((But2.of (Ss.below_drw (Below.refl _ _) 1)).trans hB3))
    have H3 := Lib.hid (h.turn HB3.out (by omega) hM3 (h.t.use i a))
    have hput' : (Instr.mapUpdate 42 (.map (some r)) (.int .i64 i) (.agg #[.int .i64 z, .int .i64 s.seq, .int .i64 s.r.e, .int .i64 s.r.n, .int .i64 s.r.K, .int .i64 s.r.m, .string s.r.s])).run Tryz.prog w2.drew = .ok () w3 := by rw [hz]; exact hput
    clear hput hB3 hM3 hb1 hb2 H2 h hblk eu eq er
    obtain ⟨hl1, x0, x1, x2, x3, x4, x5, x6, xz⟩ := S1
    obtain ⟨hl2, y0, y1, y2, y3, y4, y5, y6, yz⟩ := S2
    have xz0 := xz 0
    clear hf
    obtain ⟨i0, u0, q0, r0⟩ := s
    obtain ⟨ex, nx, kx, mx, sx⟩ := r0
    dsimp only at *
    go_enter Tryz.func10, Tryz.ntmps10
    go_wp2_with fail
    rw [← hz]
    go_wp2_with fail
    rw [hw2]
    clear hz
    go_region
    go_wp2_with fail
    go_ret
    exact ⟨rfl, H3.out, HB3.out⟩
end Go.Proofs.YtindkpfmflcibaaGreatDoor
