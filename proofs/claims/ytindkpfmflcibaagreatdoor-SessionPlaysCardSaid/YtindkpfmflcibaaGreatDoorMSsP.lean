/- One is kept. -/
import Derived.Test.YtindkpfmflcibaaGreatDoorMSsL
namespace Go.Proofs.YtindkpfmflcibaaGreatDoor
open Go.RowKit Go.Maps Go.Sort Go.Shelf
set_option linter.unusedSimpArgs false

theorem below_cells6 {w w8 : World} {R : Nat} (h : Below w.heap.size w w8) (hR : w.heap.size ≤ R) (a b c d e f : Value) :
    Below w.heap.size w ((((((w8.setCell ⟨R, 1, none⟩ a).setCell ⟨R, 2, none⟩ b).setCell ⟨R, 3, none⟩ c).setCell ⟨R, 4, none⟩ d).setCell ⟨R, 5, none⟩ e).setCell ⟨R, 6, none⟩ f) :=
  below_cell (below_cell (below_cell (below_cell (below_cell (below_cell h hR _ _) hR _ _) hR _ _) hR _ _) hR _ _) hR _ _
theorem keepS_no {i q : Int} {p : Rp} {L : List Se} (h : mayK i q p L = false) : keepS i q p L = (false, L) := by unfold keepS; rw [h]; rfl
theorem keepS_yes {i q : Int} {p : Rp} {L : List Se} (h : mayK i q p L = true) : keepS i q p L = (true, updS i (keepF q p) L) := by unfold keepS; rw [h]; rfl
set_option maxHeartbeats 4000000 in
set_option maxRecDepth 100000 in
theorem stkeep_any (T r most : Nat) (L : List Se) (i q : Int) (p : Rp) (w : World) (h : Tab w T r most L) (hp : p.In) (hs : p.s.size < 9223372036854775807) (hT : Tabs w) :
    Calls Tryz.prog 16 #[.pointer (some ⟨T, 0, none⟩), .int .i64 i, .int .i64 q, p.v5] w (EndT w T r most (keepS i q p L).2 (.bool (keepS i q p L).1)) := by
  have H := Lib.hid h
  have HP := Lib.hid hp
  have HT := Lib.hid hT
  have hTl := h.lt
  have b1 := Ss.below_alloc w (.cells (cs5 p.e p.n p.K p.m p.s) 34)
  have R1 := Blk.new w (cs5 p.e p.n p.K p.m p.s) 34
  have z1 : (w.alloc (.cells (cs5 p.e p.n p.K p.m p.s) 34)).heap.size = w.heap.size + 1 := by simp
  obtain ⟨w1, hw1⟩ : ∃ w1, w.alloc (.cells (cs5 p.e p.n p.K p.m p.s) 34) = w1 := ⟨_, rfl⟩
  rw [hw1] at b1 R1 z1
  have h1 := h.later b1
  have hc1 := h1.c1
  have hlk := h1.valS i
  obtain ⟨u, hu⟩ : ∃ u, usedOf i L = u := ⟨_, rfl⟩
  obtain ⟨k, hk⟩ : ∃ k, seqOf i L = k := ⟨_, rfl⟩
  obtain ⟨rx, hrx⟩ : ∃ rx, repOf i L = rx := ⟨_, rfl⟩
  rw [hu, hk, hrx] at hlk
  have b2 := Ss.below_alloc w1 (.cells (cs7 u k rx) 68)
  have S2 := Blk.new w1 (cs7 u k rx) 68
  rw [z1] at S2
  obtain ⟨w2, hw2⟩ : ∃ w2, w1.alloc (.cells (cs7 u k rx) 68) = w2 := ⟨_, rfl⟩
  rw [hw2] at b2 S2
  have R2 := R1.later b2
  have B2 := below_to b1 b2
  have SH := Lib.hid S2
  have RH := Lib.hid R2
  have BH := Lib.hid B2
  have H2 := Lib.hid (h.later B2)
  have NB := Lib.hid (But2.of (a := w.heap.size) (b := r) B2)
  obtain ⟨hl2, x0, x1, x2, x3, x4, x5, x6, -⟩ := sev_of_block (w := w2) (g := w.heap.size + 1) (u := u) (q := k) (r := rx) S2
  obtain ⟨-, y0, y1, y2, y3, y4⟩ := R2.c5
  cases hf : findS i L with
  | none =>
    have HE : Hid (EndT w T r most (keepS i q p L).2 (.bool (keepS i q p L).1) = EndT w T r most L (.bool false)) := Lib.hid (by rw [keepS_no (by unfold mayK; rw [hf])])
    rw [HE.out]
    rw [hf] at hlk
    obtain ⟨ex, nx, kx, mx, sx⟩ := rx
    obtain ⟨pe, pn, pk, pm, ps⟩ := p
    dsimp only [Rp.v5] at *
    clear b1 b2 R1 R2 B2 h h1 hp hT S2 hu hk hrx
    go_enter Tryz.func16, Tryz.ntmps16
    go_wp2_with fail
    go_ret
    exact ⟨rfl, H2.out, NB.out⟩
  | some s =>
    have hsq := h.t.seq s (findS_mem hf).1
    have hks : k = s.seq := by rw [← hk]; unfold seqOf; rw [hf]
    have hus : u = s.used := by rw [← hu]; unfold usedOf; rw [hf]
    have hrs : rx = s.r := by rw [← hrx]; unfold repOf; rw [hf]
    have hmk : mayK i q p L = (wi (k + 1) q && repB p) := by unfold mayK; rw [hf, hks]
    have ov : IntKind.i64.wrap (k + 1) = k + 1 := by rw [IntKind.wrap_i64]; omega
    have hk0 : -9223372036854775808 ≤ k + 1 := by omega
    have hk1 : k + 1 ≤ 9223372036854775807 := by omega
    have cw := fun W => stwithin_any (k + 1) q W
    rw [hf] at hlk
    by_cases hw : wi (k + 1) q = true
    · rw [hw] at cw
      have cC := preply_any p hp w2 hs (hT.later B2)
      by_cases hrp : repB p = true
      · have hm : mayK i q p L = true := by rw [hmk, hw, hrp]; rfl
        have HM := Lib.hid hm
        have HE : Hid (EndT w T r most (keepS i q p L).2 (.bool (keepS i q p L).1) = EndT w T r most (updS i (keepF q p) L) (.bool true)) := Lib.hid (by rw [keepS_yes hm])
        rw [HE.out]
        rw [hrp] at cC
        have cO := fun W => own_rep p W (by have := rep_size hrp; omega)
        have HF := Lib.hid hf
        have HUS := Lib.hid hus
        obtain ⟨ex, nx, kx, mx, sx⟩ := rx
        clear b1 b2 R1 R2 B2 h h1 hp hT S2 hu hk hrx hw hrp hm hmk hsq hks hus hrs hf
        go_enter Tryz.func16, Tryz.ntmps16
        dsimp only [Rp.v5] at *
        go_wp2_with fail
        refine (cw _).mono ?_
        rintro e w9 ⟨rfl, rfl⟩
        go_wp2_with fail
        refine cC.mono ?_
        rintro e w3 ⟨rfl, b3⟩
        have S3 := SH.out.later b3
        have R3 := RH.out.later b3
        have B3 := below_to BH.out b3
        have H3 := H2.out.later b3
        clear b3 x0 x1 x2 x3 x4 x5 x6 y0 y1 y2 y3 y4 cC hlk
        obtain ⟨-, y0, y1, y2, y3, y4⟩ := R3.c5
        go_wp2_with fail
        refine (cO _).mono ?_
        rintro e w4 ⟨rfl, b4⟩
        have S4 := S3.later b4
        have B4 := below_to B3 b4
        have H4 := H3.later b4
        clear b4 y0 y1 y2 y3 y4 R3 S3 B3 H3
        obtain ⟨-, x0, x1, x2, x3, x4, x5, x6, xz⟩ := sev_of_block (w := w4) (g := w.heap.size + 1) (u := u) (q := k) (r := ⟨ex, nx, kx, mx, sx⟩) S4
        have xz1 := xz 1
        have xz2 := xz 2
        have xz3 := xz 3
        have xz4 := xz 4
        have xz5 := xz 5
        have xz6 := xz 6
        have S5 : Blk ((((((w4.setCell ⟨w.heap.size + 1, 1, none⟩ (.int .i64 q)).setCell ⟨w.heap.size + 1, 2, none⟩ (.int .i64 p.e)).setCell ⟨w.heap.size + 1, 3, none⟩ (.int .i64 p.n)).setCell ⟨w.heap.size + 1, 4, none⟩ (.int .i64 p.K)).setCell ⟨w.heap.size + 1, 5, none⟩ (.int .i64 p.m)).setCell ⟨w.heap.size + 1, 6, none⟩ (.string p.s)) (w.heap.size + 1) 68 (cs7 u q p) := (((((S4.set 1 _).set 2 _).set 3 _).set 4 _).set 5 _).set 6 _
        have B5 := below_cells6 B4 (Nat.le_succ w.heap.size) (.int .i64 q) (.int .i64 p.e) (.int .i64 p.n) (.int .i64 p.K) (.int .i64 p.m) (.string p.s)
        obtain ⟨w5, hw5⟩ : ∃ w5, ((((((w4.setCell ⟨w.heap.size + 1, 1, none⟩ (.int .i64 q)).setCell ⟨w.heap.size + 1, 2, none⟩ (.int .i64 p.e)).setCell ⟨w.heap.size + 1, 3, none⟩ (.int .i64 p.n)).setCell ⟨w.heap.size + 1, 4, none⟩ (.int .i64 p.K)).setCell ⟨w.heap.size + 1, 5, none⟩ (.int .i64 p.m)).setCell ⟨w.heap.size + 1, 6, none⟩ (.string p.s)) = w5 := ⟨_, rfl⟩
        have B5 : Below w.heap.size w w5 := by rw [← hw5]; exact B5
        rw [hw5] at S5
        have H5 := H.out.later B5
        have c5 := H5.c1
        obtain ⟨-, u0, u1, u2, u3, u4, u5, u6, -⟩ := sev_of_block (w := w5) (g := w.heap.size + 1) (u := u) (q := q) (r := p) S5
        obtain ⟨w6, hput, hB6, hM6⟩ := updT (a := w.heap.size) (f := keepF q p) (H5.m.same (w' := w5.drew) rfl) H5.t.up HF.out (fun _ => rfl)
        have hput' : (Instr.mapUpdate 42 (.map (some r)) (.int .i64 i) (.agg (cs7 u q p))).run Tryz.prog w5.drew = .ok () w6 := by rw [HUS.out]; exact hput
        have HB6 := Lib.hid ((But2.of (a := w.heap.size) (b := r) B5).trans ((But2.of (Ss.below_drw (Below.refl _ _) 1)).trans hB6))
        have ht := H.out.t.keep i q p HP.out
        rw [keepS_yes HM.out] at ht
        have H6 := Lib.hid (H.out.turn HB6.out (by omega) hM6 ht)
        clear hput hB6 hM6 B5 H5 S5 H4 B4 S4 ht xz hw1 hw2 cw cO
        go_wp2_with fail
        clear hw5
        go_region
        go_wp2_with fail
        go_ret
        exact ⟨rfl, H6.out, HB6.out⟩
      · have hrp0 : repB p = false := by simpa using hrp
        have HE : Hid (EndT w T r most (keepS i q p L).2 (.bool (keepS i q p L).1) = EndT w T r most L (.bool false)) := Lib.hid (by rw [keepS_no (by rw [hmk, hrp0]; simp)])
        rw [HE.out]
        rw [hrp0] at cC
        obtain ⟨ex, nx, kx, mx, sx⟩ := rx
        clear b1 b2 R1 R2 B2 h h1 hp hT S2 hu hk hrx hw hrp hmk hsq hks hus hrs hf hrp0
        go_enter Tryz.func16, Tryz.ntmps16
        dsimp only [Rp.v5] at *
        go_wp2_with fail
        refine (cw _).mono ?_
        rintro e w9 ⟨rfl, rfl⟩
        go_wp2_with fail
        refine cC.mono ?_
        rintro e w3 ⟨rfl, b3⟩
        go_wp2_with fail
        go_ret
        exact ⟨rfl, H2.out.later b3, NB.out.next b3⟩
    · have hw0 : wi (k + 1) q = false := by simpa using hw
      have HE : Hid (EndT w T r most (keepS i q p L).2 (.bool (keepS i q p L).1) = EndT w T r most L (.bool false)) := Lib.hid (by rw [keepS_no (by rw [hmk, hw0]; rfl)])
      rw [HE.out]
      rw [hw0] at cw
      obtain ⟨ex, nx, kx, mx, sx⟩ := rx
      clear b1 b2 R1 R2 B2 h h1 hp hT S2 hu hk hrx hw hmk hsq hks hus hrs hf hw0
      go_enter Tryz.func16, Tryz.ntmps16
      dsimp only [Rp.v5] at *
      go_wp2_with fail
      refine (cw _).mono ?_
      rintro e w9 ⟨rfl, rfl⟩
      go_wp2_with fail
      go_ret
      exact ⟨rfl, H2.out, NB.out⟩
end Go.Proofs.YtindkpfmflcibaaGreatDoor
