/- A new table; one is opened; one is used. -/
import Derived.Test.YtindkpfmflcibaaGreatDoorMSsQ
import Derived.RegionTactic
import Derived.ChangeAlike
namespace Go.Proofs.YtindkpfmflcibaaGreatDoor
open Go.RowKit Go.Maps Go.Sort Go.Shelf
set_option linter.unusedSimpArgs false

def cutM (most : Int) : Nat := (min (max most 1) 64).toNat
theorem cutM_nat (most : Int) : ((cutM most : Nat) : Int) = min (max most 1) 64 := by unfold cutM; omega
theorem cutM_in (most : Int) : 1 ≤ cutM most ∧ cutM most ≤ 64 := by unfold cutM; omega
/-- A block with two cells that was made as one. -/
theorem two_new (w : World) (a b : Value) (t : TypeId) : (w.alloc (.cells #[a, b] t)).cell? ⟨w.heap.size, 0, none⟩ = some a ∧ (w.alloc (.cells #[a, b] t)).cell? ⟨w.heap.size, 1, none⟩ = some b ∧ ∀ i, (w.alloc (.cells #[a, b] t)).frozen? ⟨w.heap.size, i, none⟩ = false := by
  have e0 := (Go.MapKept.heap_alloc w (.cells #[a, b] t)).1
  refine ⟨?_, ?_, fun i => ?_⟩
  · unfold World.cell?; rw [e0]; rfl
  · unfold World.cell?; rw [e0]; rfl
  · unfold World.frozen?; rw [e0]; simp
def NewT (w : World) (most : Nat) (e : Ending) (w' : World) : Prop := ∃ T r, e = .returned (.pointer (some ⟨T, 0, none⟩)) ∧ Tab w' T r most [] ∧ w.heap.size ≤ T ∧ w.heap.size ≤ r ∧ Below w.heap.size w w'
set_option maxHeartbeats 2000000 in
set_option maxRecDepth 100000 in
theorem stnew_any (most : Int) (w : World) :
    Calls Tryz.prog 4 #[.int .i64 most] w (NewT w (cutM most)) := by
  obtain ⟨n, hn⟩ : ∃ n, cutM most = n := ⟨_, rfl⟩
  have e := cutM_nat most
  have b := cutM_in most
  rw [hn] at e b ⊢
  have m1 := MapT.new w
  have b1 := Ss.below_alloc w (.map #[] 0)
  obtain ⟨w1, hw1⟩ : ∃ w1, w.alloc (.map #[] 0) = w1 := ⟨_, rfl⟩
  have mk := makeT w
  have s1 : w1.heap.size = w.heap.size + 1 := by rw [← hw1]; simp
  rw [hw1] at m1 b1 mk
  have b2 := Ss.below_alloc w1 (.cells #[.int .i64 (n : Int), .map (some w.heap.size)] 44)
  obtain ⟨c0, c1, cz⟩ := two_new w1 (.int .i64 (n : Int)) (.map (some w.heap.size)) 44
  obtain ⟨w2, hw2⟩ : ∃ w2, w1.alloc (.cells #[.int .i64 (n : Int), .map (some w.heap.size)] 44) = w2 := ⟨_, rfl⟩
  rw [hw2] at b2 c0 c1 cz
  have m2 := m1.later b2
  have hT : Hid (NewT w n (.returned (.pointer (some ⟨w1.heap.size, 0, none⟩))) w2) := Lib.hid ⟨w1.heap.size, w.heap.size, rfl, ⟨by have := b2.size; rw [← hw2]; simp, by omega, c0, c1, cz, m2, Tb.nil b.1 b.2⟩, by omega, Nat.le_refl _, b1.trans (b2.mono (by omega))⟩
  clear m1 b1 b2 c0 c1 cz m2
  go_enter Tryz.func4, Tryz.ntmps4
  go_wp2_with fail
  go_ret
  have hT' := hT.out
  rw [s1] at hT'
  rw [← e, hw2]
  exact hT'
theorem lenT {w : World} {r : Nat} {L : List Se} (h : MapT w r L) (ty : TypeId) : (Builtin.len_ #[42] ty #[.map (some r)]).run Tryz.prog w = .ok (.int .i64 (L.length : Int)) w := by
  obtain ⟨es, clock, hb, -, hp⟩ := h
  have e : es.size = L.length := by have := hp.length_eq; simpa using this
  simp [Builtin.len_, run_underlying Tryz.underlying42, Go.MapKept.run_getObj_map hb, Result.andThen, goInt, e]
/-- How a call on a table ends: v is answered, its map alone has turned. -/
def EndT (w : World) (T r most : Nat) (M : List Se) (v : Value) (e : Ending) (w' : World) : Prop := e = .returned v ∧ Tab w' T r most M ∧ But2 w.heap.size r w w'
theorem Tab.valS {w : World} {T r most : Nat} {L : List Se} (h : Tab w T r most L) (i : Int) : (Instr.lookup 42 (.map (some r)) (.int .i64 i) true).run Tryz.prog w = .ok (.tuple #[.agg #[.int .i64 (usedOf i L), .int .i64 (seqOf i L), .int .i64 (repOf i L).e, .int .i64 (repOf i L).n, .int .i64 (repOf i L).K, .int .i64 (repOf i L).m, .string (repOf i L).s], .bool (findS i L).isSome]) w := by
  have := lookupT (i := i) h.m h.t.up
  rwa [valS_eq] at this
set_option maxHeartbeats 2000000 in
set_option maxRecDepth 100000 in
theorem stopen_any (T r most : Nat) (L : List Se) (i : Int) (w : World) (h : Tab w T r most L) :
    Calls Tryz.prog 9 #[.pointer (some ⟨T, 0, none⟩), .int .i64 i] w (EndT w T r most (openS most i L).2 (.tuple #[.int .i64 (openS most i L).1.1, .bool (openS most i L).1.2])) := by
  have H := Lib.hid h
  have hc1 := h.c1
  have hlk := h.valS i
  generalize usedOf i L = ux at *
  generalize seqOf i L = qx at *
  generalize repOf i L = rx at *
  obtain ⟨ex, nx, kx, mx, sx⟩ := rx
  dsimp only at hlk
  have hb1 := Ss.below_alloc w (.cells #[.int .i64 ux, .int .i64 qx, .int .i64 ex, .int .i64 nx, .int .i64 kx, .int .i64 mx, .string sx] 68)
  obtain ⟨w1, hw1⟩ : ∃ w1, w.alloc (.cells #[.int .i64 ux, .int .i64 qx, .int .i64 ex, .int .i64 nx, .int .i64 kx, .int .i64 mx, .string sx] 68) = w1 := ⟨_, rfl⟩
  rw [hw1] at hb1
  have H1 := Lib.hid (h.later hb1)
  have HB1 := Lib.hid (But2.of (a := w.heap.size) (b := r) hb1)
  clear h hb1
  by_cases hf : (findS i L).isSome = true
  · have hm : mayS i L = false := by unfold mayS; cases hx : findS i L <;> simp_all
    have HE : Hid (EndT w T r most (openS most i L).2 (.tuple #[.int .i64 (openS most i L).1.1, .bool (openS most i L).1.2]) = EndT w T r most L (.tuple #[.int .i64 0, .bool false])) := Lib.hid (by unfold openS; rw [hm]; rfl)
    rw [HE.out]
    rw [hf] at hlk
    go_enter Tryz.func9, Tryz.ntmps9
    go_wp2_with fail
    go_ret2
    exact ⟨rfl, H1.out, HB1.out⟩
  · have hf0 : (findS i L).isSome = false := by simpa using hf
    rw [hf0] at hlk
    have hn : findS i L = none := by simpa using hf0
    have cw := fun W => stwithin_any 1 i W
    by_cases hw : wi 1 i = true
    · have hm : mayS i L = true := by unfold mayS; rw [hn, hw]; rfl
      rw [hw] at cw
      have hlen := lenT (H1.out.m.same (w' := w1.drew) rfl) 3
      have hd1 : w1.drew.cell? ⟨T, 1, none⟩ = some (.map (some r)) := H1.out.c1
      have hd0 : w1.drew.cell? ⟨T, 0, none⟩ = some (.int .i64 (most : Int)) := H1.out.c0
      by_cases hl : L.length < most
      · have HE : Hid (EndT w T r most (openS most i L).2 (.tuple #[.int .i64 (openS most i L).1.1, .bool (openS most i L).1.2]) = EndT w T r most (insS (newS i) L) (.tuple #[.int .i64 0, .bool true])) := Lib.hid (by unfold openS; rw [hm, if_pos rfl, if_pos hl])
        rw [HE.out]
        have hne : ((L.length : Int) == (most : Int)) = false := by simp; omega
        obtain ⟨w', hput, hB, hM⟩ := insT (a := w.heap.size) (newS i) (H1.out.m.same (w' := w1.drew) rfl) H1.out.t.up (fun s hs => findS_none.1 hn s hs)
        go_enter Tryz.func9, Tryz.ntmps9
        go_wp2_with fail
        refine (cw _).mono ?_
        rintro e w9 ⟨rfl, rfl⟩
        go_wp2_with fail
        refine wp_region_still_lit (by kernel_rfl) (by kernel_rfl) ?_
        repeat still_step
        refine wpStill_nil ?_
        have hput' : (Instr.mapUpdate 42 (.map (some r)) (.int .i64 i) (.agg #[.int .i64 i, .int .i64 0, .int .i64 0, .int .i64 0, .int .i64 0, .int .i64 0, .string ⟨#[]⟩])).run Tryz.prog w9.drew = .ok () w' := hput
        clear hput
        go_wp2_with fail
        go_ret2
        have hB2 : But2 w.heap.size r w w' := (HB1.out.trans (But2.of (Ss.below_drw (Below.refl _ _) 1))).trans hB
        have hT := H.out.lt
        have ht := H.out.t.open i
        unfold openS at ht
        rw [hm, if_pos rfl, if_pos hl] at ht
        exact ⟨rfl, H.out.turn hB2 (by omega) hM ht, hB2⟩
      · have hle := H.out.t.len
        have hlo := H.out.t.lo
        have HE : Hid (EndT w T r most (openS most i L).2 (.tuple #[.int .i64 (openS most i L).1.1, .bool (openS most i L).1.2]) = EndT w T r most (insS (newS i) (remS (goneS L) L)) (.tuple #[.int .i64 (goneS L), .bool true])) := Lib.hid (by unfold openS; rw [hm, if_pos rfl, if_neg hl])
        rw [HE.out]
        have hne : ((L.length : Int) == (most : Int)) = true := by simp; omega
        have cq := stquietest_any T r most L w1.drew (H1.out.later (Ss.below_drw (Below.refl _ _) 1)) (by omega)
        have hm2 := Lib.hid hm
        have hl2 := Lib.hid hl
        generalize hgo : goneS L = go at cq ⊢
        have hgo2 := Lib.hid hgo
        clear hgo hm hl
        go_enter Tryz.func9, Tryz.ntmps9
        go_wp2_with fail
        refine (cw _).mono ?_
        rintro e w9 ⟨rfl, rfl⟩
        go_wp2_with fail
        refine wp_region_still_lit (by kernel_rfl) (by kernel_rfl) ?_
        repeat still_step
        refine wpStill_nil ?_
        go_wp2_with fail
        refine cq.mono ?_
        rintro e w3 ⟨rfl, hb3⟩
        have HB3 := Lib.hid (HB1.out.trans ((But2.of (Ss.below_drw (Below.refl _ _) 1)).trans (But2.of hb3)))
        have H3 := H1.out.later (Ss.below_drw (Below.refl w9.heap.size w9) 1)
        have H3 := H3.later hb3
        have e1 := H3.c1
        obtain ⟨w4, hdel, hB4, hM4⟩ := delT (a := w.heap.size) (i := go) (ty := 0) H3.m H3.t.up
        have HB4 := Lib.hid (HB3.out.trans hB4)
        have hTl := H.out.lt
        have H4 := H.out.turn HB4.out (by omega) hM4 (H3.t.sub List.filter_sublist)
        have e2 := H4.c1
        have hup4 := H4.t.up
        have hn4 : ∀ s ∈ remS go L, s.id ≠ (newS i).id := fun s hs => findS_none.1 hn s (remS_mem.1 hs).1
        obtain ⟨w5, hput, hB5, hM5⟩ := insT (a := w.heap.size) (newS i) hM4 hup4 hn4
        have HB5 := Lib.hid (HB4.out.trans hB5)
        have HM5 := Lib.hid hM5
        have hput' : (Instr.mapUpdate 42 (.map (some r)) (.int .i64 i) (.agg #[.int .i64 i, .int .i64 0, .int .i64 0, .int .i64 0, .int .i64 0, .int .i64 0, .string ⟨#[]⟩])).run Tryz.prog w4 = .ok () w5 := hput
        clear hput hb3 hB4 hM4 hB5 hM5 H3 H4 hup4 hn4
        go_wp2_with fail
        go_ret2
        have ht := H.out.t.open i
        unfold openS at ht
        rw [hm2.out, if_pos rfl, if_neg hl2.out, hgo2.out] at ht
        exact ⟨rfl, H.out.turn HB5.out (by omega) HM5.out ht, HB5.out⟩
    · have hm : mayS i L = false := by unfold mayS; simp [hw]
      have hw0 : wi 1 i = false := by simpa using hw
      rw [hw0] at cw
      have HE : Hid (EndT w T r most (openS most i L).2 (.tuple #[.int .i64 (openS most i L).1.1, .bool (openS most i L).1.2]) = EndT w T r most L (.tuple #[.int .i64 0, .bool false])) := Lib.hid (by unfold openS; rw [hm]; rfl)
      rw [HE.out]
      go_enter Tryz.func9, Tryz.ntmps9
      go_wp2_with fail
      refine (cw _).mono ?_
      rintro e w9 ⟨rfl, rfl⟩
      go_wp2_with fail
      go_ret2
      exact ⟨rfl, H1.out, HB1.out⟩
end Go.Proofs.YtindkpfmflcibaaGreatDoor
