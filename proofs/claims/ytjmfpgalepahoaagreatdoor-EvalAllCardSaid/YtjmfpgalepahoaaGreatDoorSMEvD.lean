/- EvD -/
import Derived.Test.YtjmfpgalepahoaaGreatDoorSHE
namespace Go.Proofs.YtjmfpgalepahoaaGreatDoor
section
set_option maxHeartbeats 4000000
set_option maxRecDepth 100000
open Go.RowKit
theorem either2 (n : Int) (b : Va) (w : World) (hb : b.k = 2) (hn : b.n = n) : Calls Tryz.prog 170 #[.bool (n == 1)] w (Comes w b) := by
 have HV : Hid (bxV b = .iface 4 (.bool (n == 1))) := Lib.hid (by rw [bx_2 hb, hn])
 generalize (n == 1) = Z at *
 go_enter Tryz.func170, Tryz.ntmps170
 go_wp2_with fail
 go_ret
 exact ⟨by rw [HV.out]; rfl, Below.refl _ _⟩
theorem either1 (A B : Option Addr) (l c m d : Nat) (pd pk ps g o len cap : Nat) (opy ny : Int) (sy : ByteArray) (kvy : Value) (D : Bool) (a b : Va) (w : World) (ha : a.k = 2) (hb : b.ok) (hT : Tabs w) (hlen : 1 < len) (hcap : len ≤ cap)
  (d0 : w.cell? ⟨pd, 0, none⟩ = some (.bool D)) (k0 : w.cell? ⟨pk, 0, none⟩ = some (.slice A l c)) (k1 : w.cell? ⟨pk, 1, none⟩ = some (.slice B m d)) (s0 : w.cell? ⟨ps, 0, none⟩ = some (.slice (some ⟨g, o, none⟩) len cap))
  (y0 : w.cell? ⟨g, o + 4, none⟩ = some (.int .i64 opy)) (y1 : w.cell? ⟨g, o + 4 + 1, none⟩ = some (.int .i64 ny)) (y2 : w.cell? ⟨g, o + 4 + 2, none⟩ = some (.string sy)) (y3 : w.cell? ⟨g, o + 4 + 3, none⟩ = some kvy)
  (ky : ∀ w', Below w.heap.size w w' → Calls Tryz.prog 52 #[KE A l c B m d, .agg #[.int .i64 opy, .int .i64 ny, .string sy, kvy]] w' (Comes w' b)) :
  Calls Tryz.prog 169 #[.bool (a.n == 1), .pointer (some ⟨pd, 0, none⟩), .pointer (some ⟨pk, 0, none⟩), .pointer (some ⟨ps, 0, none⟩)] w (Comes w (if (a.n == 1) = D then a else wantV 2 b b)) := by
 have hlz : (1 : Int) ≤ (len : Int) := by omega
 have hcz : ¬ cap = 1 := by omega
 have hkz : 1 ≤ len := by omega
 have gg : g < w.heap.size := World.block_lt_of_cell? w ⟨g, o + 4, none⟩ y0
 have gk : pk < w.heap.size := World.block_lt_of_cell? w ⟨pk, 0, none⟩ k0
 have gs : ps < w.heap.size := World.block_lt_of_cell? w ⟨ps, 0, none⟩ s0
 have hen1 : ∀ xs w, (callFunc 170 xs).run Tryz.prog w = .ok (.enter 170 xs) w := fun _ _ => by kernel_rfl
 have cO : ∀ w', Below w.heap.size w w' → Calls Tryz.prog 97 #[KE A l c B m d, .slice (some ⟨g, o + 4, none⟩) (len - 1) (cap - 1), .func (.func 170) #[] #[]] w' (Comes w' (wantV 2 b b)) := fun w' hw =>
  one_bool A B l c m d g (o + 4) (len - 1) (cap - 1) opy ny sy kvy b b 170 hen1 #[] w' hb (hT.later hw) (by omega) ((hw.cell (p := ⟨g, o + 4, none⟩) gg).trans y0) ((hw.cell (p := ⟨g, o + 4 + 1, none⟩) gg).trans y1) ((hw.cell (p := ⟨g, o + 4 + 2, none⟩) gg).trans y2) ((hw.cell (p := ⟨g, o + 4 + 3, none⟩) gg).trans y3) (fun w2 hw2 => ky w2 (below_to hw hw2))
   (fun hk w2 _ => either2 b.n b w2 hk rfl)
 have HVA : Hid (bxV a = .iface 4 (.bool (a.n == 1))) := Lib.hid (bx_2 ha)
 have HI1 : Hid ((a.n == 1) = D → bxV (if (a.n == 1) = D then a else wantV 2 b b) = .iface 4 (.bool (a.n == 1))) := Lib.hid (fun h => by rw [if_pos h]; exact bx_2 ha)
 have HI2 : Hid (¬ (a.n == 1) = D → (if (a.n == 1) = D then a else wantV 2 b b) = wantV 2 b b) := Lib.hid (fun h => if_neg h)
 clear y0 y1 y2 y3 hT ky hen1 HVA
 generalize (if (a.n == 1) = D then a else wantV 2 b b) = V at *
 generalize (a.n == 1) = Z at *
 cases Z <;> cases D
 all_goals
  go_enter Tryz.func169, Tryz.ntmps169
  go_wp2_with fail
  try (go_ret; exact ⟨by rw [HI1.out (by first | rfl | trivial)]; rfl, Below.refl _ _⟩)
 all_goals
  refine wp_region_held_drew (S := fun w' => Below w.heap.size w w') (by kernel_rfl) ((Below.refl _ _).drew) (fun hHeld => ?_)
  refine held_take (i := 0) (v := ?_) rfl (by kernel_rfl) (by kernel_rfl) (by kernel_rfl) (fun _ _ _ h => h) (by rfl) hHeld ?_ ?_
  rotate_left
  ·intro wz hSz; have q0 := (hSz.cell (p := ⟨pk, 0, none⟩) gk).trans k0; have q1 := (hSz.cell (p := ⟨pk, 1, none⟩) gk).trans k1; go_simp; try with_reducible rfl
  simp only [Act.put, List.setIfInBounds_toArray, List.set_cons_zero, List.set_cons_succ]
  refine held_take (i := 1) (v := ?_) rfl (by kernel_rfl) (by kernel_rfl) (by kernel_rfl) (fun _ _ _ h => h) (by rfl) hHeld ?_ ?_
  rotate_left
  ·intro wz hSz; have q0 := (hSz.cell (p := ⟨ps, 0, none⟩) gs).trans s0; go_simp; try with_reducible rfl
  simp only [Act.put, List.setIfInBounds_toArray, List.set_cons_zero, List.set_cons_succ]
  refine held_take (i := 2) (v := ?_) rfl (by kernel_rfl) (by kernel_rfl) (by kernel_rfl) (fun _ _ _ h => h) (by rfl) hHeld ?_ ?_
  rotate_left
  ·intro wz hSz; go_simp; try with_reducible rfl
  simp only [Act.put, List.setIfInBounds_toArray, List.set_cons_zero, List.set_cons_succ]
  refine held_call (i := 3) (by kernel_rfl) rfl (by rfl) (by go_simp; try with_reducible rfl) (cO _ hHeld) ?_
  rintro e wy ⟨rfl, hy⟩
  refine ⟨_, rfl, below_to hHeld hy, ?_⟩
  replace hHeld := below_to hHeld hy
  simp only [Act.put, List.setIfInBounds_toArray, List.set_cons_zero, List.set_cons_succ]
  refine held_take (i := 4) (v := ?_) rfl (by kernel_rfl) (by kernel_rfl) (by kernel_rfl) (fun _ _ _ h => h) (by rfl) hHeld ?_ ?_
  rotate_left
  ·intro wz hSz; go_simp; try with_reducible rfl
  simp only [Act.put, List.setIfInBounds_toArray, List.set_cons_zero, List.set_cons_succ]
  refine wpAnyH_done (by kernel_rfl) ?_ _
  have HB2 := Lib.hid hHeld
  go_wp2_with fail
  go_ret
  exact ⟨by rw [HI2.out (by decide)]; rfl, HB2.out⟩
theorem either_any (A B : Option Addr) (l c m d : Nat) (g o len cap : Nat) (opx nx : Int) (sx : ByteArray) (kvx : Value) (opy ny : Int) (sy : ByteArray) (kvy : Value) (D : Bool) (a b : Va) (w : World) (ha : a.ok) (hb : b.ok) (hT : Tabs w) (hlen : 1 < len) (hcap : len ≤ cap)
  (x0 : w.cell? ⟨g, o, none⟩ = some (.int .i64 opx)) (x1 : w.cell? ⟨g, o + 1, none⟩ = some (.int .i64 nx)) (x2 : w.cell? ⟨g, o + 2, none⟩ = some (.string sx)) (x3 : w.cell? ⟨g, o + 3, none⟩ = some kvx)
  (y0 : w.cell? ⟨g, o + 4, none⟩ = some (.int .i64 opy)) (y1 : w.cell? ⟨g, o + 4 + 1, none⟩ = some (.int .i64 ny)) (y2 : w.cell? ⟨g, o + 4 + 2, none⟩ = some (.string sy)) (y3 : w.cell? ⟨g, o + 4 + 3, none⟩ = some kvy)
  (kx : ∀ w', Below w.heap.size w w' → Calls Tryz.prog 52 #[KE A l c B m d, .agg #[.int .i64 opx, .int .i64 nx, .string sx, kvx]] w' (Comes w' a))
  (ky : ∀ w', Below w.heap.size w w' → Calls Tryz.prog 52 #[KE A l c B m d, .agg #[.int .i64 opy, .int .i64 ny, .string sy, kvy]] w' (Comes w' b)) :
  Calls Tryz.prog 99 #[KE A l c B m d, .slice (some ⟨g, o, none⟩) len cap, .bool D] w (Comes w (wantV 2 a (if (a.n == 1) = D then a else wantV 2 b b))) := by
 have hmf := mkfunc
 have hen1 : ∀ xs w, (callFunc 169 xs).run Tryz.prog w = .ok (.enter 169 xs) w := fun _ _ => by kernel_rfl
 have hgl : g < w.heap.size := World.block_lt_of_cell? w ⟨g, o, none⟩ x0
 have hb1 := below_alloc w (.cells #[.slice A l c, .slice B m d] 88)
 have hs1 := alloc_size w (.cells #[.slice A l c, .slice B m d] 88)
 have k0 : (w.alloc (.cells #[.slice A l c, .slice B m d] 88)).cell? ⟨w.heap.size, 0, none⟩ = some (.slice A l c) := by rw [cells_of_alloc]; rfl
 have k1 : (w.alloc (.cells #[.slice A l c, .slice B m d] 88)).cell? ⟨w.heap.size, 1, none⟩ = some (.slice B m d) := by rw [cells_of_alloc]; rfl
 obtain ⟨w1, hw1⟩ : ∃ w1, w.alloc (.cells #[.slice A l c, .slice B m d] 88) = w1 := ⟨_, rfl⟩
 rw [hw1] at hb1 hs1 k0 k1
 have hb2 := below_alloc w1 (.cells #[.slice (some ⟨g, o, none⟩) len cap] 23)
 have hs2 := alloc_size w1 (.cells #[.slice (some ⟨g, o, none⟩) len cap] 23)
 have s0 : (w1.alloc (.cells #[.slice (some ⟨g, o, none⟩) len cap] 23)).cell? ⟨w1.heap.size, 0, none⟩ = some (.slice (some ⟨g, o, none⟩) len cap) := by rw [cells_of_alloc]; rfl
 obtain ⟨w2, hw2⟩ : ∃ w2, w1.alloc (.cells #[.slice (some ⟨g, o, none⟩) len cap] 23) = w2 := ⟨_, rfl⟩
 rw [hw2] at hb2 hs2 s0
 have hb3 := below_alloc w2 (.cells #[.bool D] 4)
 have hs3 := alloc_size w2 (.cells #[.bool D] 4)
 have f0 : (w2.alloc (.cells #[.bool D] 4)).cell? ⟨w2.heap.size, 0, none⟩ = some (.bool D) := by rw [cells_of_alloc]; rfl
 obtain ⟨w3, hw3⟩ : ∃ w3, w2.alloc (.cells #[.bool D] 4) = w3 := ⟨_, rfl⟩
 rw [hw3] at hb3 hs3 f0
 have hB := below_to (below_to hb1 hb2) hb3
 have HB := Lib.hid hB
 have k0 := ((below_to hb2 hb3).cell (p := ⟨w.heap.size, 0, none⟩) (show w.heap.size < w1.heap.size by omega)).trans k0
 have k1 := ((below_to hb2 hb3).cell (p := ⟨w.heap.size, 1, none⟩) (show w.heap.size < w1.heap.size by omega)).trans k1
 have s0 := (hb3.cell (p := ⟨w1.heap.size, 0, none⟩) (show w1.heap.size < w2.heap.size by omega)).trans s0
 have HT := Lib.hid (hT.later hB)
 have HX := Lib.hid kx
 have HY := Lib.hid ky
 have g0 : w.heap.size < w3.heap.size := by omega
 have g1 : w1.heap.size < w3.heap.size := by omega
 have g2 : w2.heap.size < w3.heap.size := by omega
 have gg : g < w3.heap.size := by omega
 have x0 := (hB.cell (p := ⟨g, o, none⟩) hgl).trans x0
 have x1 := (hB.cell (p := ⟨g, o + 1, none⟩) hgl).trans x1
 have x2 := (hB.cell (p := ⟨g, o + 2, none⟩) hgl).trans x2
 have x3 := (hB.cell (p := ⟨g, o + 3, none⟩) hgl).trans x3
 have y0 := (hB.cell (p := ⟨g, o + 4, none⟩) hgl).trans y0
 have y1 := (hB.cell (p := ⟨g, o + 4 + 1, none⟩) hgl).trans y1
 have y2 := (hB.cell (p := ⟨g, o + 4 + 2, none⟩) hgl).trans y2
 have y3 := (hB.cell (p := ⟨g, o + 4 + 3, none⟩) hgl).trans y3
 have cO : Calls Tryz.prog 97 #[KE A l c B m d, .slice (some ⟨g, o, none⟩) len cap, .func (.func 169) #[] #[.pointer (some ⟨w2.heap.size, 0, none⟩), .pointer (some ⟨w.heap.size, 0, none⟩), .pointer (some ⟨w1.heap.size, 0, none⟩)]] w3 (Comes w3 (wantV 2 a (if (a.n == 1) = D then a else wantV 2 b b))) :=
  one_bool A B l c m d g o len cap opx nx sx kvx a (if (a.n == 1) = D then a else wantV 2 b b) 169 hen1 _ w3 ha HT.out (by omega) x0 x1 x2 x3
   (fun w' hw => HX.out w' (below_to HB.out hw))
   (fun hk w' hw => either1 A B l c m d w2.heap.size w.heap.size w1.heap.size g o len cap opy ny sy kvy D a b w' hk hb (HT.out.later hw) hlen hcap
    ((hw.cell (p := ⟨w2.heap.size, 0, none⟩) g2).trans f0) ((hw.cell (p := ⟨w.heap.size, 0, none⟩) g0).trans k0) ((hw.cell (p := ⟨w.heap.size, 1, none⟩) g0).trans k1) ((hw.cell (p := ⟨w1.heap.size, 0, none⟩) g1).trans s0)
    ((hw.cell (p := ⟨g, o + 4, none⟩) gg).trans y0) ((hw.cell (p := ⟨g, o + 4 + 1, none⟩) gg).trans y1) ((hw.cell (p := ⟨g, o + 4 + 2, none⟩) gg).trans y2) ((hw.cell (p := ⟨g, o + 4 + 3, none⟩) gg).trans y3) (fun w4 hw4 => HY.out w4 (below_to HB.out (below_to hw hw4))))
 clear x0 x1 x2 x3 y0 y1 y2 y3 hT hgl hb1 hb2 hb3 hs1 hs2 hs3 kx ky hen1 hB
 generalize (if (a.n == 1) = D then a else wantV 2 b b) = V at *
 go_enter Tryz.func99, Tryz.ntmps99
 go_wp2_with fail
 refine cO.mono ?_
 rintro e w5 ⟨rfl, b5⟩
 go_wp2_with fail
 go_ret
 exact ⟨rfl, below_to HB.out b5⟩
theorem chosen1 (A B : Option Addr) (l c m d : Nat) (pk ps g o len cap : Nat) (opy ny : Int) (sy : ByteArray) (kvy : Value) (opz nz : Int) (sz : ByteArray) (kvz : Value) (a b t : Va) (w : World) (hlen : 2 < len)
  (k0 : w.cell? ⟨pk, 0, none⟩ = some (.slice A l c)) (k1 : w.cell? ⟨pk, 1, none⟩ = some (.slice B m d)) (s0 : w.cell? ⟨ps, 0, none⟩ = some (.slice (some ⟨g, o, none⟩) len cap))
  (y0 : w.cell? ⟨g, o + 4, none⟩ = some (.int .i64 opy)) (y1 : w.cell? ⟨g, o + 4 + 1, none⟩ = some (.int .i64 ny)) (y2 : w.cell? ⟨g, o + 4 + 2, none⟩ = some (.string sy)) (y3 : w.cell? ⟨g, o + 4 + 3, none⟩ = some kvy)
  (z0 : w.cell? ⟨g, o + 8, none⟩ = some (.int .i64 opz)) (z1 : w.cell? ⟨g, o + 8 + 1, none⟩ = some (.int .i64 nz)) (z2 : w.cell? ⟨g, o + 8 + 2, none⟩ = some (.string sz)) (z3 : w.cell? ⟨g, o + 8 + 3, none⟩ = some kvz)
  (ky : ∀ w', Below w.heap.size w w' → Calls Tryz.prog 52 #[KE A l c B m d, .agg #[.int .i64 opy, .int .i64 ny, .string sy, kvy]] w' (Comes w' b))
  (kz : ∀ w', Below w.heap.size w w' → Calls Tryz.prog 52 #[KE A l c B m d, .agg #[.int .i64 opz, .int .i64 nz, .string sz, kvz]] w' (Comes w' t)) :
  Calls Tryz.prog 177 #[.bool (a.n == 1), .pointer (some ⟨pk, 0, none⟩), .pointer (some ⟨ps, 0, none⟩)] w (Comes w (if a.n = 1 then b else t)) := by
 have hlz1 : (1 : Int) < (len : Int) := by omega
 have hlz2 : (2 : Int) < (len : Int) := by omega
 have gg : g < w.heap.size := World.block_lt_of_cell? w ⟨g, o + 4, none⟩ y0
 have gk : pk < w.heap.size := World.block_lt_of_cell? w ⟨pk, 0, none⟩ k0
 have gs : ps < w.heap.size := World.block_lt_of_cell? w ⟨ps, 0, none⟩ s0
 have HI : Hid (∀ V : Va, V = (if (a.n == 1) = true then b else t) → V = (if a.n = 1 then b else t)) := Lib.hid (fun V h => by rw [h]; simp)
 generalize (a.n == 1) = Z at *
 generalize (if a.n = 1 then b else t) = V at *
 cases Z
 ·have HV : Hid (V = t) := Lib.hid (by have := HI.out t (by simp); exact this.symm)
  go_enter Tryz.func177, Tryz.ntmps177
  go_wp2_with fail
  refine wp_region_held_drew (S := fun w' => Below w.heap.size w w') (by kernel_rfl) ((Below.refl _ _).drew) (fun hHeld => ?_)
  refine held_take (i := 0) (v := ?_) rfl (by kernel_rfl) (by kernel_rfl) (by kernel_rfl) (fun _ _ _ h => h) (by rfl) hHeld ?_ ?_
  rotate_left
  ·intro wz hSz; have q0 := (hSz.cell (p := ⟨pk, 0, none⟩) gk).trans k0; have q1 := (hSz.cell (p := ⟨pk, 1, none⟩) gk).trans k1; go_simp; try with_reducible rfl
  simp only [Act.put, List.setIfInBounds_toArray, List.set_cons_zero, List.set_cons_succ]
  refine held_take (i := 1) (v := ?_) rfl (by kernel_rfl) (by kernel_rfl) (by kernel_rfl) (fun _ _ _ h => h) (by rfl) hHeld ?_ ?_
  rotate_left
  ·intro wz hSz; have q0 := (hSz.cell (p := ⟨ps, 0, none⟩) gs).trans s0; go_simp; try with_reducible rfl
  simp only [Act.put, List.setIfInBounds_toArray, List.set_cons_zero, List.set_cons_succ]
  refine held_take (i := 2) (v := ?_) rfl (by kernel_rfl) (by kernel_rfl) (by kernel_rfl) (fun _ _ _ h => h) (by rfl) hHeld ?_ ?_
  rotate_left
  ·intro wz hSz; go_simp; try with_reducible rfl
  simp only [Act.put, List.setIfInBounds_toArray, List.set_cons_zero, List.set_cons_succ]
  refine held_take (i := 3) (v := ?_) rfl (by kernel_rfl) (by kernel_rfl) (by kernel_rfl) (fun _ _ _ h => h) (by rfl) hHeld ?_ ?_
  rotate_left
  ·intro wz hSz; have q0 := (hSz.cell (p := ⟨g, o + 8, none⟩) gg).trans z0; have q1 := (hSz.cell (p := ⟨g, o + 8 + 1, none⟩) gg).trans z1; have q2 := (hSz.cell (p := ⟨g, o + 8 + 2, none⟩) gg).trans z2; have q3 := (hSz.cell (p := ⟨g, o + 8 + 3, none⟩) gg).trans z3; go_simp; try with_reducible rfl
  simp only [Act.put, List.setIfInBounds_toArray, List.set_cons_zero, List.set_cons_succ]
  refine held_call (i := 4) (by kernel_rfl) rfl (by rfl) (by go_simp; try with_reducible rfl) (kz _ hHeld) ?_
  rintro e wy ⟨rfl, hy⟩
  refine ⟨_, rfl, below_to hHeld hy, ?_⟩
  replace hHeld := below_to hHeld hy
  simp only [Act.put, List.setIfInBounds_toArray, List.set_cons_zero, List.set_cons_succ]
  refine held_take (i := 5) (v := ?_) rfl (by kernel_rfl) (by kernel_rfl) (by kernel_rfl) (fun _ _ _ h => h) (by rfl) hHeld ?_ ?_
  rotate_left
  ·intro wz hSz; go_simp; try with_reducible rfl
  simp only [Act.put, List.setIfInBounds_toArray, List.set_cons_zero, List.set_cons_succ]
  refine wpAnyH_done (by kernel_rfl) ?_ _
  have HB2 := Lib.hid hHeld
  go_wp2_with fail
  go_ret
  exact ⟨by rw [HV.out]; rfl, HB2.out⟩
 ·have HV : Hid (V = b) := Lib.hid (by have := HI.out b (by simp); exact this.symm)
  go_enter Tryz.func177, Tryz.ntmps177
  go_wp2_with fail
  refine wp_region_held_drew (S := fun w' => Below w.heap.size w w') (by kernel_rfl) ((Below.refl _ _).drew) (fun hHeld => ?_)
  refine held_take (i := 0) (v := ?_) rfl (by kernel_rfl) (by kernel_rfl) (by kernel_rfl) (fun _ _ _ h => h) (by rfl) hHeld ?_ ?_
  rotate_left
  ·intro wz hSz; have q0 := (hSz.cell (p := ⟨pk, 0, none⟩) gk).trans k0; have q1 := (hSz.cell (p := ⟨pk, 1, none⟩) gk).trans k1; go_simp; try with_reducible rfl
  simp only [Act.put, List.setIfInBounds_toArray, List.set_cons_zero, List.set_cons_succ]
  refine held_take (i := 1) (v := ?_) rfl (by kernel_rfl) (by kernel_rfl) (by kernel_rfl) (fun _ _ _ h => h) (by rfl) hHeld ?_ ?_
  rotate_left
  ·intro wz hSz; have q0 := (hSz.cell (p := ⟨ps, 0, none⟩) gs).trans s0; go_simp; try with_reducible rfl
  simp only [Act.put, List.setIfInBounds_toArray, List.set_cons_zero, List.set_cons_succ]
  refine held_take (i := 2) (v := ?_) rfl (by kernel_rfl) (by kernel_rfl) (by kernel_rfl) (fun _ _ _ h => h) (by rfl) hHeld ?_ ?_
  rotate_left
  ·intro wz hSz; go_simp; try with_reducible rfl
  simp only [Act.put, List.setIfInBounds_toArray, List.set_cons_zero, List.set_cons_succ]
  refine held_take (i := 3) (v := ?_) rfl (by kernel_rfl) (by kernel_rfl) (by kernel_rfl) (fun _ _ _ h => h) (by rfl) hHeld ?_ ?_
  rotate_left
  ·intro wz hSz; have q0 := (hSz.cell (p := ⟨g, o + 4, none⟩) gg).trans y0; have q1 := (hSz.cell (p := ⟨g, o + 4 + 1, none⟩) gg).trans y1; have q2 := (hSz.cell (p := ⟨g, o + 4 + 2, none⟩) gg).trans y2; have q3 := (hSz.cell (p := ⟨g, o + 4 + 3, none⟩) gg).trans y3; go_simp; try with_reducible rfl
  simp only [Act.put, List.setIfInBounds_toArray, List.set_cons_zero, List.set_cons_succ]
  refine held_call (i := 4) (by kernel_rfl) rfl (by rfl) (by go_simp; try with_reducible rfl) (ky _ hHeld) ?_
  rintro e wy ⟨rfl, hy⟩
  refine ⟨_, rfl, below_to hHeld hy, ?_⟩
  replace hHeld := below_to hHeld hy
  simp only [Act.put, List.setIfInBounds_toArray, List.set_cons_zero, List.set_cons_succ]
  refine held_take (i := 5) (v := ?_) rfl (by kernel_rfl) (by kernel_rfl) (by kernel_rfl) (fun _ _ _ h => h) (by rfl) hHeld ?_ ?_
  rotate_left
  ·intro wz hSz; go_simp; try with_reducible rfl
  simp only [Act.put, List.setIfInBounds_toArray, List.set_cons_zero, List.set_cons_succ]
  refine wpAnyH_done (by kernel_rfl) ?_ _
  have HB2 := Lib.hid hHeld
  go_wp2_with fail
  go_ret
  exact ⟨by rw [HV.out]; rfl, HB2.out⟩
theorem chosen_any (A B : Option Addr) (l c m d : Nat) (g o len cap : Nat) (opx nx : Int) (sx : ByteArray) (kvx : Value) (opy ny : Int) (sy : ByteArray) (kvy : Value) (opz nz : Int) (sz : ByteArray) (kvz : Value) (a b t : Va) (w : World) (ha : a.ok) (hT : Tabs w) (hlen : 2 < len)
  (x0 : w.cell? ⟨g, o, none⟩ = some (.int .i64 opx)) (x1 : w.cell? ⟨g, o + 1, none⟩ = some (.int .i64 nx)) (x2 : w.cell? ⟨g, o + 2, none⟩ = some (.string sx)) (x3 : w.cell? ⟨g, o + 3, none⟩ = some kvx)
  (y0 : w.cell? ⟨g, o + 4, none⟩ = some (.int .i64 opy)) (y1 : w.cell? ⟨g, o + 4 + 1, none⟩ = some (.int .i64 ny)) (y2 : w.cell? ⟨g, o + 4 + 2, none⟩ = some (.string sy)) (y3 : w.cell? ⟨g, o + 4 + 3, none⟩ = some kvy)
  (z0 : w.cell? ⟨g, o + 8, none⟩ = some (.int .i64 opz)) (z1 : w.cell? ⟨g, o + 8 + 1, none⟩ = some (.int .i64 nz)) (z2 : w.cell? ⟨g, o + 8 + 2, none⟩ = some (.string sz)) (z3 : w.cell? ⟨g, o + 8 + 3, none⟩ = some kvz)
  (kx : ∀ w', Below w.heap.size w w' → Calls Tryz.prog 52 #[KE A l c B m d, .agg #[.int .i64 opx, .int .i64 nx, .string sx, kvx]] w' (Comes w' a))
  (ky : ∀ w', Below w.heap.size w w' → Calls Tryz.prog 52 #[KE A l c B m d, .agg #[.int .i64 opy, .int .i64 ny, .string sy, kvy]] w' (Comes w' b))
  (kz : ∀ w', Below w.heap.size w w' → Calls Tryz.prog 52 #[KE A l c B m d, .agg #[.int .i64 opz, .int .i64 nz, .string sz, kvz]] w' (Comes w' t)) :
  Calls Tryz.prog 101 #[KE A l c B m d, .slice (some ⟨g, o, none⟩) len cap] w (Comes w (wantV 2 a (if a.n = 1 then b else t))) := by
 have hmf := mkfunc
 have hen1 : ∀ xs w, (callFunc 177 xs).run Tryz.prog w = .ok (.enter 177 xs) w := fun _ _ => by kernel_rfl
 have hgl : g < w.heap.size := World.block_lt_of_cell? w ⟨g, o, none⟩ x0
 have hb1 := below_alloc w (.cells #[.slice A l c, .slice B m d] 88)
 have hs1 := alloc_size w (.cells #[.slice A l c, .slice B m d] 88)
 have k0 : (w.alloc (.cells #[.slice A l c, .slice B m d] 88)).cell? ⟨w.heap.size, 0, none⟩ = some (.slice A l c) := by rw [cells_of_alloc]; rfl
 have k1 : (w.alloc (.cells #[.slice A l c, .slice B m d] 88)).cell? ⟨w.heap.size, 1, none⟩ = some (.slice B m d) := by rw [cells_of_alloc]; rfl
 obtain ⟨w1, hw1⟩ : ∃ w1, w.alloc (.cells #[.slice A l c, .slice B m d] 88) = w1 := ⟨_, rfl⟩
 rw [hw1] at hb1 hs1 k0 k1
 have hb2 := below_alloc w1 (.cells #[.slice (some ⟨g, o, none⟩) len cap] 23)
 have hs2 := alloc_size w1 (.cells #[.slice (some ⟨g, o, none⟩) len cap] 23)
 have s0 : (w1.alloc (.cells #[.slice (some ⟨g, o, none⟩) len cap] 23)).cell? ⟨w1.heap.size, 0, none⟩ = some (.slice (some ⟨g, o, none⟩) len cap) := by rw [cells_of_alloc]; rfl
 obtain ⟨w2, hw2⟩ : ∃ w2, w1.alloc (.cells #[.slice (some ⟨g, o, none⟩) len cap] 23) = w2 := ⟨_, rfl⟩
 rw [hw2] at hb2 hs2 s0
 have hB := below_to hb1 hb2
 have HB := Lib.hid hB
 have k0 := (hb2.cell (p := ⟨w.heap.size, 0, none⟩) (show w.heap.size < w1.heap.size by omega)).trans k0
 have k1 := (hb2.cell (p := ⟨w.heap.size, 1, none⟩) (show w.heap.size < w1.heap.size by omega)).trans k1
 have HT := Lib.hid (hT.later hB)
 have HX := Lib.hid kx
 have HY := Lib.hid ky
 have HZ := Lib.hid kz
 have g0 : w.heap.size < w2.heap.size := by omega
 have g1 : w1.heap.size < w2.heap.size := by omega
 have gg : g < w2.heap.size := by omega
 have x0 := (hB.cell (p := ⟨g, o, none⟩) hgl).trans x0
 have x1 := (hB.cell (p := ⟨g, o + 1, none⟩) hgl).trans x1
 have x2 := (hB.cell (p := ⟨g, o + 2, none⟩) hgl).trans x2
 have x3 := (hB.cell (p := ⟨g, o + 3, none⟩) hgl).trans x3
 have y0 := (hB.cell (p := ⟨g, o + 4, none⟩) hgl).trans y0
 have y1 := (hB.cell (p := ⟨g, o + 4 + 1, none⟩) hgl).trans y1
 have y2 := (hB.cell (p := ⟨g, o + 4 + 2, none⟩) hgl).trans y2
 have y3 := (hB.cell (p := ⟨g, o + 4 + 3, none⟩) hgl).trans y3
 have z0 := (hB.cell (p := ⟨g, o + 8, none⟩) hgl).trans z0
 have z1 := (hB.cell (p := ⟨g, o + 8 + 1, none⟩) hgl).trans z1
 have z2 := (hB.cell (p := ⟨g, o + 8 + 2, none⟩) hgl).trans z2
 have z3 := (hB.cell (p := ⟨g, o + 8 + 3, none⟩) hgl).trans z3
 have cO : Calls Tryz.prog 97 #[KE A l c B m d, .slice (some ⟨g, o, none⟩) len cap, .func (.func 177) #[] #[.pointer (some ⟨w.heap.size, 0, none⟩), .pointer (some ⟨w1.heap.size, 0, none⟩)]] w2 (Comes w2 (wantV 2 a (if a.n = 1 then b else t))) :=
  one_bool A B l c m d g o len cap opx nx sx kvx a (if a.n = 1 then b else t) 177 hen1 _ w2 ha HT.out (by omega) x0 x1 x2 x3
   (fun w' hw => HX.out w' (below_to HB.out hw))
   (fun _ w' hw => chosen1 A B l c m d w.heap.size w1.heap.size g o len cap opy ny sy kvy opz nz sz kvz a b t w' hlen
    ((hw.cell (p := ⟨w.heap.size, 0, none⟩) g0).trans k0) ((hw.cell (p := ⟨w.heap.size, 1, none⟩) g0).trans k1) ((hw.cell (p := ⟨w1.heap.size, 0, none⟩) g1).trans s0)
    ((hw.cell (p := ⟨g, o + 4, none⟩) gg).trans y0) ((hw.cell (p := ⟨g, o + 4 + 1, none⟩) gg).trans y1) ((hw.cell (p := ⟨g, o + 4 + 2, none⟩) gg).trans y2) ((hw.cell (p := ⟨g, o + 4 + 3, none⟩) gg).trans y3) ((hw.cell (p := ⟨g, o + 8, none⟩) gg).trans z0) ((hw.cell (p := ⟨g, o + 8 + 1, none⟩) gg).trans z1) ((hw.cell (p := ⟨g, o + 8 + 2, none⟩) gg).trans z2) ((hw.cell (p := ⟨g, o + 8 + 3, none⟩) gg).trans z3) (fun w4 hw4 => HY.out w4 (below_to HB.out (below_to hw hw4))) (fun w4 hw4 => HZ.out w4 (below_to HB.out (below_to hw hw4))))
 clear x0 x1 x2 x3 y0 y1 y2 y3 z0 z1 z2 z3 hT hgl hb1 hb2 hs1 hs2 kx ky kz hen1 hB
 generalize (if a.n = 1 then b else t) = V at *
 go_enter Tryz.func101, Tryz.ntmps101
 go_wp2_with fail
 refine cO.mono ?_
 rintro e w5 ⟨rfl, b5⟩
 go_wp2_with fail
 go_ret
 exact ⟨rfl, below_to HB.out b5⟩
end
end Go.Proofs.YtjmfpgalepahoaaGreatDoor
