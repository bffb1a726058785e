/- EvD, EvX -/
import Derived.Test.YtbbblmedoagncaaGreatDoorSHE
namespace Go.Proofs.YtbbblmedoagncaaGreatDoor
section
open Lib (hid)
open _root_.Go.Proofs.Tryz
set_option maxHeartbeats 4000000
set_option maxRecDepth 100000
open Go.RowKit
theorem either2 (n:Int) (b:Va) (w:World) (hb:b.k=2) (hn:b.n=n):Calls prog 196 #[.bool (n == 1)] w (Comes w b):=by
 have HV:Hid (bxV b=.iface 4 (.bool (n == 1))):=hid (by rw[bx_2 hb,hn])
 generalize (n == 1)=Z at *
 go_enter func196,ntmps196
 go_wp2_with fail
 go_ret
 exact⟨by rw[HV.out];rfl,Below.refl _ _⟩
theorem either1 (A B:Option Addr) (l c m d:Nat) (pd pk ps g o len cap:Nat) (opy ny:Int) (sy:ByteArray) (kvy:Value) (D:Bool) (a b:Va) (w:World) (ha:a.k=2) (hb:b.ok) (hT:Tabs w) (hlen:1<len) (hcap:len≤cap)
  (d0:w.cell? ⟨pd,0,none⟩=some (.bool D)) (k0:w.cell? ⟨pk,0,none⟩=some (.slice A l c)) (k1:w.cell? ⟨pk,1,none⟩=some (.slice B m d)) (s0:w.cell? ⟨ps,0,none⟩=some (.slice (some ⟨g,o,none⟩) len cap))
  (y0:w.cell? ⟨g,o+4,none⟩=some (.int .i64 opy)) (y1:w.cell? ⟨g,o+4+1,none⟩=some (.int .i64 ny)) (y2:w.cell? ⟨g,o+4+2,none⟩=some (.string sy)) (y3:w.cell? ⟨g,o+4+3,none⟩=some kvy)
  (ky:∀ w',Below w.heap.size w w'→Calls prog 49 #[KE A l c B m d,.agg #[.int .i64 opy,.int .i64 ny,.string sy,kvy]] w' (Comes w' b)) :
  Calls prog 195 #[.bool (a.n == 1),.pointer (some ⟨pd,0,none⟩),.pointer (some ⟨pk,0,none⟩),.pointer (some ⟨ps,0,none⟩)] w (Comes w (if (a.n == 1)=D then a else wantV 2 b b)):=by
 have hlz:(1:Int)≤(len:Int):=by omega
 have hcz:¬ cap=1:=by omega
 have hkz:1≤len:=by omega
 have gg:g<w.heap.size:=World.block_lt_of_cell? w ⟨g,o+4,none⟩ y0
 have gk:pk<w.heap.size:=World.block_lt_of_cell? w ⟨pk,0,none⟩ k0
 have gs:ps<w.heap.size:=World.block_lt_of_cell? w ⟨ps,0,none⟩ s0
 have hen1:∀ xs w,(callFunc 196 xs).run prog w=.ok (.enter 196 xs) w:=fun _ _=>by kernel_rfl
 have cO:∀ w',Below w.heap.size w w'→Calls prog 110 #[KE A l c B m d,.slice (some ⟨g,o+4,none⟩) (len - 1) (cap - 1),.func (.func 196) #[] #[]] w' (Comes w' (wantV 2 b b)):=fun w' hw =>
  one_bool A B l c m d g (o+4) (len - 1) (cap - 1) opy ny sy kvy b b 196 hen1 #[] w' hb (hT.later hw) (by omega) ((hw.cell (p:=⟨g,o+4,none⟩) gg).trans y0) ((hw.cell (p:=⟨g,o+4+1,none⟩) gg).trans y1) ((hw.cell (p:=⟨g,o+4+2,none⟩) gg).trans y2) ((hw.cell (p:=⟨g,o+4+3,none⟩) gg).trans y3) (fun w2 hw2=>ky w2 (below_to hw hw2))
   (fun hk w2 _=>either2 b.n b w2 hk rfl)
 have HVA:Hid (bxV a=.iface 4 (.bool (a.n == 1))):=hid (bx_2 ha)
 have HI1:Hid ((a.n == 1)=D→bxV (if (a.n == 1)=D then a else wantV 2 b b)=.iface 4 (.bool (a.n == 1))):=hid (fun h=>by rw[if_pos h];exact bx_2 ha)
 have HI2:Hid (¬ (a.n == 1)=D→(if (a.n == 1)=D then a else wantV 2 b b)=wantV 2 b b):=hid (fun h=>if_neg h)
 clear y0 y1 y2 y3 hT ky hen1 HVA
 generalize (if (a.n == 1)=D then a else wantV 2 b b)=V at *
 generalize (a.n == 1)=Z at *
 cases Z<;>cases D
 all_goals
  go_enter func195,ntmps195
  go_wp2_with fail
  try (go_ret;exact⟨by rw[HI1.out (by first | rfl | trivial)];rfl,Below.refl _ _⟩)
 all_goals
  refine wp_region_held_drew (S:=fun w'=>Below w.heap.size w w') (by kernel_rfl) ((Below.refl _ _).drew) (fun hHeld=>?_)
  refine held_take (i:=0) (v:=?_) rfl (by kernel_rfl) (by kernel_rfl) (by kernel_rfl) (fun _ _ _ h=>h) (by rfl) hHeld ?_ ?_
  rotate_left
  ·intro wz hSz;have q0:=(hSz.cell (p:=⟨pk,0,none⟩) gk).trans k0;have q1:=(hSz.cell (p:=⟨pk,1,none⟩) gk).trans k1;go_simp;try with_reducible rfl
  simp only[Act.put,List.setIfInBounds_toArray,List.set_cons_zero,List.set_cons_succ]
  refine held_take (i:=1) (v:=?_) rfl (by kernel_rfl) (by kernel_rfl) (by kernel_rfl) (fun _ _ _ h=>h) (by rfl) hHeld ?_ ?_
  rotate_left
  ·intro wz hSz;have q0:=(hSz.cell (p:=⟨ps,0,none⟩) gs).trans s0;go_simp;try with_reducible rfl
  simp only[Act.put,List.setIfInBounds_toArray,List.set_cons_zero,List.set_cons_succ]
  refine held_take (i:=2) (v:=?_) rfl (by kernel_rfl) (by kernel_rfl) (by kernel_rfl) (fun _ _ _ h=>h) (by rfl) hHeld ?_ ?_
  rotate_left
  ·intro wz hSz;go_simp;try with_reducible rfl
  simp only[Act.put,List.setIfInBounds_toArray,List.set_cons_zero,List.set_cons_succ]
  refine held_call (i:=3) (by kernel_rfl) rfl (by rfl) (by go_simp;try with_reducible rfl) (cO _ hHeld) ?_
  rintro e wy ⟨rfl,hy⟩
  refine⟨_,rfl,below_to hHeld hy,?_⟩
  replace hHeld:=below_to hHeld hy
  simp only[Act.put,List.setIfInBounds_toArray,List.set_cons_zero,List.set_cons_succ]
  refine held_take (i:=4) (v:=?_) rfl (by kernel_rfl) (by kernel_rfl) (by kernel_rfl) (fun _ _ _ h=>h) (by rfl) hHeld ?_ ?_
  rotate_left
  ·intro wz hSz;go_simp;try with_reducible rfl
  simp only[Act.put,List.setIfInBounds_toArray,List.set_cons_zero,List.set_cons_succ]
  refine wpAnyH_done (by kernel_rfl) ?_ _
  have HB2:=hid hHeld
  go_wp2_with fail
  go_ret
  exact⟨by rw[HI2.out (by decide)];rfl,HB2.out⟩
theorem either_any (A B:Option Addr) (l c m d:Nat) (g o len cap:Nat) (opx nx:Int) (sx:ByteArray) (kvx:Value) (opy ny:Int) (sy:ByteArray) (kvy:Value) (D:Bool) (a b:Va) (w:World) (ha:a.ok) (hb:b.ok) (hT:Tabs w) (hlen:1<len) (hcap:len≤cap)
  (x0:w.cell? ⟨g,o,none⟩=some (.int .i64 opx)) (x1:w.cell? ⟨g,o+1,none⟩=some (.int .i64 nx)) (x2:w.cell? ⟨g,o+2,none⟩=some (.string sx)) (x3:w.cell? ⟨g,o+3,none⟩=some kvx)
  (y0:w.cell? ⟨g,o+4,none⟩=some (.int .i64 opy)) (y1:w.cell? ⟨g,o+4+1,none⟩=some (.int .i64 ny)) (y2:w.cell? ⟨g,o+4+2,none⟩=some (.string sy)) (y3:w.cell? ⟨g,o+4+3,none⟩=some kvy)
  (kx:∀ w',Below w.heap.size w w'→Calls prog 49 #[KE A l c B m d,.agg #[.int .i64 opx,.int .i64 nx,.string sx,kvx]] w' (Comes w' a))
  (ky:∀ w',Below w.heap.size w w'→Calls prog 49 #[KE A l c B m d,.agg #[.int .i64 opy,.int .i64 ny,.string sy,kvy]] w' (Comes w' b)) :
  Calls prog 112 #[KE A l c B m d,.slice (some ⟨g,o,none⟩) len cap,.bool D] w (Comes w (wantV 2 a (if (a.n == 1)=D then a else wantV 2 b b))):=by
 have hmf:=mkfunc
 have hen1:∀ xs w,(callFunc 195 xs).run prog w=.ok (.enter 195 xs) w:=fun _ _=>by kernel_rfl
 have hgl:g<w.heap.size:=World.block_lt_of_cell? w ⟨g,o,none⟩ x0
 have hb1:=below_alloc w (.cells #[.slice A l c,.slice B m d] 87)
 have hs1:=alloc_size w (.cells #[.slice A l c,.slice B m d] 87)
 have k0:(w.alloc (.cells #[.slice A l c,.slice B m d] 87)).cell? ⟨w.heap.size,0,none⟩=some (.slice A l c):=by rw[cells_of_alloc];rfl
 have k1:(w.alloc (.cells #[.slice A l c,.slice B m d] 87)).cell? ⟨w.heap.size,1,none⟩=some (.slice B m d):=by rw[cells_of_alloc];rfl
 obtain⟨w1,hw1⟩:∃ w1,w.alloc (.cells #[.slice A l c,.slice B m d] 87)=w1:=⟨_,rfl⟩
 rw[hw1] at hb1 hs1 k0 k1
 have hb2:=below_alloc w1 (.cells #[.slice (some ⟨g,o,none⟩) len cap] 22)
 have hs2:=alloc_size w1 (.cells #[.slice (some ⟨g,o,none⟩) len cap] 22)
 have s0:(w1.alloc (.cells #[.slice (some ⟨g,o,none⟩) len cap] 22)).cell? ⟨w1.heap.size,0,none⟩=some (.slice (some ⟨g,o,none⟩) len cap):=by rw[cells_of_alloc];rfl
 obtain⟨w2,hw2⟩:∃ w2,w1.alloc (.cells #[.slice (some ⟨g,o,none⟩) len cap] 22)=w2:=⟨_,rfl⟩
 rw[hw2] at hb2 hs2 s0
 have hb3:=below_alloc w2 (.cells #[.bool D] 4)
 have hs3:=alloc_size w2 (.cells #[.bool D] 4)
 have f0:(w2.alloc (.cells #[.bool D] 4)).cell? ⟨w2.heap.size,0,none⟩=some (.bool D):=by rw[cells_of_alloc];rfl
 obtain⟨w3,hw3⟩:∃ w3,w2.alloc (.cells #[.bool D] 4)=w3:=⟨_,rfl⟩
 rw[hw3] at hb3 hs3 f0
 have hB:=below_to (below_to hb1 hb2) hb3
 have HB:=hid hB
 have k0:=((below_to hb2 hb3).cell (p:=⟨w.heap.size,0,none⟩) (show w.heap.size<w1.heap.size by omega)).trans k0
 have k1:=((below_to hb2 hb3).cell (p:=⟨w.heap.size,1,none⟩) (show w.heap.size<w1.heap.size by omega)).trans k1
 have s0:=(hb3.cell (p:=⟨w1.heap.size,0,none⟩) (show w1.heap.size<w2.heap.size by omega)).trans s0
 have HT:=hid (hT.later hB)
 have HX:=hid kx
 have HY:=hid ky
 have g0:w.heap.size<w3.heap.size:=by omega
 have g1:w1.heap.size<w3.heap.size:=by omega
 have g2:w2.heap.size<w3.heap.size:=by omega
 have gg:g<w3.heap.size:=by omega
 have x0:=(hB.cell (p:=⟨g,o,none⟩) hgl).trans x0
 have x1:=(hB.cell (p:=⟨g,o+1,none⟩) hgl).trans x1
 have x2:=(hB.cell (p:=⟨g,o+2,none⟩) hgl).trans x2
 have x3:=(hB.cell (p:=⟨g,o+3,none⟩) hgl).trans x3
 have y0:=(hB.cell (p:=⟨g,o+4,none⟩) hgl).trans y0
 have y1:=(hB.cell (p:=⟨g,o+4+1,none⟩) hgl).trans y1
 have y2:=(hB.cell (p:=⟨g,o+4+2,none⟩) hgl).trans y2
 have y3:=(hB.cell (p:=⟨g,o+4+3,none⟩) hgl).trans y3
 have cO:Calls prog 110 #[KE A l c B m d,.slice (some ⟨g,o,none⟩) len cap,.func (.func 195) #[] #[.pointer (some ⟨w2.heap.size,0,none⟩),.pointer (some ⟨w.heap.size,0,none⟩),.pointer (some ⟨w1.heap.size,0,none⟩)]] w3 (Comes w3 (wantV 2 a (if (a.n == 1)=D then a else wantV 2 b b))) :=
  one_bool A B l c m d g o len cap opx nx sx kvx a (if (a.n == 1)=D then a else wantV 2 b b) 195 hen1 _ w3 ha HT.out (by omega) x0 x1 x2 x3
   (fun w' hw=>HX.out w' (below_to HB.out hw))
   (fun hk w' hw=>either1 A B l c m d w2.heap.size w.heap.size w1.heap.size g o len cap opy ny sy kvy D a b w' hk hb (HT.out.later hw) hlen hcap
    ((hw.cell (p:=⟨w2.heap.size,0,none⟩) g2).trans f0) ((hw.cell (p:=⟨w.heap.size,0,none⟩) g0).trans k0) ((hw.cell (p:=⟨w.heap.size,1,none⟩) g0).trans k1) ((hw.cell (p:=⟨w1.heap.size,0,none⟩) g1).trans s0)
    ((hw.cell (p:=⟨g,o+4,none⟩) gg).trans y0) ((hw.cell (p:=⟨g,o+4+1,none⟩) gg).trans y1) ((hw.cell (p:=⟨g,o+4+2,none⟩) gg).trans y2) ((hw.cell (p:=⟨g,o+4+3,none⟩) gg).trans y3) (fun w4 hw4=>HY.out w4 (below_to HB.out (below_to hw hw4))))
 clear x0 x1 x2 x3 y0 y1 y2 y3 hT hgl hb1 hb2 hb3 hs1 hs2 hs3 kx ky hen1 hB
 generalize (if (a.n == 1)=D then a else wantV 2 b b)=V at *
 go_enter func112,ntmps112
 go_wp2_with fail
 refine cO.mono ?_
 rintro e w5 ⟨rfl,b5⟩
 go_wp2_with fail
 go_ret
 exact⟨rfl,below_to HB.out b5⟩
theorem chosen1 (A B:Option Addr) (l c m d:Nat) (pk ps g o len cap:Nat) (opy ny:Int) (sy:ByteArray) (kvy:Value) (opz nz:Int) (sz:ByteArray) (kvz:Value) (a b t:Va) (w:World) (hlen:2<len)
  (k0:w.cell? ⟨pk,0,none⟩=some (.slice A l c)) (k1:w.cell? ⟨pk,1,none⟩=some (.slice B m d)) (s0:w.cell? ⟨ps,0,none⟩=some (.slice (some ⟨g,o,none⟩) len cap))
  (y0:w.cell? ⟨g,o+4,none⟩=some (.int .i64 opy)) (y1:w.cell? ⟨g,o+4+1,none⟩=some (.int .i64 ny)) (y2:w.cell? ⟨g,o+4+2,none⟩=some (.string sy)) (y3:w.cell? ⟨g,o+4+3,none⟩=some kvy)
  (z0:w.cell? ⟨g,o+8,none⟩=some (.int .i64 opz)) (z1:w.cell? ⟨g,o+8+1,none⟩=some (.int .i64 nz)) (z2:w.cell? ⟨g,o+8+2,none⟩=some (.string sz)) (z3:w.cell? ⟨g,o+8+3,none⟩=some kvz)
  (ky:∀ w',Below w.heap.size w w'→Calls prog 49 #[KE A l c B m d,.agg #[.int .i64 opy,.int .i64 ny,.string sy,kvy]] w' (Comes w' b))
  (kz:∀ w',Below w.heap.size w w'→Calls prog 49 #[KE A l c B m d,.agg #[.int .i64 opz,.int .i64 nz,.string sz,kvz]] w' (Comes w' t)) :
  Calls prog 203 #[.bool (a.n == 1),.pointer (some ⟨pk,0,none⟩),.pointer (some ⟨ps,0,none⟩)] w (Comes w (if a.n=1 then b else t)):=by
 have hlz1:(1:Int)<(len:Int):=by omega
 have hlz2:(2:Int)<(len:Int):=by omega
 have gg:g<w.heap.size:=World.block_lt_of_cell? w ⟨g,o+4,none⟩ y0
 have gk:pk<w.heap.size:=World.block_lt_of_cell? w ⟨pk,0,none⟩ k0
 have gs:ps<w.heap.size:=World.block_lt_of_cell? w ⟨ps,0,none⟩ s0
 have HI:Hid (∀ V:Va,V=(if (a.n == 1)=true then b else t)→V=(if a.n=1 then b else t)):=hid (fun V h=>by rw[h];simp)
 generalize (a.n == 1)=Z at *
 generalize (if a.n=1 then b else t)=V at *
 cases Z
 ·have HV:Hid (V=t):=hid (by have:=HI.out t (by simp);exact this.symm)
  go_enter func203,ntmps203
  go_wp2_with fail
  refine wp_region_held_drew (S:=fun w'=>Below w.heap.size w w') (by kernel_rfl) ((Below.refl _ _).drew) (fun hHeld=>?_)
  refine held_take (i:=0) (v:=?_) rfl (by kernel_rfl) (by kernel_rfl) (by kernel_rfl) (fun _ _ _ h=>h) (by rfl) hHeld ?_ ?_
  rotate_left
  ·intro wz hSz;have q0:=(hSz.cell (p:=⟨pk,0,none⟩) gk).trans k0;have q1:=(hSz.cell (p:=⟨pk,1,none⟩) gk).trans k1;go_simp;try with_reducible rfl
  simp only[Act.put,List.setIfInBounds_toArray,List.set_cons_zero,List.set_cons_succ]
  refine held_take (i:=1) (v:=?_) rfl (by kernel_rfl) (by kernel_rfl) (by kernel_rfl) (fun _ _ _ h=>h) (by rfl) hHeld ?_ ?_
  rotate_left
  ·intro wz hSz;have q0:=(hSz.cell (p:=⟨ps,0,none⟩) gs).trans s0;go_simp;try with_reducible rfl
  simp only[Act.put,List.setIfInBounds_toArray,List.set_cons_zero,List.set_cons_succ]
  refine held_take (i:=2) (v:=?_) rfl (by kernel_rfl) (by kernel_rfl) (by kernel_rfl) (fun _ _ _ h=>h) (by rfl) hHeld ?_ ?_
  rotate_left
  ·intro wz hSz;go_simp;try with_reducible rfl
  simp only[Act.put,List.setIfInBounds_toArray,List.set_cons_zero,List.set_cons_succ]
  refine held_take (i:=3) (v:=?_) rfl (by kernel_rfl) (by kernel_rfl) (by kernel_rfl) (fun _ _ _ h=>h) (by rfl) hHeld ?_ ?_
  rotate_left
  ·intro wz hSz;have q0:=(hSz.cell (p:=⟨g,o+8,none⟩) gg).trans z0;have q1:=(hSz.cell (p:=⟨g,o+8+1,none⟩) gg).trans z1;have q2:=(hSz.cell (p:=⟨g,o+8+2,none⟩) gg).trans z2;have q3:=(hSz.cell (p:=⟨g,o+8+3,none⟩) gg).trans z3;go_simp;try with_reducible rfl
  simp only[Act.put,List.setIfInBounds_toArray,List.set_cons_zero,List.set_cons_succ]
  refine held_call (i:=4) (by kernel_rfl) rfl (by rfl) (by go_simp;try with_reducible rfl) (kz _ hHeld) ?_
  rintro e wy ⟨rfl,hy⟩
  refine⟨_,rfl,below_to hHeld hy,?_⟩
  replace hHeld:=below_to hHeld hy
  simp only[Act.put,List.setIfInBounds_toArray,List.set_cons_zero,List.set_cons_succ]
  refine held_take (i:=5) (v:=?_) rfl (by kernel_rfl) (by kernel_rfl) (by kernel_rfl) (fun _ _ _ h=>h) (by rfl) hHeld ?_ ?_
  rotate_left
  ·intro wz hSz;go_simp;try with_reducible rfl
  simp only[Act.put,List.setIfInBounds_toArray,List.set_cons_zero,List.set_cons_succ]
  refine wpAnyH_done (by kernel_rfl) ?_ _
  have HB2:=hid hHeld
  go_wp2_with fail
  go_ret
  exact⟨by rw[HV.out];rfl,HB2.out⟩
 ·have HV:Hid (V=b):=hid (by have:=HI.out b (by simp);exact this.symm)
  go_enter func203,ntmps203
  go_wp2_with fail
  refine wp_region_held_drew (S:=fun w'=>Below w.heap.size w w') (by kernel_rfl) ((Below.refl _ _).drew) (fun hHeld=>?_)
  refine held_take (i:=0) (v:=?_) rfl (by kernel_rfl) (by kernel_rfl) (by kernel_rfl) (fun _ _ _ h=>h) (by rfl) hHeld ?_ ?_
  rotate_left
  ·intro wz hSz;have q0:=(hSz.cell (p:=⟨pk,0,none⟩) gk).trans k0;have q1:=(hSz.cell (p:=⟨pk,1,none⟩) gk).trans k1;go_simp;try with_reducible rfl
  simp only[Act.put,List.setIfInBounds_toArray,List.set_cons_zero,List.set_cons_succ]
  refine held_take (i:=1) (v:=?_) rfl (by kernel_rfl) (by kernel_rfl) (by kernel_rfl) (fun _ _ _ h=>h) (by rfl) hHeld ?_ ?_
  rotate_left
  ·intro wz hSz;have q0:=(hSz.cell (p:=⟨ps,0,none⟩) gs).trans s0;go_simp;try with_reducible rfl
  simp only[Act.put,List.setIfInBounds_toArray,List.set_cons_zero,List.set_cons_succ]
  refine held_take (i:=2) (v:=?_) rfl (by kernel_rfl) (by kernel_rfl) (by kernel_rfl) (fun _ _ _ h=>h) (by rfl) hHeld ?_ ?_
  rotate_left
  ·intro wz hSz;go_simp;try with_reducible rfl
  simp only[Act.put,List.setIfInBounds_toArray,List.set_cons_zero,List.set_cons_succ]
  refine held_take (i:=3) (v:=?_) rfl (by kernel_rfl) (by kernel_rfl) (by kernel_rfl) (fun _ _ _ h=>h) (by rfl) hHeld ?_ ?_
  rotate_left
  ·intro wz hSz;have q0:=(hSz.cell (p:=⟨g,o+4,none⟩) gg).trans y0;have q1:=(hSz.cell (p:=⟨g,o+4+1,none⟩) gg).trans y1;have q2:=(hSz.cell (p:=⟨g,o+4+2,none⟩) gg).trans y2;have q3:=(hSz.cell (p:=⟨g,o+4+3,none⟩) gg).trans y3;go_simp;try with_reducible rfl
  simp only[Act.put,List.setIfInBounds_toArray,List.set_cons_zero,List.set_cons_succ]
  refine held_call (i:=4) (by kernel_rfl) rfl (by rfl) (by go_simp;try with_reducible rfl) (ky _ hHeld) ?_
  rintro e wy ⟨rfl,hy⟩
  refine⟨_,rfl,below_to hHeld hy,?_⟩
  replace hHeld:=below_to hHeld hy
  simp only[Act.put,List.setIfInBounds_toArray,List.set_cons_zero,List.set_cons_succ]
  refine held_take (i:=5) (v:=?_) rfl (by kernel_rfl) (by kernel_rfl) (by kernel_rfl) (fun _ _ _ h=>h) (by rfl) hHeld ?_ ?_
  rotate_left
  ·intro wz hSz;go_simp;try with_reducible rfl
  simp only[Act.put,List.setIfInBounds_toArray,List.set_cons_zero,List.set_cons_succ]
  refine wpAnyH_done (by kernel_rfl) ?_ _
  have HB2:=hid hHeld
  go_wp2_with fail
  go_ret
  exact⟨by rw[HV.out];rfl,HB2.out⟩
theorem chosen_any (A B:Option Addr) (l c m d:Nat) (g o len cap:Nat) (opx nx:Int) (sx:ByteArray) (kvx:Value) (opy ny:Int) (sy:ByteArray) (kvy:Value) (opz nz:Int) (sz:ByteArray) (kvz:Value) (a b t:Va) (w:World) (ha:a.ok) (hT:Tabs w) (hlen:2<len)
  (x0:w.cell? ⟨g,o,none⟩=some (.int .i64 opx)) (x1:w.cell? ⟨g,o+1,none⟩=some (.int .i64 nx)) (x2:w.cell? ⟨g,o+2,none⟩=some (.string sx)) (x3:w.cell? ⟨g,o+3,none⟩=some kvx)
  (y0:w.cell? ⟨g,o+4,none⟩=some (.int .i64 opy)) (y1:w.cell? ⟨g,o+4+1,none⟩=some (.int .i64 ny)) (y2:w.cell? ⟨g,o+4+2,none⟩=some (.string sy)) (y3:w.cell? ⟨g,o+4+3,none⟩=some kvy)
  (z0:w.cell? ⟨g,o+8,none⟩=some (.int .i64 opz)) (z1:w.cell? ⟨g,o+8+1,none⟩=some (.int .i64 nz)) (z2:w.cell? ⟨g,o+8+2,none⟩=some (.string sz)) (z3:w.cell? ⟨g,o+8+3,none⟩=some kvz)
  (kx:∀ w',Below w.heap.size w w'→Calls prog 49 #[KE A l c B m d,.agg #[.int .i64 opx,.int .i64 nx,.string sx,kvx]] w' (Comes w' a))
  (ky:∀ w',Below w.heap.size w w'→Calls prog 49 #[KE A l c B m d,.agg #[.int .i64 opy,.int .i64 ny,.string sy,kvy]] w' (Comes w' b))
  (kz:∀ w',Below w.heap.size w w'→Calls prog 49 #[KE A l c B m d,.agg #[.int .i64 opz,.int .i64 nz,.string sz,kvz]] w' (Comes w' t)) :
  Calls prog 114 #[KE A l c B m d,.slice (some ⟨g,o,none⟩) len cap] w (Comes w (wantV 2 a (if a.n=1 then b else t))):=by
 have hmf:=mkfunc
 have hen1:∀ xs w,(callFunc 203 xs).run prog w=.ok (.enter 203 xs) w:=fun _ _=>by kernel_rfl
 have hgl:g<w.heap.size:=World.block_lt_of_cell? w ⟨g,o,none⟩ x0
 have hb1:=below_alloc w (.cells #[.slice A l c,.slice B m d] 87)
 have hs1:=alloc_size w (.cells #[.slice A l c,.slice B m d] 87)
 have k0:(w.alloc (.cells #[.slice A l c,.slice B m d] 87)).cell? ⟨w.heap.size,0,none⟩=some (.slice A l c):=by rw[cells_of_alloc];rfl
 have k1:(w.alloc (.cells #[.slice A l c,.slice B m d] 87)).cell? ⟨w.heap.size,1,none⟩=some (.slice B m d):=by rw[cells_of_alloc];rfl
 obtain⟨w1,hw1⟩:∃ w1,w.alloc (.cells #[.slice A l c,.slice B m d] 87)=w1:=⟨_,rfl⟩
 rw[hw1] at hb1 hs1 k0 k1
 have hb2:=below_alloc w1 (.cells #[.slice (some ⟨g,o,none⟩) len cap] 22)
 have hs2:=alloc_size w1 (.cells #[.slice (some ⟨g,o,none⟩) len cap] 22)
 have s0:(w1.alloc (.cells #[.slice (some ⟨g,o,none⟩) len cap] 22)).cell? ⟨w1.heap.size,0,none⟩=some (.slice (some ⟨g,o,none⟩) len cap):=by rw[cells_of_alloc];rfl
 obtain⟨w2,hw2⟩:∃ w2,w1.alloc (.cells #[.slice (some ⟨g,o,none⟩) len cap] 22)=w2:=⟨_,rfl⟩
 rw[hw2] at hb2 hs2 s0
 have hB:=below_to hb1 hb2
 have HB:=hid hB
 have k0:=(hb2.cell (p:=⟨w.heap.size,0,none⟩) (show w.heap.size<w1.heap.size by omega)).trans k0
 have k1:=(hb2.cell (p:=⟨w.heap.size,1,none⟩) (show w.heap.size<w1.heap.size by omega)).trans k1
 have HT:=hid (hT.later hB)
 have HX:=hid kx
 have HY:=hid ky
 have HZ:=hid kz
 have g0:w.heap.size<w2.heap.size:=by omega
 have g1:w1.heap.size<w2.heap.size:=by omega
 have gg:g<w2.heap.size:=by omega
 have x0:=(hB.cell (p:=⟨g,o,none⟩) hgl).trans x0
 have x1:=(hB.cell (p:=⟨g,o+1,none⟩) hgl).trans x1
 have x2:=(hB.cell (p:=⟨g,o+2,none⟩) hgl).trans x2
 have x3:=(hB.cell (p:=⟨g,o+3,none⟩) hgl).trans x3
 have y0:=(hB.cell (p:=⟨g,o+4,none⟩) hgl).trans y0
 have y1:=(hB.cell (p:=⟨g,o+4+1,none⟩) hgl).trans y1
 have y2:=(hB.cell (p:=⟨g,o+4+2,none⟩) hgl).trans y2
 have y3:=(hB.cell (p:=⟨g,o+4+3,none⟩) hgl).trans y3
 have z0:=(hB.cell (p:=⟨g,o+8,none⟩) hgl).trans z0
 have z1:=(hB.cell (p:=⟨g,o+8+1,none⟩) hgl).trans z1
 have z2:=(hB.cell (p:=⟨g,o+8+2,none⟩) hgl).trans z2
 have z3:=(hB.cell (p:=⟨g,o+8+3,none⟩) hgl).trans z3
 have cO:Calls prog 110 #[KE A l c B m d,.slice (some ⟨g,o,none⟩) len cap,.func (.func 203) #[] #[.pointer (some ⟨w.heap.size,0,none⟩),.pointer (some ⟨w1.heap.size,0,none⟩)]] w2 (Comes w2 (wantV 2 a (if a.n=1 then b else t))) :=
  one_bool A B l c m d g o len cap opx nx sx kvx a (if a.n=1 then b else t) 203 hen1 _ w2 ha HT.out (by omega) x0 x1 x2 x3
   (fun w' hw=>HX.out w' (below_to HB.out hw))
   (fun _ w' hw=>chosen1 A B l c m d w.heap.size w1.heap.size g o len cap opy ny sy kvy opz nz sz kvz a b t w' hlen
    ((hw.cell (p:=⟨w.heap.size,0,none⟩) g0).trans k0) ((hw.cell (p:=⟨w.heap.size,1,none⟩) g0).trans k1) ((hw.cell (p:=⟨w1.heap.size,0,none⟩) g1).trans s0)
    ((hw.cell (p:=⟨g,o+4,none⟩) gg).trans y0) ((hw.cell (p:=⟨g,o+4+1,none⟩) gg).trans y1) ((hw.cell (p:=⟨g,o+4+2,none⟩) gg).trans y2) ((hw.cell (p:=⟨g,o+4+3,none⟩) gg).trans y3) ((hw.cell (p:=⟨g,o+8,none⟩) gg).trans z0) ((hw.cell (p:=⟨g,o+8+1,none⟩) gg).trans z1) ((hw.cell (p:=⟨g,o+8+2,none⟩) gg).trans z2) ((hw.cell (p:=⟨g,o+8+3,none⟩) gg).trans z3) (fun w4 hw4=>HY.out w4 (below_to HB.out (below_to hw hw4))) (fun w4 hw4=>HZ.out w4 (below_to HB.out (below_to hw hw4))))
 clear x0 x1 x2 x3 y0 y1 y2 y3 z0 z1 z2 z3 hT hgl hb1 hb2 hs1 hs2 kx ky kz hen1 hB
 generalize (if a.n=1 then b else t)=V at *
 go_enter func114,ntmps114
 go_wp2_with fail
 refine cO.mono ?_
 rintro e w5 ⟨rfl,b5⟩
 go_wp2_with fail
 go_ret
 exact⟨rfl,below_to HB.out b5⟩
end
section
open Lib (hid)
open _root_.Go.Proofs.Tryz
set_option maxHeartbeats 4000000
set_option maxRecDepth 100000
open Go.RowKit
theorem compared_any (A B : Option Addr) (l c m d : Nat) (g o len cap : Nat) (opx nx : Int) (sx : ByteArray) (kvx : Value) (opy ny : Int) (sy : ByteArray) (kvy : Value) (op : Int) (a b : Va) (w : World) (ho : 12 ≤ op ∧ op ≤ 15) (ha : a.ok) (hb : b.ok) (hT : Tabs w) (hlen : 1 < len) (hcap : len ≤ cap)
    (x0 : w.cell? ⟨g, o, none⟩ = some (.int .i64 opx)) (x1 : w.cell? ⟨g, o + 1, none⟩ = some (.int .i64 nx)) (x2 : w.cell? ⟨g, o + 2, none⟩ = some (.string sx)) (x3 : w.cell? ⟨g, o + 3, none⟩ = some kvx)
    (y0 : w.cell? ⟨g, o + 4, none⟩ = some (.int .i64 opy)) (y1 : w.cell? ⟨g, o + 4 + 1, none⟩ = some (.int .i64 ny)) (y2 : w.cell? ⟨g, o + 4 + 2, none⟩ = some (.string sy)) (y3 : w.cell? ⟨g, o + 4 + 3, none⟩ = some kvy)
    (kx : ∀ w', Below w.heap.size w w' → Calls prog 49 #[KE A l c B m d, .agg #[.int .i64 opx, .int .i64 nx, .string sx, kvx]] w' (Comes w' a))
    (ky : ∀ w', Below w.heap.size w w' → Calls prog 49 #[KE A l c B m d, .agg #[.int .i64 opy, .int .i64 ny, .string sy, kvy]] w' (Comes w' b)) :
    Calls prog 113 #[KE A l c B m d, .int .i64 op, .slice (some ⟨g, o, none⟩) len cap] w (Comes w (cmpV op a b)) := by
  have hmf := mkfunc
  have hlz : (0 : Int) < (len : Int) := by omega
  have hl0 : 0 < len := by omega
  have hl1 : (1 : Int) ≤ (len : Int) := by omega
  have hcz : ¬ cap = 1 := by omega
  have hkz : 1 ≤ len := by omega
  have hgl : g < w.heap.size := World.block_lt_of_cell? w ⟨g, o, none⟩ x0
  have hb1 := below_alloc w (.cells #[.slice A l c, .slice B m d] 87)
  have hs1 := alloc_size w (.cells #[.slice A l c, .slice B m d] 87)
  have k0 : (w.alloc (.cells #[.slice A l c, .slice B m d] 87)).cell? ⟨w.heap.size, 0, none⟩ = some (.slice A l c) := by rw [cells_of_alloc]; rfl
  have k1 : (w.alloc (.cells #[.slice A l c, .slice B m d] 87)).cell? ⟨w.heap.size, 1, none⟩ = some (.slice B m d) := by rw [cells_of_alloc]; rfl
  obtain ⟨w1, hw1⟩ : ∃ w1, w.alloc (.cells #[.slice A l c, .slice B m d] 87) = w1 := ⟨_, rfl⟩
  rw [hw1] at hb1 hs1 k0 k1
  have hb2 := below_alloc w1 (.cells #[.int .i64 op] 3)
  have hs2 := alloc_size w1 (.cells #[.int .i64 op] 3)
  have p0 : (w1.alloc (.cells #[.int .i64 op] 3)).cell? ⟨w1.heap.size, 0, none⟩ = some (.int .i64 op) := by rw [cells_of_alloc]; rfl
  obtain ⟨w2, hw2⟩ : ∃ w2, w1.alloc (.cells #[.int .i64 op] 3) = w2 := ⟨_, rfl⟩
  rw [hw2] at hb2 hs2 p0
  have hB := below_to hb1 hb2
  have HB := hid hB
  have k0 := (hb2.cell (p := ⟨w.heap.size, 0, none⟩) (show w.heap.size < w1.heap.size by omega)).trans k0
  have k1 := (hb2.cell (p := ⟨w.heap.size, 1, none⟩) (show w.heap.size < w1.heap.size by omega)).trans k1
  have HT := hid (hT.later hB)
  have HX := hid kx
  have HY := hid ky
  have g0 : w.heap.size < w2.heap.size := by omega
  have g1 : w1.heap.size < w2.heap.size := by omega
  have gg : g < w2.heap.size := by omega
  have x0 := (hB.cell (p := ⟨g, o, none⟩) hgl).trans x0
  have x1 := (hB.cell (p := ⟨g, o + 1, none⟩) hgl).trans x1
  have x2 := (hB.cell (p := ⟨g, o + 2, none⟩) hgl).trans x2
  have x3 := (hB.cell (p := ⟨g, o + 3, none⟩) hgl).trans x3
  have y0 := (hB.cell (p := ⟨g, o + 4, none⟩) hgl).trans y0
  have y1 := (hB.cell (p := ⟨g, o + 4 + 1, none⟩) hgl).trans y1
  have y2 := (hB.cell (p := ⟨g, o + 4 + 2, none⟩) hgl).trans y2
  have y3 := (hB.cell (p := ⟨g, o + 4 + 3, none⟩) hgl).trans y3
  have cK : ∀ w', Below w2.heap.size w2 w' → Calls prog 49 #[KE A l c B m d, .agg #[.int .i64 opx, .int .i64 nx, .string sx, kvx]] w' (Comes w' a) := fun w' hw => HX.out w' (below_to HB.out hw)
  clear hT hgl hb1 hb2 hs1 hs2 kx ky hB
  go_enter func113, ntmps113
  go_wp2_with fail
  refine wp_region_held_drew (S := fun w' => Below w2.heap.size w2 w') (by kernel_rfl) ((Below.refl _ _).drew) (fun hHeld => ?_)
  refine held_take (i := 0) (v := ?_) rfl (by kernel_rfl) (by kernel_rfl) (by kernel_rfl) (fun _ _ _ h => h) (by rfl) hHeld ?_ ?_
  rotate_left
  · intro wz hSz; have q0 := (hSz.cell (p := ⟨w.heap.size, 0, none⟩) g0).trans k0; have q1 := (hSz.cell (p := ⟨w.heap.size, 1, none⟩) g0).trans k1; go_simp; try with_reducible rfl
  simp only [Act.put, List.setIfInBounds_toArray, List.set_cons_zero, List.set_cons_succ]
  refine held_take (i := 1) (v := ?_) rfl (by kernel_rfl) (by kernel_rfl) (by kernel_rfl) (fun _ _ _ h => h) (by rfl) hHeld ?_ ?_
  rotate_left
  · intro wz hSz; go_simp; try with_reducible rfl
  simp only [Act.put, List.setIfInBounds_toArray, List.set_cons_zero, List.set_cons_succ]
  refine held_take (i := 2) (v := ?_) rfl (by kernel_rfl) (by kernel_rfl) (by kernel_rfl) (fun _ _ _ h => h) (by rfl) hHeld ?_ ?_
  rotate_left
  · intro wz hSz; go_simp; try with_reducible rfl
  simp only [Act.put, List.setIfInBounds_toArray, List.set_cons_zero, List.set_cons_succ]
  refine held_take (i := 3) (v := ?_) rfl (by kernel_rfl) (by kernel_rfl) (by kernel_rfl) (fun _ _ _ h => h) (by rfl) hHeld ?_ ?_
  rotate_left
  · intro wz hSz; have q0 := (hSz.cell (p := ⟨g, o, none⟩) gg).trans x0; have q1 := (hSz.cell (p := ⟨g, o + 1, none⟩) gg).trans x1; have q2 := (hSz.cell (p := ⟨g, o + 2, none⟩) gg).trans x2; have q3 := (hSz.cell (p := ⟨g, o + 3, none⟩) gg).trans x3; go_simp; try with_reducible rfl
  simp only [Act.put, List.setIfInBounds_toArray, List.set_cons_zero, List.set_cons_succ]
  refine held_call (i := 4) (by kernel_rfl) rfl (by rfl) (by go_simp; try with_reducible rfl) (cK _ hHeld) ?_
  rintro e wy ⟨rfl, hy⟩
  refine ⟨_, rfl, below_to hHeld hy, ?_⟩
  replace hHeld := below_to hHeld hy
  simp only [Act.put, List.setIfInBounds_toArray, List.set_cons_zero, List.set_cons_succ]
  refine wpAnyH_done (by kernel_rfl) ?_ _
  have HB2 := hid (below_to HB.out hHeld)
  have HT2 := hid (HT.out.later hHeld)
  have k0 := (hHeld.cell (p := ⟨w.heap.size, 0, none⟩) g0).trans k0
  have k1 := (hHeld.cell (p := ⟨w.heap.size, 1, none⟩) g0).trans k1
  have p0 := (hHeld.cell (p := ⟨w1.heap.size, 0, none⟩) g1).trans p0
  have y0 := (hHeld.cell (p := ⟨g, o + 4, none⟩) gg).trans y0
  have y1 := (hHeld.cell (p := ⟨g, o + 4 + 1, none⟩) gg).trans y1
  have y2 := (hHeld.cell (p := ⟨g, o + 4 + 2, none⟩) gg).trans y2
  have y3 := (hHeld.cell (p := ⟨g, o + 4 + 3, none⟩) gg).trans y3
  have gs2 := hHeld.size
  have g0 : w.heap.size < wy.heap.size := by omega
  have g1 : w1.heap.size < wy.heap.size := by omega
  have gg : g < wy.heap.size := by omega
  clear cK hy hHeld gs2 hw1 hw2 x0 x1 x2 x3

  rcases bx_cases ha with ⟨hk, hbx⟩ | ⟨hk, hbx⟩ | ⟨hk, hbx⟩ | ⟨hk, hbx⟩ | ⟨hk, hbx⟩
  · skip
    have HV := hid (show cmpV op a b = wantV 1 b (truV (holdB op (decide (a.n < b.n)) (decide (a.n = b.n)))) by unfold cmpV; rw [if_pos hk])
    generalize bxV a = X at *
    subst hbx
    have h1 := fun w => asN_yes w (.int .i64 a.n)
    have hb4 := below_alloc wy (.cells #[.int .i64 a.n] 2)
    have hs4 := alloc_size wy (.cells #[.int .i64 a.n] 2)
    have a0 : (wy.alloc (.cells #[.int .i64 a.n] 2)).cell? ⟨wy.heap.size, 0, none⟩ = some (.int .i64 a.n) := by rw [cells_of_alloc]; rfl
    obtain ⟨w4, hw4⟩ : ∃ w4, wy.alloc (.cells #[.int .i64 a.n] 2) = w4 := ⟨_, rfl⟩
    rw [hw4] at hb4 hs4 a0
    have HB4 := hid (below_to HB2.out hb4)
    have HT4 := hid (HT2.out.later hb4)
    have k0 := (hb4.cell (p := ⟨w.heap.size, 0, none⟩) g0).trans k0
    have k1 := (hb4.cell (p := ⟨w.heap.size, 1, none⟩) g0).trans k1
    have p0 := (hb4.cell (p := ⟨w1.heap.size, 0, none⟩) g1).trans p0
    have y0 := (hb4.cell (p := ⟨g, o + 4, none⟩) gg).trans y0
    have y1 := (hb4.cell (p := ⟨g, o + 4 + 1, none⟩) gg).trans y1
    have y2 := (hb4.cell (p := ⟨g, o + 4 + 2, none⟩) gg).trans y2
    have y3 := (hb4.cell (p := ⟨g, o + 4 + 3, none⟩) gg).trans y3
    have ga : wy.heap.size < w4.heap.size := by omega
    have g0 : w.heap.size < w4.heap.size := by omega
    have g1 : w1.heap.size < w4.heap.size := by omega
    have gg : g < w4.heap.size := by omega
    have hen : ∀ xs w, (callFunc 197 xs).run prog w = .ok (.enter 197 xs) w := fun _ _ => by kernel_rfl
    have c1 : ∀ w', Below w4.heap.size w4 w' → Calls prog 105 #[KE A l c B m d, .slice (some ⟨g, o + 4, none⟩) (len - 1) (cap - 1), .func (.func 197) #[] #[.pointer (some ⟨w1.heap.size, 0, none⟩), .pointer (some ⟨wy.heap.size, 0, none⟩)]] w' (Comes w' (wantV 1 b (truV (holdB op (decide (a.n < b.n)) (decide (a.n = b.n)))))) := fun w' hw =>
      one_num A B l c m d g (o + 4) (len - 1) (cap - 1) opy ny sy kvy b (truV (holdB op (decide (a.n < b.n)) (decide (a.n = b.n)))) 197 hen _ w' hb (HT4.out.later hw) (by omega) ((hw.cell (p := ⟨g, o + 4, none⟩) gg).trans y0) ((hw.cell (p := ⟨g, o + 4 + 1, none⟩) gg).trans y1) ((hw.cell (p := ⟨g, o + 4 + 2, none⟩) gg).trans y2) ((hw.cell (p := ⟨g, o + 4 + 3, none⟩) gg).trans y3)
        (fun w2 hw2 => HY.out w2 (below_to HB4.out (below_to hw hw2)))
        (fun hkb w2 hw2 => do_cmpi op a.n b.n w1.heap.size wy.heap.size w2 ho (((below_to hw hw2).cell (p := ⟨w1.heap.size, 0, none⟩) g1).trans p0) (((below_to hw hw2).cell (p := ⟨wy.heap.size, 0, none⟩) ga).trans a0))
    clear hb4 hs4 hen
    generalize (wantV 1 b (truV (holdB op (decide (a.n < b.n)) (decide (a.n = b.n))))) = V at *
    go_wp2_with fail
    refine wp_region_held_drew (S := fun w' => Below w4.heap.size w4 w') (by kernel_rfl) ((Below.refl _ _).drew) (fun hHeld => ?_)
    refine held_take (i := 0) (v := ?_) rfl (by kernel_rfl) (by kernel_rfl) (by kernel_rfl) (fun _ _ _ h => h) (by rfl) hHeld ?_ ?_
    rotate_left
    · intro wz hSz; have q0 := (hSz.cell (p := ⟨w.heap.size, 0, none⟩) g0).trans k0; have q1 := (hSz.cell (p := ⟨w.heap.size, 1, none⟩) g0).trans k1; go_simp; try with_reducible rfl
    simp only [Act.put, List.setIfInBounds_toArray, List.set_cons_zero, List.set_cons_succ]
    refine held_take (i := 1) (v := ?_) rfl (by kernel_rfl) (by kernel_rfl) (by kernel_rfl) (fun _ _ _ h => h) (by rfl) hHeld ?_ ?_
    rotate_left
    · intro wz hSz; go_simp; try with_reducible rfl
    simp only [Act.put, List.setIfInBounds_toArray, List.set_cons_zero, List.set_cons_succ]
    refine held_take (i := 2) (v := ?_) rfl (by kernel_rfl) (by kernel_rfl) (by kernel_rfl) (fun _ _ _ h => h) (by rfl) hHeld ?_ ?_
    rotate_left
    · intro wz hSz; go_simp; try with_reducible rfl
    simp only [Act.put, List.setIfInBounds_toArray, List.set_cons_zero, List.set_cons_succ]
    refine held_take (i := 3) (v := ?_) rfl (by kernel_rfl) (by kernel_rfl) (by kernel_rfl) (fun _ _ _ h => h) (by rfl) hHeld ?_ ?_
    rotate_left
    · intro wz hSz; go_simp; try with_reducible rfl
    simp only [Act.put, List.setIfInBounds_toArray, List.set_cons_zero, List.set_cons_succ]
    refine held_call (i := 4) (by kernel_rfl) rfl (by rfl) (by go_simp; try with_reducible rfl) (c1 _ hHeld) ?_
    rintro e wy ⟨rfl, hy4⟩
    refine ⟨_, rfl, below_to hHeld hy4, ?_⟩
    replace hHeld := below_to hHeld hy4
    simp only [Act.put, List.setIfInBounds_toArray, List.set_cons_zero, List.set_cons_succ]
    refine held_take (i := 5) (v := ?_) rfl (by kernel_rfl) (by kernel_rfl) (by kernel_rfl) (fun _ _ _ h => h) (by rfl) hHeld ?_ ?_
    rotate_left
    · intro wz hSz; go_simp; try with_reducible rfl
    simp only [Act.put, List.setIfInBounds_toArray, List.set_cons_zero, List.set_cons_succ]
    refine wpAnyH_done (by kernel_rfl) ?_ _
    have HB5 := hid (below_to HB4.out hHeld)
    go_wp2_with fail
    go_ret
    exact ⟨by rw [HV.out]; rfl, HB5.out⟩
  · by_cases hlt : op = 14 ∨ op = 15
    · have HV := hid (show cmpV op a b = badV 3 by unfold cmpV; rw [if_neg (by omega), if_neg (by omega), if_pos hk, if_pos hlt])
      generalize bxV a = X at *
      subst hbx
      have h1 := fun w => asN_no w 4 (.bool (a.n == 1)) (by decide)
      have h2 := fun w => asS_no w 4 (.bool (a.n == 1)) (by decide)
      have h3 := fun w => asB_yes w (.bool (a.n == 1))
      have hb4 := below_alloc wy (.cells #[.bool (a.n == 1)] 4)
      have p0 := (hb4.cell (p := ⟨w1.heap.size, 0, none⟩) g1).trans p0
      have HB4 := hid (below_to HB2.out hb4)
      have cB := bad_any 3 (by decide) (by decide) _ (HT2.out.later hb4)
      obtain ⟨w4, hw4⟩ : ∃ w4, wy.alloc (.cells #[.bool (a.n == 1)] 4) = w4 := ⟨_, rfl⟩
      rw [hw4] at p0 HB4 cB
      clear hb4
      rcases hlt with rfl | rfl
      all_goals
        go_wp2_with fail
        refine cB.mono ?_
        rintro e w5 ⟨rfl, b5⟩
        go_wp2_with fail
        go_ret
        exact ⟨by rw [HV.out]; rfl, below_to HB4.out b5⟩
    · skip
      have HV := hid (show cmpV op a b = wantV 2 b (truV (holdB op false (decide (a.n = b.n)))) by unfold cmpV; rw [if_neg (by omega), if_neg (by omega), if_pos hk, if_neg (by omega)])
      generalize bxV a = X at *
      subst hbx
      have h1 := fun w => asN_no w 4 (.bool (a.n == 1)) (by decide)
      have h2 := fun w => asS_no w 4 (.bool (a.n == 1)) (by decide)
      have h3 := fun w => asB_yes w (.bool (a.n == 1))
      have hb4 := below_alloc wy (.cells #[.bool (a.n == 1)] 4)
      have hs4 := alloc_size wy (.cells #[.bool (a.n == 1)] 4)
      have a0 : (wy.alloc (.cells #[.bool (a.n == 1)] 4)).cell? ⟨wy.heap.size, 0, none⟩ = some (.bool (a.n == 1)) := by rw [cells_of_alloc]; rfl
      obtain ⟨w4, hw4⟩ : ∃ w4, wy.alloc (.cells #[.bool (a.n == 1)] 4) = w4 := ⟨_, rfl⟩
      rw [hw4] at hb4 hs4 a0
      have HB4 := hid (below_to HB2.out hb4)
      have HT4 := hid (HT2.out.later hb4)
      have k0 := (hb4.cell (p := ⟨w.heap.size, 0, none⟩) g0).trans k0
      have k1 := (hb4.cell (p := ⟨w.heap.size, 1, none⟩) g0).trans k1
      have p0 := (hb4.cell (p := ⟨w1.heap.size, 0, none⟩) g1).trans p0
      have y0 := (hb4.cell (p := ⟨g, o + 4, none⟩) gg).trans y0
      have y1 := (hb4.cell (p := ⟨g, o + 4 + 1, none⟩) gg).trans y1
      have y2 := (hb4.cell (p := ⟨g, o + 4 + 2, none⟩) gg).trans y2
      have y3 := (hb4.cell (p := ⟨g, o + 4 + 3, none⟩) gg).trans y3
      have ga : wy.heap.size < w4.heap.size := by omega
      have g0 : w.heap.size < w4.heap.size := by omega
      have g1 : w1.heap.size < w4.heap.size := by omega
      have gg : g < w4.heap.size := by omega
      have hen : ∀ xs w, (callFunc 202 xs).run prog w = .ok (.enter 202 xs) w := fun _ _ => by kernel_rfl
      have c1 : ∀ w', Below w4.heap.size w4 w' → Calls prog 110 #[KE A l c B m d, .slice (some ⟨g, o + 4, none⟩) (len - 1) (cap - 1), .func (.func 202) #[] #[.pointer (some ⟨wy.heap.size, 0, none⟩), .pointer (some ⟨w1.heap.size, 0, none⟩)]] w' (Comes w' (wantV 2 b (truV (holdB op false (decide (a.n = b.n)))))) := fun w' hw =>
        one_bool A B l c m d g (o + 4) (len - 1) (cap - 1) opy ny sy kvy b (truV (holdB op false (decide (a.n = b.n)))) 202 hen _ w' hb (HT4.out.later hw) (by omega) ((hw.cell (p := ⟨g, o + 4, none⟩) gg).trans y0) ((hw.cell (p := ⟨g, o + 4 + 1, none⟩) gg).trans y1) ((hw.cell (p := ⟨g, o + 4 + 2, none⟩) gg).trans y2) ((hw.cell (p := ⟨g, o + 4 + 3, none⟩) gg).trans y3)
          (fun w2 hw2 => HY.out w2 (below_to HB4.out (below_to hw hw2)))
          (fun hkb w2 hw2 => do_cmpb op a.n b.n w1.heap.size wy.heap.size w2 (by omega) (ha.truth hk).1 (hb.truth hkb).1 (((below_to hw hw2).cell (p := ⟨w1.heap.size, 0, none⟩) g1).trans p0) (((below_to hw hw2).cell (p := ⟨wy.heap.size, 0, none⟩) ga).trans a0))
      clear hb4 hs4 hen
      generalize (wantV 2 b (truV (holdB op false (decide (a.n = b.n))))) = V at *
      rcases (show op = 12 ∨ op = 13 by omega) with rfl | rfl
      all_goals
        go_wp2_with fail
        refine wp_region_held_drew (S := fun w' => Below w4.heap.size w4 w') (by kernel_rfl) ((Below.refl _ _).drew) (fun hHeld => ?_)
        refine held_take (i := 0) (v := ?_) rfl (by kernel_rfl) (by kernel_rfl) (by kernel_rfl) (fun _ _ _ h => h) (by rfl) hHeld ?_ ?_
        rotate_left
        · intro wz hSz; have q0 := (hSz.cell (p := ⟨w.heap.size, 0, none⟩) g0).trans k0; have q1 := (hSz.cell (p := ⟨w.heap.size, 1, none⟩) g0).trans k1; go_simp; try with_reducible rfl
        simp only [Act.put, List.setIfInBounds_toArray, List.set_cons_zero, List.set_cons_succ]
        refine held_take (i := 1) (v := ?_) rfl (by kernel_rfl) (by kernel_rfl) (by kernel_rfl) (fun _ _ _ h => h) (by rfl) hHeld ?_ ?_
        rotate_left
        · intro wz hSz; go_simp; try with_reducible rfl
        simp only [Act.put, List.setIfInBounds_toArray, List.set_cons_zero, List.set_cons_succ]
        refine held_take (i := 2) (v := ?_) rfl (by kernel_rfl) (by kernel_rfl) (by kernel_rfl) (fun _ _ _ h => h) (by rfl) hHeld ?_ ?_
        rotate_left
        · intro wz hSz; go_simp; try with_reducible rfl
        simp only [Act.put, List.setIfInBounds_toArray, List.set_cons_zero, List.set_cons_succ]
        refine held_take (i := 3) (v := ?_) rfl (by kernel_rfl) (by kernel_rfl) (by kernel_rfl) (fun _ _ _ h => h) (by rfl) hHeld ?_ ?_
        rotate_left
        · intro wz hSz; go_simp; try with_reducible rfl
        simp only [Act.put, List.setIfInBounds_toArray, List.set_cons_zero, List.set_cons_succ]
        refine held_call (i := 4) (by kernel_rfl) rfl (by rfl) (by go_simp; try with_reducible rfl) (c1 _ hHeld) ?_
        rintro e wy ⟨rfl, hy4⟩
        refine ⟨_, rfl, below_to hHeld hy4, ?_⟩
        replace hHeld := below_to hHeld hy4
        simp only [Act.put, List.setIfInBounds_toArray, List.set_cons_zero, List.set_cons_succ]
        refine held_take (i := 5) (v := ?_) rfl (by kernel_rfl) (by kernel_rfl) (by kernel_rfl) (fun _ _ _ h => h) (by rfl) hHeld ?_ ?_
        rotate_left
        · intro wz hSz; go_simp; try with_reducible rfl
        simp only [Act.put, List.setIfInBounds_toArray, List.set_cons_zero, List.set_cons_succ]
        refine wpAnyH_done (by kernel_rfl) ?_ _
        have HB5 := hid (below_to HB4.out hHeld)
        go_wp2_with fail
        go_ret
        exact ⟨by rw [HV.out]; rfl, HB5.out⟩
  · skip
    have HV := hid (show cmpV op a b = wantV 3 b (truV (holdB op (decide (a.s < b.s)) (decide (a.s = b.s)))) by unfold cmpV; rw [if_neg (by omega), if_pos hk])
    generalize bxV a = X at *
    subst hbx
    have h1 := fun w => asN_no w 9 (.string ⟨a.s.toArray⟩) (by decide)
    have h2 := fun w => asS_yes w (.string ⟨a.s.toArray⟩)
    have hb4 := below_alloc wy (.cells #[.string ⟨a.s.toArray⟩] 9)
    have hs4 := alloc_size wy (.cells #[.string ⟨a.s.toArray⟩] 9)
    have a0 : (wy.alloc (.cells #[.string ⟨a.s.toArray⟩] 9)).cell? ⟨wy.heap.size, 0, none⟩ = some (.string ⟨a.s.toArray⟩) := by rw [cells_of_alloc]; rfl
    obtain ⟨w4, hw4⟩ : ∃ w4, wy.alloc (.cells #[.string ⟨a.s.toArray⟩] 9) = w4 := ⟨_, rfl⟩
    rw [hw4] at hb4 hs4 a0
    have HB4 := hid (below_to HB2.out hb4)
    have HT4 := hid (HT2.out.later hb4)
    have k0 := (hb4.cell (p := ⟨w.heap.size, 0, none⟩) g0).trans k0
    have k1 := (hb4.cell (p := ⟨w.heap.size, 1, none⟩) g0).trans k1
    have p0 := (hb4.cell (p := ⟨w1.heap.size, 0, none⟩) g1).trans p0
    have y0 := (hb4.cell (p := ⟨g, o + 4, none⟩) gg).trans y0
    have y1 := (hb4.cell (p := ⟨g, o + 4 + 1, none⟩) gg).trans y1
    have y2 := (hb4.cell (p := ⟨g, o + 4 + 2, none⟩) gg).trans y2
    have y3 := (hb4.cell (p := ⟨g, o + 4 + 3, none⟩) gg).trans y3
    have ga : wy.heap.size < w4.heap.size := by omega
    have g0 : w.heap.size < w4.heap.size := by omega
    have g1 : w1.heap.size < w4.heap.size := by omega
    have gg : g < w4.heap.size := by omega
    have hen : ∀ xs w, (callFunc 200 xs).run prog w = .ok (.enter 200 xs) w := fun _ _ => by kernel_rfl
    have c1 : ∀ w', Below w4.heap.size w4 w' → Calls prog 115 #[KE A l c B m d, .slice (some ⟨g, o + 4, none⟩) (len - 1) (cap - 1), .func (.func 200) #[] #[.pointer (some ⟨w1.heap.size, 0, none⟩), .pointer (some ⟨wy.heap.size, 0, none⟩)]] w' (Comes w' (wantV 3 b (truV (holdB op (decide (a.s < b.s)) (decide (a.s = b.s)))))) := fun w' hw =>
      one_text A B l c m d g (o + 4) (len - 1) (cap - 1) opy ny sy kvy b (truV (holdB op (decide (a.s < b.s)) (decide (a.s = b.s)))) 200 hen _ w' hb (HT4.out.later hw) (by omega) ((hw.cell (p := ⟨g, o + 4, none⟩) gg).trans y0) ((hw.cell (p := ⟨g, o + 4 + 1, none⟩) gg).trans y1) ((hw.cell (p := ⟨g, o + 4 + 2, none⟩) gg).trans y2) ((hw.cell (p := ⟨g, o + 4 + 3, none⟩) gg).trans y3)
        (fun w2 hw2 => HY.out w2 (below_to HB4.out (below_to hw hw2)))
        (fun hkb w2 hw2 => do_cmps op a.s b.s w1.heap.size wy.heap.size w2 ho (((below_to hw hw2).cell (p := ⟨w1.heap.size, 0, none⟩) g1).trans p0) (((below_to hw hw2).cell (p := ⟨wy.heap.size, 0, none⟩) ga).trans a0))
    clear hb4 hs4 hen
    generalize (wantV 3 b (truV (holdB op (decide (a.s < b.s)) (decide (a.s = b.s))))) = V at *
    go_wp2_with fail
    refine wp_region_held_drew (S := fun w' => Below w4.heap.size w4 w') (by kernel_rfl) ((Below.refl _ _).drew) (fun hHeld => ?_)
    refine held_take (i := 0) (v := ?_) rfl (by kernel_rfl) (by kernel_rfl) (by kernel_rfl) (fun _ _ _ h => h) (by rfl) hHeld ?_ ?_
    rotate_left
    · intro wz hSz; have q0 := (hSz.cell (p := ⟨w.heap.size, 0, none⟩) g0).trans k0; have q1 := (hSz.cell (p := ⟨w.heap.size, 1, none⟩) g0).trans k1; go_simp; try with_reducible rfl
    simp only [Act.put, List.setIfInBounds_toArray, List.set_cons_zero, List.set_cons_succ]
    refine held_take (i := 1) (v := ?_) rfl (by kernel_rfl) (by kernel_rfl) (by kernel_rfl) (fun _ _ _ h => h) (by rfl) hHeld ?_ ?_
    rotate_left
    · intro wz hSz; go_simp; try with_reducible rfl
    simp only [Act.put, List.setIfInBounds_toArray, List.set_cons_zero, List.set_cons_succ]
    refine held_take (i := 2) (v := ?_) rfl (by kernel_rfl) (by kernel_rfl) (by kernel_rfl) (fun _ _ _ h => h) (by rfl) hHeld ?_ ?_
    rotate_left
    · intro wz hSz; go_simp; try with_reducible rfl
    simp only [Act.put, List.setIfInBounds_toArray, List.set_cons_zero, List.set_cons_succ]
    refine held_take (i := 3) (v := ?_) rfl (by kernel_rfl) (by kernel_rfl) (by kernel_rfl) (fun _ _ _ h => h) (by rfl) hHeld ?_ ?_
    rotate_left
    · intro wz hSz; go_simp; try with_reducible rfl
    simp only [Act.put, List.setIfInBounds_toArray, List.set_cons_zero, List.set_cons_succ]
    refine held_call (i := 4) (by kernel_rfl) rfl (by rfl) (by go_simp; try with_reducible rfl) (c1 _ hHeld) ?_
    rintro e wy ⟨rfl, hy4⟩
    refine ⟨_, rfl, below_to hHeld hy4, ?_⟩
    replace hHeld := below_to hHeld hy4
    simp only [Act.put, List.setIfInBounds_toArray, List.set_cons_zero, List.set_cons_succ]
    refine held_take (i := 5) (v := ?_) rfl (by kernel_rfl) (by kernel_rfl) (by kernel_rfl) (fun _ _ _ h => h) (by rfl) hHeld ?_ ?_
    rotate_left
    · intro wz hSz; go_simp; try with_reducible rfl
    simp only [Act.put, List.setIfInBounds_toArray, List.set_cons_zero, List.set_cons_succ]
    refine wpAnyH_done (by kernel_rfl) ?_ _
    have HB5 := hid (below_to HB4.out hHeld)
    go_wp2_with fail
    go_ret
    exact ⟨by rw [HV.out]; rfl, HB5.out⟩
  all_goals
    have HV := hid (show cmpV op a b = wrongV a by unfold cmpV; rw [if_neg (by omega), if_neg (by omega), if_neg (by omega)])
    have cW := wrong_any a ha wy HT2.out
    rw [hbx] at cW
    generalize bxV a = X at *
    subst hbx
    first
      | (have h1 := fun w => asN_no w 39 (V3 4 a.n ⟨#[]⟩) (by decide)
         have h2 := fun w => asS_no w 39 (V3 4 a.n ⟨#[]⟩) (by decide)
         have h3 := fun w => asB_no w 39 (V3 4 a.n ⟨#[]⟩) (by decide)
         go_wp2_with fail
         refine cW.mono ?_)
      | (have h1 := asN_nil
         have h2 := asS_nil
         have h3 := asB_nil
         go_wp2_with fail
         refine cW.mono ?_)
    rintro e w5 ⟨rfl, b5⟩
    go_wp2_with fail
    go_ret
    exact ⟨by rw [HV.out]; rfl, below_to HB2.out b5⟩
end
end Go.Proofs.YtbbblmedoagncaaGreatDoor
