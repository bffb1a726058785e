/- EvT -/
import Derived.Test.YtbbblmedoagncaaGreatDoorSEY
import Derived.KernelRfl
namespace Go.Proofs.YtbbblmedoagncaaGreatDoor
section
open Lib (hid)
open _root_.Go.Proofs.Tryz
set_option maxHeartbeats 4000000
set_option maxRecDepth 100000
open Go.RowKit
theorem mkfunc (fn:Fn) (first cap:Array Value) (w:World):(Instr.makeFunc fn first cap).run prog w=.ok (.func fn first cap) w:=rfl
theorem two2_nn (pf pv:Nat) (F:FuncId) (hen:∀ xs w,(callFunc F xs).run prog w=.ok (.enter F xs) w) (caps:Array Value) (a b f:Va) (w:World) (c0:w.cell? ⟨pf,0,none⟩=some (.func (.func F) #[] caps)) (c1:w.cell? ⟨pv,0,none⟩=some (.int .i64 a.n))
  (cF:Calls prog F (#[.int .i64 a.n,.int .i64 b.n]++caps) w (Comes w f)) :
  Calls prog 194 #[.int .i64 b.n,.pointer (some ⟨pf,0,none⟩),.pointer (some ⟨pv,0,none⟩)] w (Comes w f):=by
 go_enter func194,ntmps194
 go_wp2_with fail
 refine cF.mono ?_
 rintro e w3 ⟨rfl,b3⟩
 go_wp2_with fail
 go_ret
 exact⟨rfl,b3⟩
theorem two1_nn (A B:Option Addr) (l c m d:Nat) (pk ps pf g o len cap:Nat) (op n:Int) (s:ByteArray) (kv:Value) (a b f:Va) (F:FuncId) (hen:∀ xs w,(callFunc F xs).run prog w=.ok (.enter F xs) w) (caps:Array Value) (w:World) (hb:b.ok) (hT:Tabs w) (hlen:1<len) (hcap:len≤cap)
  (k0:w.cell? ⟨pk,0,none⟩=some (.slice A l c)) (k1:w.cell? ⟨pk,1,none⟩=some (.slice B m d)) (s0:w.cell? ⟨ps,0,none⟩=some (.slice (some ⟨g,o,none⟩) len cap)) (f0:w.cell? ⟨pf,0,none⟩=some (.func (.func F) #[] caps))
  (c0:w.cell? ⟨g,o+4,none⟩=some (.int .i64 op)) (c1:w.cell? ⟨g,o+4+1,none⟩=some (.int .i64 n)) (c2:w.cell? ⟨g,o+4+2,none⟩=some (.string s)) (c3:w.cell? ⟨g,o+4+3,none⟩=some kv)
  (cK:∀ w',Below w.heap.size w w'→Calls prog 49 #[KE A l c B m d,.agg #[.int .i64 op,.int .i64 n,.string s,kv]] w' (Comes w' b))
  (cF:b.k=1→∀ w',Below w.heap.size w w'→Calls prog F (#[.int .i64 a.n,.int .i64 b.n]++caps) w' (Comes w' f)) :
  Calls prog 193 #[.int .i64 a.n,.pointer (some ⟨pk,0,none⟩),.pointer (some ⟨ps,0,none⟩),.pointer (some ⟨pf,0,none⟩)] w (Comes w (wantV 1 b f)):=by
 have hlz:(1:Int)≤(len:Int):=by omega
 have hcz:¬ cap=1:=by omega
 have hkz:1≤len:=by omega
 have hkz2:len≤cap:=hcap
 have hmf:=mkfunc
 have hen1:∀ xs w,(callFunc 194 xs).run prog w=.ok (.enter 194 xs) w:=fun _ _=>by kernel_rfl
 have hgl:g<w.heap.size:=World.block_lt_of_cell? w ⟨g,o+4,none⟩ c0
 have hkl:pk<w.heap.size:=World.block_lt_of_cell? w ⟨pk,0,none⟩ k0
 have hsl:ps<w.heap.size:=World.block_lt_of_cell? w ⟨ps,0,none⟩ s0
 have hfl:pf<w.heap.size:=World.block_lt_of_cell? w ⟨pf,0,none⟩ f0
 have hb1:=below_alloc w (.cells #[.int .i64 a.n] 2)
 have v0:(w.alloc (.cells #[.int .i64 a.n] 2)).cell? ⟨w.heap.size,0,none⟩=some (.int .i64 a.n):=by rw[cells_of_alloc];rfl
 have hs1:=alloc_size w (.cells #[.int .i64 a.n] 2)
 have hT1:=hT.later hb1
 have HK:=hid cK
 have HF:=hid cF
 obtain⟨w1,hw1⟩:∃ w1,w.alloc (.cells #[.int .i64 a.n] 2)=w1:=⟨_,rfl⟩
 rw[hw1] at hb1 hs1 v0 hT1
 have HB:=hid hb1
 have k0:=(hb1.cell (p:=⟨pk,0,none⟩) hkl).trans k0
 have k1:=(hb1.cell (p:=⟨pk,1,none⟩) hkl).trans k1
 have s0:=(hb1.cell (p:=⟨ps,0,none⟩) hsl).trans s0
 have f0:=(hb1.cell (p:=⟨pf,0,none⟩) hfl).trans f0
 have c0:=(hb1.cell (p:=⟨g,o+4,none⟩) hgl).trans c0
 have c1:=(hb1.cell (p:=⟨g,o+4+1,none⟩) hgl).trans c1
 have c2:=(hb1.cell (p:=⟨g,o+4+2,none⟩) hgl).trans c2
 have c3:=(hb1.cell (p:=⟨g,o+4+3,none⟩) hgl).trans c3
 have gk:pk<w1.heap.size:=by omega
 have gs:ps<w1.heap.size:=by omega
 have gf:pf<w1.heap.size:=by omega
 have gg:g<w1.heap.size:=by omega
 have gv:w.heap.size<w1.heap.size:=by omega
 have cO:∀ w',Below w1.heap.size w1 w'→Calls prog 105 #[KE A l c B m d,.slice (some ⟨g,o+4,none⟩) (len - 1) (cap - 1),.func (.func 194) #[] #[.pointer (some ⟨pf,0,none⟩),.pointer (some ⟨w.heap.size,0,none⟩)]] w' (Comes w' (wantV 1 b f)):=fun w' hw =>
  one_num A B l c m d g (o+4) (len - 1) (cap - 1) op n s kv b f 194 hen1 #[.pointer (some ⟨pf,0,none⟩),.pointer (some ⟨w.heap.size,0,none⟩)] w' hb (hT1.later hw) (by omega)
   ((hw.cell (p:=⟨g,o+4,none⟩) gg).trans c0) ((hw.cell (p:=⟨g,o+4+1,none⟩) gg).trans c1) ((hw.cell (p:=⟨g,o+4+2,none⟩) gg).trans c2) ((hw.cell (p:=⟨g,o+4+3,none⟩) gg).trans c3)
   (fun w2 hw2=>HK.out w2 (below_to HB.out (below_to hw hw2)))
   (fun hk w2 hw2=>two2_nn pf w.heap.size F hen caps a b f w2 (((below_to hw hw2).cell (p:=⟨pf,0,none⟩) gf).trans f0) (((below_to hw hw2).cell (p:=⟨w.heap.size,0,none⟩) gv).trans v0) (HF.out hk w2 (below_to HB.out (below_to hw hw2))))
 clear c0 c1 c2 c3 hT hgl hkl hsl hfl hb1 hs1 hT1 cK cF hen1
 go_enter func193,ntmps193
 go_wp2_with fail
 refine wp_region_held_drew (S:=fun w'=>Below w1.heap.size w1 w') (by kernel_rfl) ((Below.refl _ _).drew) (fun hHeld=>?_)
 refine held_take (i:=0) (v:=?_) rfl (by kernel_rfl) (by kernel_rfl) (by kernel_rfl) (fun _ _ _ h=>h) (by rfl) hHeld ?_ ?_
 rotate_left
 ·intro wz hSz;have q0:=(hSz.cell (p:=⟨pk,0,none⟩) gk).trans k0;have q1:=(hSz.cell (p:=⟨pk,1,none⟩) gk).trans k1;go_simp;try with_reducible rfl
 simp only[Act.put,List.setIfInBounds_toArray,List.set_cons_zero,List.set_cons_succ]
 refine held_take (i:=1) (v:=?_) rfl (by kernel_rfl) (by kernel_rfl) (by kernel_rfl) (fun _ _ _ h=>h) (by rfl) hHeld ?_ ?_
 rotate_left
 ·intro wz hSz;have q0:=(hSz.cell (p:=⟨ps,0,none⟩) gs).trans s0;go_simp;try with_reducible rfl
 simp only[Act.put,List.setIfInBounds_toArray,List.set_cons_zero,List.set_cons_succ]
 refine held_take (i:=2) (v:=?_) rfl (by kernel_rfl) (by kernel_rfl) (by kernel_rfl) (fun _ _ _ h=>h) (by rfl) hHeld ?_ ?_
 rotate_left
 ·intro wz hSz;go_simp;try with_reducible rfl
 simp only[Act.put,List.setIfInBounds_toArray,List.set_cons_zero,List.set_cons_succ]
 refine held_take (i:=3) (v:=?_) rfl (by kernel_rfl) (by kernel_rfl) (by kernel_rfl) (fun _ _ _ h=>h) (by rfl) hHeld ?_ ?_
 rotate_left
 ·intro wz hSz;go_simp;try with_reducible rfl
 simp only[Act.put,List.setIfInBounds_toArray,List.set_cons_zero,List.set_cons_succ]
 refine held_call (i:=4) (by kernel_rfl) rfl (by rfl) (by go_simp;try with_reducible rfl) (cO _ hHeld) ?_
 rintro e wy ⟨rfl,hy⟩
 refine⟨_,rfl,below_to hHeld hy,?_⟩
 replace hHeld:=below_to hHeld hy
 simp only[Act.put,List.setIfInBounds_toArray,List.set_cons_zero,List.set_cons_succ]
 refine held_take (i:=5) (v:=?_) rfl (by kernel_rfl) (by kernel_rfl) (by kernel_rfl) (fun _ _ _ h=>h) (by rfl) hHeld ?_ ?_
 rotate_left
 ·intro wz hSz;go_simp;try with_reducible rfl
 simp only[Act.put,List.setIfInBounds_toArray,List.set_cons_zero,List.set_cons_succ]
 refine wpAnyH_done (by kernel_rfl) ?_ _
 have HB2:=hid (below_to HB.out hHeld)
 go_wp2_with fail
 go_ret
 exact⟨rfl,HB2.out⟩
theorem two_nn (A B:Option Addr) (l c m d:Nat) (g o len cap:Nat) (op n op2 n2:Int) (s s2:ByteArray) (kv kv2:Value) (a b f:Va) (F:FuncId) (hen:∀ xs w,(callFunc F xs).run prog w=.ok (.enter F xs) w) (caps:Array Value) (w:World) (ha:a.ok) (hb:b.ok) (hT:Tabs w) (hlen:1<len) (hcap:len≤cap)
  (e0:w.cell? ⟨g,o,none⟩=some (.int .i64 op)) (e1:w.cell? ⟨g,o+1,none⟩=some (.int .i64 n)) (e2:w.cell? ⟨g,o+2,none⟩=some (.string s)) (e3:w.cell? ⟨g,o+3,none⟩=some kv)
  (c0:w.cell? ⟨g,o+4,none⟩=some (.int .i64 op2)) (c1:w.cell? ⟨g,o+4+1,none⟩=some (.int .i64 n2)) (c2:w.cell? ⟨g,o+4+2,none⟩=some (.string s2)) (c3:w.cell? ⟨g,o+4+3,none⟩=some kv2)
  (cJ:∀ w',Below w.heap.size w w'→Calls prog 49 #[KE A l c B m d,.agg #[.int .i64 op,.int .i64 n,.string s,kv]] w' (Comes w' a))
  (cK:∀ w',Below w.heap.size w w'→Calls prog 49 #[KE A l c B m d,.agg #[.int .i64 op2,.int .i64 n2,.string s2,kv2]] w' (Comes w' b))
  (cF:a.k=1→b.k=1→∀ w',Below w.heap.size w w'→Calls prog F (#[.int .i64 a.n,.int .i64 b.n]++caps) w' (Comes w' f)) :
  Calls prog 108 #[KE A l c B m d,.slice (some ⟨g,o,none⟩) len cap,.func (.func F) #[] caps] w (Comes w (wantV 1 a (wantV 1 b f))):=by
 have hmf:=mkfunc
 have hen1:∀ xs w,(callFunc 193 xs).run prog w=.ok (.enter 193 xs) w:=fun _ _=>by kernel_rfl
 have hgl:g<w.heap.size:=World.block_lt_of_cell? w ⟨g,o,none⟩ e0
 have hb1:=below_alloc w (.cells #[.slice A l c,.slice B m d] 87)
 have hs1:=alloc_size w (.cells #[.slice A l c,.slice B m d] 87)
 have k0:(w.alloc (.cells #[.slice A l c,.slice B m d] 87)).cell? ⟨w.heap.size,0,none⟩=some (.slice A l c):=by rw[cells_of_alloc];rfl
 have k1:(w.alloc (.cells #[.slice A l c,.slice B m d] 87)).cell? ⟨w.heap.size,1,none⟩=some (.slice B m d):=by rw[cells_of_alloc];rfl
 obtain⟨w1,hw1⟩:∃ w1,w.alloc (.cells #[.slice A l c,.slice B m d] 87)=w1:=⟨_,rfl⟩
 rw[hw1] at hb1 hs1 k0 k1
 have hb2:=below_alloc w1 (.cells #[.slice (some ⟨g,o,none⟩) len cap] 22)
 have hs2:=alloc_size w1 (.cells #[.slice (some ⟨g,o,none⟩) len cap] 22)
 have s0:(w1.alloc (.cells #[.slice (some ⟨g,o,none⟩) len cap] 22)).cell? ⟨w1.heap.size,0,none⟩=some (.slice (some ⟨g,o,none⟩) len cap):=by rw[cells_of_alloc];rfl
 obtain⟨w2,hw2⟩:∃ w2,w1.alloc (.cells #[.slice (some ⟨g,o,none⟩) len cap] 22)=w2:=⟨_,rfl⟩
 rw[hw2] at hb2 hs2 s0
 have hb3:=below_alloc w2 (.cells #[.func (.func F) #[] caps] 167)
 have hs3:=alloc_size w2 (.cells #[.func (.func F) #[] caps] 167)
 have f0:(w2.alloc (.cells #[.func (.func F) #[] caps] 167)).cell? ⟨w2.heap.size,0,none⟩=some (.func (.func F) #[] caps):=by rw[cells_of_alloc];rfl
 obtain⟨w3,hw3⟩:∃ w3,w2.alloc (.cells #[.func (.func F) #[] caps] 167)=w3:=⟨_,rfl⟩
 rw[hw3] at hb3 hs3 f0
 have hB:=below_to (below_to hb1 hb2) hb3
 have HB:=hid hB
 have k0:=((below_to hb2 hb3).cell (p:=⟨w.heap.size,0,none⟩) (show w.heap.size<w1.heap.size by omega)).trans k0
 have k1:=((below_to hb2 hb3).cell (p:=⟨w.heap.size,1,none⟩) (show w.heap.size<w1.heap.size by omega)).trans k1
 have s0:=(hb3.cell (p:=⟨w1.heap.size,0,none⟩) (show w1.heap.size<w2.heap.size by omega)).trans s0
 have HT:=hid (hT.later hB)
 have HJ:=hid cJ
 have HK:=hid cK
 have HF:=hid cF
 have g0:w.heap.size<w3.heap.size:=by omega
 have g1:w1.heap.size<w3.heap.size:=by omega
 have g2:w2.heap.size<w3.heap.size:=by omega
 have gg:g<w3.heap.size:=by omega
 have e0:=(hB.cell (p:=⟨g,o,none⟩) hgl).trans e0
 have e1:=(hB.cell (p:=⟨g,o+1,none⟩) hgl).trans e1
 have e2:=(hB.cell (p:=⟨g,o+2,none⟩) hgl).trans e2
 have e3:=(hB.cell (p:=⟨g,o+3,none⟩) hgl).trans e3
 have c0:=(hB.cell (p:=⟨g,o+4,none⟩) hgl).trans c0
 have c1:=(hB.cell (p:=⟨g,o+4+1,none⟩) hgl).trans c1
 have c2:=(hB.cell (p:=⟨g,o+4+2,none⟩) hgl).trans c2
 have c3:=(hB.cell (p:=⟨g,o+4+3,none⟩) hgl).trans c3
 have cO:Calls prog 105 #[KE A l c B m d,.slice (some ⟨g,o,none⟩) len cap,.func (.func 193) #[] #[.pointer (some ⟨w.heap.size,0,none⟩),.pointer (some ⟨w1.heap.size,0,none⟩),.pointer (some ⟨w2.heap.size,0,none⟩)]] w3 (Comes w3 (wantV 1 a (wantV 1 b f))) :=
  one_num A B l c m d g o len cap op n s kv a (wantV 1 b f) 193 hen1 _ w3 ha HT.out (by omega) e0 e1 e2 e3
   (fun w' hw=>HJ.out w' (below_to HB.out hw))
   (fun hk w' hw=>two1_nn A B l c m d w.heap.size w1.heap.size w2.heap.size g o len cap op2 n2 s2 kv2 a b f F hen caps w' hb (HT.out.later hw) hlen hcap
    ((hw.cell (p:=⟨w.heap.size,0,none⟩) g0).trans k0) ((hw.cell (p:=⟨w.heap.size,1,none⟩) g0).trans k1) ((hw.cell (p:=⟨w1.heap.size,0,none⟩) g1).trans s0) ((hw.cell (p:=⟨w2.heap.size,0,none⟩) g2).trans f0)
    ((hw.cell (p:=⟨g,o+4,none⟩) gg).trans c0) ((hw.cell (p:=⟨g,o+4+1,none⟩) gg).trans c1) ((hw.cell (p:=⟨g,o+4+2,none⟩) gg).trans c2) ((hw.cell (p:=⟨g,o+4+3,none⟩) gg).trans c3)
    (fun w4 hw4=>HK.out w4 (below_to HB.out (below_to hw hw4))) (fun hk2 w4 hw4=>HF.out hk hk2 w4 (below_to HB.out (below_to hw hw4))))
 clear c0 c1 c2 c3 e0 e1 e2 e3 hT hgl hb1 hb2 hb3 hs1 hs2 hs3 cJ cK cF hen1 hB
 go_enter func108,ntmps108
 go_wp2_with fail
 refine cO.mono ?_
 rintro e w5 ⟨rfl,b5⟩
 go_wp2_with fail
 go_ret
 exact⟨rfl,below_to HB.out b5⟩
theorem two2_tt (pf pv:Nat) (F:FuncId) (hen:∀ xs w,(callFunc F xs).run prog w=.ok (.enter F xs) w) (caps:Array Value) (a b f:Va) (w:World) (c0:w.cell? ⟨pf,0,none⟩=some (.func (.func F) #[] caps)) (c1:w.cell? ⟨pv,0,none⟩=some (.string ⟨a.s.toArray⟩))
  (cF:Calls prog F (#[.string ⟨a.s.toArray⟩,.string ⟨b.s.toArray⟩]++caps) w (Comes w f)) :
  Calls prog 205 #[.string ⟨b.s.toArray⟩,.pointer (some ⟨pf,0,none⟩),.pointer (some ⟨pv,0,none⟩)] w (Comes w f):=by
 go_enter func205,ntmps205
 go_wp2_with fail
 refine cF.mono ?_
 rintro e w3 ⟨rfl,b3⟩
 go_wp2_with fail
 go_ret
 exact⟨rfl,b3⟩
theorem two1_tt (A B:Option Addr) (l c m d:Nat) (pk ps pf g o len cap:Nat) (op n:Int) (s:ByteArray) (kv:Value) (a b f:Va) (F:FuncId) (hen:∀ xs w,(callFunc F xs).run prog w=.ok (.enter F xs) w) (caps:Array Value) (w:World) (hb:b.ok) (hT:Tabs w) (hlen:1<len) (hcap:len≤cap)
  (k0:w.cell? ⟨pk,0,none⟩=some (.slice A l c)) (k1:w.cell? ⟨pk,1,none⟩=some (.slice B m d)) (s0:w.cell? ⟨ps,0,none⟩=some (.slice (some ⟨g,o,none⟩) len cap)) (f0:w.cell? ⟨pf,0,none⟩=some (.func (.func F) #[] caps))
  (c0:w.cell? ⟨g,o+4,none⟩=some (.int .i64 op)) (c1:w.cell? ⟨g,o+4+1,none⟩=some (.int .i64 n)) (c2:w.cell? ⟨g,o+4+2,none⟩=some (.string s)) (c3:w.cell? ⟨g,o+4+3,none⟩=some kv)
  (cK:∀ w',Below w.heap.size w w'→Calls prog 49 #[KE A l c B m d,.agg #[.int .i64 op,.int .i64 n,.string s,kv]] w' (Comes w' b))
  (cF:b.k=3→∀ w',Below w.heap.size w w'→Calls prog F (#[.string ⟨a.s.toArray⟩,.string ⟨b.s.toArray⟩]++caps) w' (Comes w' f)) :
  Calls prog 204 #[.string ⟨a.s.toArray⟩,.pointer (some ⟨pk,0,none⟩),.pointer (some ⟨ps,0,none⟩),.pointer (some ⟨pf,0,none⟩)] w (Comes w (wantV 3 b f)):=by
 have hlz:(1:Int)≤(len:Int):=by omega
 have hcz:¬ cap=1:=by omega
 have hkz:1≤len:=by omega
 have hkz2:len≤cap:=hcap
 have hmf:=mkfunc
 have hen1:∀ xs w,(callFunc 205 xs).run prog w=.ok (.enter 205 xs) w:=fun _ _=>by kernel_rfl
 have hgl:g<w.heap.size:=World.block_lt_of_cell? w ⟨g,o+4,none⟩ c0
 have hkl:pk<w.heap.size:=World.block_lt_of_cell? w ⟨pk,0,none⟩ k0
 have hsl:ps<w.heap.size:=World.block_lt_of_cell? w ⟨ps,0,none⟩ s0
 have hfl:pf<w.heap.size:=World.block_lt_of_cell? w ⟨pf,0,none⟩ f0
 have hb1:=below_alloc w (.cells #[.string ⟨a.s.toArray⟩] 9)
 have v0:(w.alloc (.cells #[.string ⟨a.s.toArray⟩] 9)).cell? ⟨w.heap.size,0,none⟩=some (.string ⟨a.s.toArray⟩):=by rw[cells_of_alloc];rfl
 have hs1:=alloc_size w (.cells #[.string ⟨a.s.toArray⟩] 9)
 have hT1:=hT.later hb1
 have HK:=hid cK
 have HF:=hid cF
 obtain⟨w1,hw1⟩:∃ w1,w.alloc (.cells #[.string ⟨a.s.toArray⟩] 9)=w1:=⟨_,rfl⟩
 rw[hw1] at hb1 hs1 v0 hT1
 have HB:=hid hb1
 have k0:=(hb1.cell (p:=⟨pk,0,none⟩) hkl).trans k0
 have k1:=(hb1.cell (p:=⟨pk,1,none⟩) hkl).trans k1
 have s0:=(hb1.cell (p:=⟨ps,0,none⟩) hsl).trans s0
 have f0:=(hb1.cell (p:=⟨pf,0,none⟩) hfl).trans f0
 have c0:=(hb1.cell (p:=⟨g,o+4,none⟩) hgl).trans c0
 have c1:=(hb1.cell (p:=⟨g,o+4+1,none⟩) hgl).trans c1
 have c2:=(hb1.cell (p:=⟨g,o+4+2,none⟩) hgl).trans c2
 have c3:=(hb1.cell (p:=⟨g,o+4+3,none⟩) hgl).trans c3
 have gk:pk<w1.heap.size:=by omega
 have gs:ps<w1.heap.size:=by omega
 have gf:pf<w1.heap.size:=by omega
 have gg:g<w1.heap.size:=by omega
 have gv:w.heap.size<w1.heap.size:=by omega
 have cO:∀ w',Below w1.heap.size w1 w'→Calls prog 115 #[KE A l c B m d,.slice (some ⟨g,o+4,none⟩) (len - 1) (cap - 1),.func (.func 205) #[] #[.pointer (some ⟨pf,0,none⟩),.pointer (some ⟨w.heap.size,0,none⟩)]] w' (Comes w' (wantV 3 b f)):=fun w' hw =>
  one_text A B l c m d g (o+4) (len - 1) (cap - 1) op n s kv b f 205 hen1 #[.pointer (some ⟨pf,0,none⟩),.pointer (some ⟨w.heap.size,0,none⟩)] w' hb (hT1.later hw) (by omega)
   ((hw.cell (p:=⟨g,o+4,none⟩) gg).trans c0) ((hw.cell (p:=⟨g,o+4+1,none⟩) gg).trans c1) ((hw.cell (p:=⟨g,o+4+2,none⟩) gg).trans c2) ((hw.cell (p:=⟨g,o+4+3,none⟩) gg).trans c3)
   (fun w2 hw2=>HK.out w2 (below_to HB.out (below_to hw hw2)))
   (fun hk w2 hw2=>two2_tt pf w.heap.size F hen caps a b f w2 (((below_to hw hw2).cell (p:=⟨pf,0,none⟩) gf).trans f0) (((below_to hw hw2).cell (p:=⟨w.heap.size,0,none⟩) gv).trans v0) (HF.out hk w2 (below_to HB.out (below_to hw hw2))))
 clear c0 c1 c2 c3 hT hgl hkl hsl hfl hb1 hs1 hT1 cK cF hen1
 go_enter func204,ntmps204
 go_wp2_with fail
 refine wp_region_held_drew (S:=fun w'=>Below w1.heap.size w1 w') (by kernel_rfl) ((Below.refl _ _).drew) (fun hHeld=>?_)
 refine held_take (i:=0) (v:=?_) rfl (by kernel_rfl) (by kernel_rfl) (by kernel_rfl) (fun _ _ _ h=>h) (by rfl) hHeld ?_ ?_
 rotate_left
 ·intro wz hSz;have q0:=(hSz.cell (p:=⟨pk,0,none⟩) gk).trans k0;have q1:=(hSz.cell (p:=⟨pk,1,none⟩) gk).trans k1;go_simp;try with_reducible rfl
 simp only[Act.put,List.setIfInBounds_toArray,List.set_cons_zero,List.set_cons_succ]
 refine held_take (i:=1) (v:=?_) rfl (by kernel_rfl) (by kernel_rfl) (by kernel_rfl) (fun _ _ _ h=>h) (by rfl) hHeld ?_ ?_
 rotate_left
 ·intro wz hSz;have q0:=(hSz.cell (p:=⟨ps,0,none⟩) gs).trans s0;go_simp;try with_reducible rfl
 simp only[Act.put,List.setIfInBounds_toArray,List.set_cons_zero,List.set_cons_succ]
 refine held_take (i:=2) (v:=?_) rfl (by kernel_rfl) (by kernel_rfl) (by kernel_rfl) (fun _ _ _ h=>h) (by rfl) hHeld ?_ ?_
 rotate_left
 ·intro wz hSz;go_simp;try with_reducible rfl
 simp only[Act.put,List.setIfInBounds_toArray,List.set_cons_zero,List.set_cons_succ]
 refine held_take (i:=3) (v:=?_) rfl (by kernel_rfl) (by kernel_rfl) (by kernel_rfl) (fun _ _ _ h=>h) (by rfl) hHeld ?_ ?_
 rotate_left
 ·intro wz hSz;go_simp;try with_reducible rfl
 simp only[Act.put,List.setIfInBounds_toArray,List.set_cons_zero,List.set_cons_succ]
 refine held_call (i:=4) (by kernel_rfl) rfl (by rfl) (by go_simp;try with_reducible rfl) (cO _ hHeld) ?_
 rintro e wy ⟨rfl,hy⟩
 refine⟨_,rfl,below_to hHeld hy,?_⟩
 replace hHeld:=below_to hHeld hy
 simp only[Act.put,List.setIfInBounds_toArray,List.set_cons_zero,List.set_cons_succ]
 refine held_take (i:=5) (v:=?_) rfl (by kernel_rfl) (by kernel_rfl) (by kernel_rfl) (fun _ _ _ h=>h) (by rfl) hHeld ?_ ?_
 rotate_left
 ·intro wz hSz;go_simp;try with_reducible rfl
 simp only[Act.put,List.setIfInBounds_toArray,List.set_cons_zero,List.set_cons_succ]
 refine wpAnyH_done (by kernel_rfl) ?_ _
 have HB2:=hid (below_to HB.out hHeld)
 go_wp2_with fail
 go_ret
 exact⟨rfl,HB2.out⟩
theorem two_tt (A B:Option Addr) (l c m d:Nat) (g o len cap:Nat) (op n op2 n2:Int) (s s2:ByteArray) (kv kv2:Value) (a b f:Va) (F:FuncId) (hen:∀ xs w,(callFunc F xs).run prog w=.ok (.enter F xs) w) (caps:Array Value) (w:World) (ha:a.ok) (hb:b.ok) (hT:Tabs w) (hlen:1<len) (hcap:len≤cap)
  (e0:w.cell? ⟨g,o,none⟩=some (.int .i64 op)) (e1:w.cell? ⟨g,o+1,none⟩=some (.int .i64 n)) (e2:w.cell? ⟨g,o+2,none⟩=some (.string s)) (e3:w.cell? ⟨g,o+3,none⟩=some kv)
  (c0:w.cell? ⟨g,o+4,none⟩=some (.int .i64 op2)) (c1:w.cell? ⟨g,o+4+1,none⟩=some (.int .i64 n2)) (c2:w.cell? ⟨g,o+4+2,none⟩=some (.string s2)) (c3:w.cell? ⟨g,o+4+3,none⟩=some kv2)
  (cJ:∀ w',Below w.heap.size w w'→Calls prog 49 #[KE A l c B m d,.agg #[.int .i64 op,.int .i64 n,.string s,kv]] w' (Comes w' a))
  (cK:∀ w',Below w.heap.size w w'→Calls prog 49 #[KE A l c B m d,.agg #[.int .i64 op2,.int .i64 n2,.string s2,kv2]] w' (Comes w' b))
  (cF:a.k=3→b.k=3→∀ w',Below w.heap.size w w'→Calls prog F (#[.string ⟨a.s.toArray⟩,.string ⟨b.s.toArray⟩]++caps) w' (Comes w' f)) :
  Calls prog 118 #[KE A l c B m d,.slice (some ⟨g,o,none⟩) len cap,.func (.func F) #[] caps] w (Comes w (wantV 3 a (wantV 3 b f))):=by
 have hmf:=mkfunc
 have hen1:∀ xs w,(callFunc 204 xs).run prog w=.ok (.enter 204 xs) w:=fun _ _=>by kernel_rfl
 have hgl:g<w.heap.size:=World.block_lt_of_cell? w ⟨g,o,none⟩ e0
 have hb1:=below_alloc w (.cells #[.slice A l c,.slice B m d] 87)
 have hs1:=alloc_size w (.cells #[.slice A l c,.slice B m d] 87)
 have k0:(w.alloc (.cells #[.slice A l c,.slice B m d] 87)).cell? ⟨w.heap.size,0,none⟩=some (.slice A l c):=by rw[cells_of_alloc];rfl
 have k1:(w.alloc (.cells #[.slice A l c,.slice B m d] 87)).cell? ⟨w.heap.size,1,none⟩=some (.slice B m d):=by rw[cells_of_alloc];rfl
 obtain⟨w1,hw1⟩:∃ w1,w.alloc (.cells #[.slice A l c,.slice B m d] 87)=w1:=⟨_,rfl⟩
 rw[hw1] at hb1 hs1 k0 k1
 have hb2:=below_alloc w1 (.cells #[.slice (some ⟨g,o,none⟩) len cap] 22)
 have hs2:=alloc_size w1 (.cells #[.slice (some ⟨g,o,none⟩) len cap] 22)
 have s0:(w1.alloc (.cells #[.slice (some ⟨g,o,none⟩) len cap] 22)).cell? ⟨w1.heap.size,0,none⟩=some (.slice (some ⟨g,o,none⟩) len cap):=by rw[cells_of_alloc];rfl
 obtain⟨w2,hw2⟩:∃ w2,w1.alloc (.cells #[.slice (some ⟨g,o,none⟩) len cap] 22)=w2:=⟨_,rfl⟩
 rw[hw2] at hb2 hs2 s0
 have hb3:=below_alloc w2 (.cells #[.func (.func F) #[] caps] 176)
 have hs3:=alloc_size w2 (.cells #[.func (.func F) #[] caps] 176)
 have f0:(w2.alloc (.cells #[.func (.func F) #[] caps] 176)).cell? ⟨w2.heap.size,0,none⟩=some (.func (.func F) #[] caps):=by rw[cells_of_alloc];rfl
 obtain⟨w3,hw3⟩:∃ w3,w2.alloc (.cells #[.func (.func F) #[] caps] 176)=w3:=⟨_,rfl⟩
 rw[hw3] at hb3 hs3 f0
 have hB:=below_to (below_to hb1 hb2) hb3
 have HB:=hid hB
 have k0:=((below_to hb2 hb3).cell (p:=⟨w.heap.size,0,none⟩) (show w.heap.size<w1.heap.size by omega)).trans k0
 have k1:=((below_to hb2 hb3).cell (p:=⟨w.heap.size,1,none⟩) (show w.heap.size<w1.heap.size by omega)).trans k1
 have s0:=(hb3.cell (p:=⟨w1.heap.size,0,none⟩) (show w1.heap.size<w2.heap.size by omega)).trans s0
 have HT:=hid (hT.later hB)
 have HJ:=hid cJ
 have HK:=hid cK
 have HF:=hid cF
 have g0:w.heap.size<w3.heap.size:=by omega
 have g1:w1.heap.size<w3.heap.size:=by omega
 have g2:w2.heap.size<w3.heap.size:=by omega
 have gg:g<w3.heap.size:=by omega
 have e0:=(hB.cell (p:=⟨g,o,none⟩) hgl).trans e0
 have e1:=(hB.cell (p:=⟨g,o+1,none⟩) hgl).trans e1
 have e2:=(hB.cell (p:=⟨g,o+2,none⟩) hgl).trans e2
 have e3:=(hB.cell (p:=⟨g,o+3,none⟩) hgl).trans e3
 have c0:=(hB.cell (p:=⟨g,o+4,none⟩) hgl).trans c0
 have c1:=(hB.cell (p:=⟨g,o+4+1,none⟩) hgl).trans c1
 have c2:=(hB.cell (p:=⟨g,o+4+2,none⟩) hgl).trans c2
 have c3:=(hB.cell (p:=⟨g,o+4+3,none⟩) hgl).trans c3
 have cO:Calls prog 115 #[KE A l c B m d,.slice (some ⟨g,o,none⟩) len cap,.func (.func 204) #[] #[.pointer (some ⟨w.heap.size,0,none⟩),.pointer (some ⟨w1.heap.size,0,none⟩),.pointer (some ⟨w2.heap.size,0,none⟩)]] w3 (Comes w3 (wantV 3 a (wantV 3 b f))) :=
  one_text A B l c m d g o len cap op n s kv a (wantV 3 b f) 204 hen1 _ w3 ha HT.out (by omega) e0 e1 e2 e3
   (fun w' hw=>HJ.out w' (below_to HB.out hw))
   (fun hk w' hw=>two1_tt A B l c m d w.heap.size w1.heap.size w2.heap.size g o len cap op2 n2 s2 kv2 a b f F hen caps w' hb (HT.out.later hw) hlen hcap
    ((hw.cell (p:=⟨w.heap.size,0,none⟩) g0).trans k0) ((hw.cell (p:=⟨w.heap.size,1,none⟩) g0).trans k1) ((hw.cell (p:=⟨w1.heap.size,0,none⟩) g1).trans s0) ((hw.cell (p:=⟨w2.heap.size,0,none⟩) g2).trans f0)
    ((hw.cell (p:=⟨g,o+4,none⟩) gg).trans c0) ((hw.cell (p:=⟨g,o+4+1,none⟩) gg).trans c1) ((hw.cell (p:=⟨g,o+4+2,none⟩) gg).trans c2) ((hw.cell (p:=⟨g,o+4+3,none⟩) gg).trans c3)
    (fun w4 hw4=>HK.out w4 (below_to HB.out (below_to hw hw4))) (fun hk2 w4 hw4=>HF.out hk hk2 w4 (below_to HB.out (below_to hw hw4))))
 clear c0 c1 c2 c3 e0 e1 e2 e3 hT hgl hb1 hb2 hb3 hs1 hs2 hs3 cJ cK cF hen1 hB
 go_enter func118,ntmps118
 go_wp2_with fail
 refine cO.mono ?_
 rintro e w5 ⟨rfl,b5⟩
 go_wp2_with fail
 go_ret
 exact⟨rfl,below_to HB.out b5⟩
theorem two2_tn (pf pv:Nat) (F:FuncId) (hen:∀ xs w,(callFunc F xs).run prog w=.ok (.enter F xs) w) (caps:Array Value) (a b f:Va) (w:World) (c0:w.cell? ⟨pf,0,none⟩=some (.func (.func F) #[] caps)) (c1:w.cell? ⟨pv,0,none⟩=some (.string ⟨a.s.toArray⟩))
  (cF:Calls prog F (#[.string ⟨a.s.toArray⟩,.int .i64 b.n]++caps) w (Comes w f)) :
  Calls prog 207 #[.int .i64 b.n,.pointer (some ⟨pf,0,none⟩),.pointer (some ⟨pv,0,none⟩)] w (Comes w f):=by
 go_enter func207,ntmps207
 go_wp2_with fail
 refine cF.mono ?_
 rintro e w3 ⟨rfl,b3⟩
 go_wp2_with fail
 go_ret
 exact⟨rfl,b3⟩
theorem two1_tn (A B:Option Addr) (l c m d:Nat) (pk ps pf g o len cap:Nat) (op n:Int) (s:ByteArray) (kv:Value) (a b f:Va) (F:FuncId) (hen:∀ xs w,(callFunc F xs).run prog w=.ok (.enter F xs) w) (caps:Array Value) (w:World) (hb:b.ok) (hT:Tabs w) (hlen:1<len) (hcap:len≤cap)
  (k0:w.cell? ⟨pk,0,none⟩=some (.slice A l c)) (k1:w.cell? ⟨pk,1,none⟩=some (.slice B m d)) (s0:w.cell? ⟨ps,0,none⟩=some (.slice (some ⟨g,o,none⟩) len cap)) (f0:w.cell? ⟨pf,0,none⟩=some (.func (.func F) #[] caps))
  (c0:w.cell? ⟨g,o+4,none⟩=some (.int .i64 op)) (c1:w.cell? ⟨g,o+4+1,none⟩=some (.int .i64 n)) (c2:w.cell? ⟨g,o+4+2,none⟩=some (.string s)) (c3:w.cell? ⟨g,o+4+3,none⟩=some kv)
  (cK:∀ w',Below w.heap.size w w'→Calls prog 49 #[KE A l c B m d,.agg #[.int .i64 op,.int .i64 n,.string s,kv]] w' (Comes w' b))
  (cF:b.k=1→∀ w',Below w.heap.size w w'→Calls prog F (#[.string ⟨a.s.toArray⟩,.int .i64 b.n]++caps) w' (Comes w' f)) :
  Calls prog 206 #[.string ⟨a.s.toArray⟩,.pointer (some ⟨pk,0,none⟩),.pointer (some ⟨ps,0,none⟩),.pointer (some ⟨pf,0,none⟩)] w (Comes w (wantV 1 b f)):=by
 have hlz:(1:Int)≤(len:Int):=by omega
 have hcz:¬ cap=1:=by omega
 have hkz:1≤len:=by omega
 have hkz2:len≤cap:=hcap
 have hmf:=mkfunc
 have hen1:∀ xs w,(callFunc 207 xs).run prog w=.ok (.enter 207 xs) w:=fun _ _=>by kernel_rfl
 have hgl:g<w.heap.size:=World.block_lt_of_cell? w ⟨g,o+4,none⟩ c0
 have hkl:pk<w.heap.size:=World.block_lt_of_cell? w ⟨pk,0,none⟩ k0
 have hsl:ps<w.heap.size:=World.block_lt_of_cell? w ⟨ps,0,none⟩ s0
 have hfl:pf<w.heap.size:=World.block_lt_of_cell? w ⟨pf,0,none⟩ f0
 have hb1:=below_alloc w (.cells #[.string ⟨a.s.toArray⟩] 9)
 have v0:(w.alloc (.cells #[.string ⟨a.s.toArray⟩] 9)).cell? ⟨w.heap.size,0,none⟩=some (.string ⟨a.s.toArray⟩):=by rw[cells_of_alloc];rfl
 have hs1:=alloc_size w (.cells #[.string ⟨a.s.toArray⟩] 9)
 have hT1:=hT.later hb1
 have HK:=hid cK
 have HF:=hid cF
 obtain⟨w1,hw1⟩:∃ w1,w.alloc (.cells #[.string ⟨a.s.toArray⟩] 9)=w1:=⟨_,rfl⟩
 rw[hw1] at hb1 hs1 v0 hT1
 have HB:=hid hb1
 have k0:=(hb1.cell (p:=⟨pk,0,none⟩) hkl).trans k0
 have k1:=(hb1.cell (p:=⟨pk,1,none⟩) hkl).trans k1
 have s0:=(hb1.cell (p:=⟨ps,0,none⟩) hsl).trans s0
 have f0:=(hb1.cell (p:=⟨pf,0,none⟩) hfl).trans f0
 have c0:=(hb1.cell (p:=⟨g,o+4,none⟩) hgl).trans c0
 have c1:=(hb1.cell (p:=⟨g,o+4+1,none⟩) hgl).trans c1
 have c2:=(hb1.cell (p:=⟨g,o+4+2,none⟩) hgl).trans c2
 have c3:=(hb1.cell (p:=⟨g,o+4+3,none⟩) hgl).trans c3
 have gk:pk<w1.heap.size:=by omega
 have gs:ps<w1.heap.size:=by omega
 have gf:pf<w1.heap.size:=by omega
 have gg:g<w1.heap.size:=by omega
 have gv:w.heap.size<w1.heap.size:=by omega
 have cO:∀ w',Below w1.heap.size w1 w'→Calls prog 105 #[KE A l c B m d,.slice (some ⟨g,o+4,none⟩) (len - 1) (cap - 1),.func (.func 207) #[] #[.pointer (some ⟨pf,0,none⟩),.pointer (some ⟨w.heap.size,0,none⟩)]] w' (Comes w' (wantV 1 b f)):=fun w' hw =>
  one_num A B l c m d g (o+4) (len - 1) (cap - 1) op n s kv b f 207 hen1 #[.pointer (some ⟨pf,0,none⟩),.pointer (some ⟨w.heap.size,0,none⟩)] w' hb (hT1.later hw) (by omega)
   ((hw.cell (p:=⟨g,o+4,none⟩) gg).trans c0) ((hw.cell (p:=⟨g,o+4+1,none⟩) gg).trans c1) ((hw.cell (p:=⟨g,o+4+2,none⟩) gg).trans c2) ((hw.cell (p:=⟨g,o+4+3,none⟩) gg).trans c3)
   (fun w2 hw2=>HK.out w2 (below_to HB.out (below_to hw hw2)))
   (fun hk w2 hw2=>two2_tn pf w.heap.size F hen caps a b f w2 (((below_to hw hw2).cell (p:=⟨pf,0,none⟩) gf).trans f0) (((below_to hw hw2).cell (p:=⟨w.heap.size,0,none⟩) gv).trans v0) (HF.out hk w2 (below_to HB.out (below_to hw hw2))))
 clear c0 c1 c2 c3 hT hgl hkl hsl hfl hb1 hs1 hT1 cK cF hen1
 go_enter func206,ntmps206
 go_wp2_with fail
 refine wp_region_held_drew (S:=fun w'=>Below w1.heap.size w1 w') (by kernel_rfl) ((Below.refl _ _).drew) (fun hHeld=>?_)
 refine held_take (i:=0) (v:=?_) rfl (by kernel_rfl) (by kernel_rfl) (by kernel_rfl) (fun _ _ _ h=>h) (by rfl) hHeld ?_ ?_
 rotate_left
 ·intro wz hSz;have q0:=(hSz.cell (p:=⟨pk,0,none⟩) gk).trans k0;have q1:=(hSz.cell (p:=⟨pk,1,none⟩) gk).trans k1;go_simp;try with_reducible rfl
 simp only[Act.put,List.setIfInBounds_toArray,List.set_cons_zero,List.set_cons_succ]
 refine held_take (i:=1) (v:=?_) rfl (by kernel_rfl) (by kernel_rfl) (by kernel_rfl) (fun _ _ _ h=>h) (by rfl) hHeld ?_ ?_
 rotate_left
 ·intro wz hSz;have q0:=(hSz.cell (p:=⟨ps,0,none⟩) gs).trans s0;go_simp;try with_reducible rfl
 simp only[Act.put,List.setIfInBounds_toArray,List.set_cons_zero,List.set_cons_succ]
 refine held_take (i:=2) (v:=?_) rfl (by kernel_rfl) (by kernel_rfl) (by kernel_rfl) (fun _ _ _ h=>h) (by rfl) hHeld ?_ ?_
 rotate_left
 ·intro wz hSz;go_simp;try with_reducible rfl
 simp only[Act.put,List.setIfInBounds_toArray,List.set_cons_zero,List.set_cons_succ]
 refine held_take (i:=3) (v:=?_) rfl (by kernel_rfl) (by kernel_rfl) (by kernel_rfl) (fun _ _ _ h=>h) (by rfl) hHeld ?_ ?_
 rotate_left
 ·intro wz hSz;go_simp;try with_reducible rfl
 simp only[Act.put,List.setIfInBounds_toArray,List.set_cons_zero,List.set_cons_succ]
 refine held_call (i:=4) (by kernel_rfl) rfl (by rfl) (by go_simp;try with_reducible rfl) (cO _ hHeld) ?_
 rintro e wy ⟨rfl,hy⟩
 refine⟨_,rfl,below_to hHeld hy,?_⟩
 replace hHeld:=below_to hHeld hy
 simp only[Act.put,List.setIfInBounds_toArray,List.set_cons_zero,List.set_cons_succ]
 refine held_take (i:=5) (v:=?_) rfl (by kernel_rfl) (by kernel_rfl) (by kernel_rfl) (fun _ _ _ h=>h) (by rfl) hHeld ?_ ?_
 rotate_left
 ·intro wz hSz;go_simp;try with_reducible rfl
 simp only[Act.put,List.setIfInBounds_toArray,List.set_cons_zero,List.set_cons_succ]
 refine wpAnyH_done (by kernel_rfl) ?_ _
 have HB2:=hid (below_to HB.out hHeld)
 go_wp2_with fail
 go_ret
 exact⟨rfl,HB2.out⟩
theorem two_tn (A B:Option Addr) (l c m d:Nat) (g o len cap:Nat) (op n op2 n2:Int) (s s2:ByteArray) (kv kv2:Value) (a b f:Va) (F:FuncId) (hen:∀ xs w,(callFunc F xs).run prog w=.ok (.enter F xs) w) (caps:Array Value) (w:World) (ha:a.ok) (hb:b.ok) (hT:Tabs w) (hlen:1<len) (hcap:len≤cap)
  (e0:w.cell? ⟨g,o,none⟩=some (.int .i64 op)) (e1:w.cell? ⟨g,o+1,none⟩=some (.int .i64 n)) (e2:w.cell? ⟨g,o+2,none⟩=some (.string s)) (e3:w.cell? ⟨g,o+3,none⟩=some kv)
  (c0:w.cell? ⟨g,o+4,none⟩=some (.int .i64 op2)) (c1:w.cell? ⟨g,o+4+1,none⟩=some (.int .i64 n2)) (c2:w.cell? ⟨g,o+4+2,none⟩=some (.string s2)) (c3:w.cell? ⟨g,o+4+3,none⟩=some kv2)
  (cJ:∀ w',Below w.heap.size w w'→Calls prog 49 #[KE A l c B m d,.agg #[.int .i64 op,.int .i64 n,.string s,kv]] w' (Comes w' a))
  (cK:∀ w',Below w.heap.size w w'→Calls prog 49 #[KE A l c B m d,.agg #[.int .i64 op2,.int .i64 n2,.string s2,kv2]] w' (Comes w' b))
  (cF:a.k=3→b.k=1→∀ w',Below w.heap.size w w'→Calls prog F (#[.string ⟨a.s.toArray⟩,.int .i64 b.n]++caps) w' (Comes w' f)) :
  Calls prog 121 #[KE A l c B m d,.slice (some ⟨g,o,none⟩) len cap,.func (.func F) #[] caps] w (Comes w (wantV 3 a (wantV 1 b f))):=by
 have hmf:=mkfunc
 have hen1:∀ xs w,(callFunc 206 xs).run prog w=.ok (.enter 206 xs) w:=fun _ _=>by kernel_rfl
 have hgl:g<w.heap.size:=World.block_lt_of_cell? w ⟨g,o,none⟩ e0
 have hb1:=below_alloc w (.cells #[.slice A l c,.slice B m d] 87)
 have hs1:=alloc_size w (.cells #[.slice A l c,.slice B m d] 87)
 have k0:(w.alloc (.cells #[.slice A l c,.slice B m d] 87)).cell? ⟨w.heap.size,0,none⟩=some (.slice A l c):=by rw[cells_of_alloc];rfl
 have k1:(w.alloc (.cells #[.slice A l c,.slice B m d] 87)).cell? ⟨w.heap.size,1,none⟩=some (.slice B m d):=by rw[cells_of_alloc];rfl
 obtain⟨w1,hw1⟩:∃ w1,w.alloc (.cells #[.slice A l c,.slice B m d] 87)=w1:=⟨_,rfl⟩
 rw[hw1] at hb1 hs1 k0 k1
 have hb2:=below_alloc w1 (.cells #[.slice (some ⟨g,o,none⟩) len cap] 22)
 have hs2:=alloc_size w1 (.cells #[.slice (some ⟨g,o,none⟩) len cap] 22)
 have s0:(w1.alloc (.cells #[.slice (some ⟨g,o,none⟩) len cap] 22)).cell? ⟨w1.heap.size,0,none⟩=some (.slice (some ⟨g,o,none⟩) len cap):=by rw[cells_of_alloc];rfl
 obtain⟨w2,hw2⟩:∃ w2,w1.alloc (.cells #[.slice (some ⟨g,o,none⟩) len cap] 22)=w2:=⟨_,rfl⟩
 rw[hw2] at hb2 hs2 s0
 have hb3:=below_alloc w2 (.cells #[.func (.func F) #[] caps] 179)
 have hs3:=alloc_size w2 (.cells #[.func (.func F) #[] caps] 179)
 have f0:(w2.alloc (.cells #[.func (.func F) #[] caps] 179)).cell? ⟨w2.heap.size,0,none⟩=some (.func (.func F) #[] caps):=by rw[cells_of_alloc];rfl
 obtain⟨w3,hw3⟩:∃ w3,w2.alloc (.cells #[.func (.func F) #[] caps] 179)=w3:=⟨_,rfl⟩
 rw[hw3] at hb3 hs3 f0
 have hB:=below_to (below_to hb1 hb2) hb3
 have HB:=hid hB
 have k0:=((below_to hb2 hb3).cell (p:=⟨w.heap.size,0,none⟩) (show w.heap.size<w1.heap.size by omega)).trans k0
 have k1:=((below_to hb2 hb3).cell (p:=⟨w.heap.size,1,none⟩) (show w.heap.size<w1.heap.size by omega)).trans k1
 have s0:=(hb3.cell (p:=⟨w1.heap.size,0,none⟩) (show w1.heap.size<w2.heap.size by omega)).trans s0
 have HT:=hid (hT.later hB)
 have HJ:=hid cJ
 have HK:=hid cK
 have HF:=hid cF
 have g0:w.heap.size<w3.heap.size:=by omega
 have g1:w1.heap.size<w3.heap.size:=by omega
 have g2:w2.heap.size<w3.heap.size:=by omega
 have gg:g<w3.heap.size:=by omega
 have e0:=(hB.cell (p:=⟨g,o,none⟩) hgl).trans e0
 have e1:=(hB.cell (p:=⟨g,o+1,none⟩) hgl).trans e1
 have e2:=(hB.cell (p:=⟨g,o+2,none⟩) hgl).trans e2
 have e3:=(hB.cell (p:=⟨g,o+3,none⟩) hgl).trans e3
 have c0:=(hB.cell (p:=⟨g,o+4,none⟩) hgl).trans c0
 have c1:=(hB.cell (p:=⟨g,o+4+1,none⟩) hgl).trans c1
 have c2:=(hB.cell (p:=⟨g,o+4+2,none⟩) hgl).trans c2
 have c3:=(hB.cell (p:=⟨g,o+4+3,none⟩) hgl).trans c3
 have cO:Calls prog 115 #[KE A l c B m d,.slice (some ⟨g,o,none⟩) len cap,.func (.func 206) #[] #[.pointer (some ⟨w.heap.size,0,none⟩),.pointer (some ⟨w1.heap.size,0,none⟩),.pointer (some ⟨w2.heap.size,0,none⟩)]] w3 (Comes w3 (wantV 3 a (wantV 1 b f))) :=
  one_text A B l c m d g o len cap op n s kv a (wantV 1 b f) 206 hen1 _ w3 ha HT.out (by omega) e0 e1 e2 e3
   (fun w' hw=>HJ.out w' (below_to HB.out hw))
   (fun hk w' hw=>two1_tn A B l c m d w.heap.size w1.heap.size w2.heap.size g o len cap op2 n2 s2 kv2 a b f F hen caps w' hb (HT.out.later hw) hlen hcap
    ((hw.cell (p:=⟨w.heap.size,0,none⟩) g0).trans k0) ((hw.cell (p:=⟨w.heap.size,1,none⟩) g0).trans k1) ((hw.cell (p:=⟨w1.heap.size,0,none⟩) g1).trans s0) ((hw.cell (p:=⟨w2.heap.size,0,none⟩) g2).trans f0)
    ((hw.cell (p:=⟨g,o+4,none⟩) gg).trans c0) ((hw.cell (p:=⟨g,o+4+1,none⟩) gg).trans c1) ((hw.cell (p:=⟨g,o+4+2,none⟩) gg).trans c2) ((hw.cell (p:=⟨g,o+4+3,none⟩) gg).trans c3)
    (fun w4 hw4=>HK.out w4 (below_to HB.out (below_to hw hw4))) (fun hk2 w4 hw4=>HF.out hk hk2 w4 (below_to HB.out (below_to hw hw4))))
 clear c0 c1 c2 c3 e0 e1 e2 e3 hT hgl hb1 hb2 hb3 hs1 hs2 hs3 cJ cK cF hen1 hB
 go_enter func121,ntmps121
 go_wp2_with fail
 refine cO.mono ?_
 rintro e w5 ⟨rfl,b5⟩
 go_wp2_with fail
 go_ret
 exact⟨rfl,below_to HB.out b5⟩
end
end Go.Proofs.YtbbblmedoagncaaGreatDoor
