/- EvQ, EvY -/
import Derived.Test.YtbbblmedoagncaaGreatDoorSHA
import Derived.Test.YtbbblmedoagncaaGreatDoorSGW
import Derived.Test.YtbbblmedoagncaaGreatDoorSGI
import Derived.Test.YtbbblmedoagncaaGreatDoorSGC
import Derived.Test.YtbbblmedoagncaaGreatDoorSGE
import Derived.Test.YtbbblmedoagncaaGreatDoorSGB
import Derived.Deep.LoopGhost
import Derived.WalkMore
namespace Go.Proofs.YtbbblmedoagncaaGreatDoor
section
open Lib (hid)
open _root_.Go.Proofs.Tryz
set_option maxHeartbeats 4000000
set_option maxRecDepth 100000
open Go.RowKit
def bxV (a:Va):Value:=if a.k=1 then .iface 2 (.int .i64 a.n) else if a.k=2 then .iface 4 (.bool (a.n == 1)) else if a.k=3 then .iface 9 (.string ⟨a.s.toArray⟩) else if a.k=4 then .iface 39 (V3 4 a.n ⟨#[]⟩) else .nilIface
theorem bx_1 {a:Va} (h:a.k=1):bxV a=.iface 2 (.int .i64 a.n):=by unfold bxV;rw[if_pos h]
theorem bx_2 {a:Va} (h:a.k=2):bxV a=.iface 4 (.bool (a.n == 1)):=by unfold bxV;rw[if_neg (by omega),if_pos h]
theorem bx_3 {a:Va} (h:a.k=3):bxV a=.iface 9 (.string ⟨a.s.toArray⟩):=by unfold bxV;rw[if_neg (by omega),if_neg (by omega),if_pos h]
theorem bx_4 {a:Va} (h:a.k=4):bxV a=.iface 39 (V3 4 a.n ⟨#[]⟩):=by unfold bxV;rw[if_neg (by omega),if_neg (by omega),if_neg (by omega),if_pos h]
theorem bx_0 {a:Va} (h:a.ok) (h1:a.k≠1) (h2:a.k≠2) (h3:a.k≠3) (h4:a.k≠4):bxV a=.nilIface∧a.k=0:=by
 refine⟨by unfold bxV;rw[if_neg h1,if_neg h2,if_neg h3,if_neg h4],?_⟩
 rcases check_kind h.1 with h | h | h | h | h
 ·exact h.1
 ·exact absurd h.1 h1
 ·exact absurd h.1 h2
 ·exact absurd h.1 h3
 ·exact absurd h.1 h4
theorem bx_cases {a:Va} (h:a.ok):(a.k=1∧bxV a=.iface 2 (.int .i64 a.n))∨(a.k=2∧bxV a=.iface 4 (.bool (a.n == 1)))∨(a.k=3∧bxV a=.iface 9 (.string ⟨a.s.toArray⟩))∨(a.k=4∧bxV a=.iface 39 (V3 4 a.n ⟨#[]⟩))∨(a.k=0∧bxV a=.nilIface):=by
 by_cases h1:a.k=1
 ·exact .inl ⟨h1,bx_1 h1⟩
 by_cases h2:a.k=2
 ·exact .inr (.inl ⟨h2,bx_2 h2⟩)
 by_cases h3:a.k=3
 ·exact .inr (.inr (.inl ⟨h3,bx_3 h3⟩))
 by_cases h4:a.k=4
 ·exact .inr (.inr (.inr (.inl ⟨h4,bx_4 h4⟩)))
 ·exact .inr (.inr (.inr (.inr ⟨(bx_0 h h1 h2 h3 h4).2,(bx_0 h h1 h2 h3 h4).1⟩)))
theorem bad_any (n:Int) (h1:1≤n) (h2:n≤4) (w:World) (hT:Tabs w) :
  Calls prog 192 #[.int .i64 n] w fun e w'=>e=.returned (bxV (badV n))∧Below w.heap.size w w':=by
 have c:=fun w hT=>box_any 4 n ⟨#[]⟩ w (by decide) hT
 have e:boxV 4 n ⟨#[]⟩=bxV (badV n):=by
  unfold boxV
  rw[if_pos (show checkB 4 n (⟨#[]⟩:ByteArray).data.toList=true by simp[checkB,h1,h2])]
  rfl
 rw[e] at c
 have c2:=c w hT
 generalize bxV (badV n)=X at *
 clear c e
 go_enter func192,ntmps192
 go_wp2_with fail
 refine c2.mono ?_
 rintro e w1 ⟨rfl,b1⟩
 go_wp2_with fail
 go_ret
 exact⟨rfl,b1⟩
theorem wrong_any (a:Va) (ha:a.ok) (w:World) (hT:Tabs w) :
  Calls prog 191 #[bxV a] w fun e w'=>e=.returned (bxV (wrongV a))∧Below w.heap.size w w':=by
 have hb1:=below_alloc w (.cells #[.int .i64 0,.int .i64 0,.string ⟨#[]⟩] 39)
 have cB:=bad_any 3 (by decide) (by decide) (w.alloc (.cells #[.int .i64 0,.int .i64 0,.string ⟨#[]⟩] 39)) (hT.later hb1)
 by_cases h4:a.k=4
 ·have e1:=bx_4 h4
  have e2:wrongV a=a:=by unfold wrongV;rw[if_pos h4]
  rw[e2,e1]
  have h1:=fun w=>asV_yes w (V3 4 a.n ⟨#[]⟩)
  generalize a.n=n at *
  clear e1 e2 cB
  go_enter func191,ntmps191
  go_wp2_with fail
  exact bodyPost_ret (v:=.iface 39 (V3 4 n ⟨#[]⟩)) (by simp[results,results191,go_sem]) rfl ⟨rfl,below_alloc w _⟩
 ·have e2:wrongV a=badV 3:=by unfold wrongV;rw[if_neg h4]
  rw[e2]
  generalize bxV (badV 3)=X at *
  rcases bx_cases ha with ⟨h,e⟩ | ⟨h,e⟩ | ⟨h,e⟩ | ⟨h,-⟩ | ⟨h,e⟩
  ·rw[e]
   have h1:=fun w=>asV_no w 2 (.int .i64 a.n) (by decide)
   generalize a.n=Z at *
   clear e e2 h4 h ha
   go_enter func191,ntmps191
   go_wp2_with fail
   refine cB.mono ?_
   rintro e w1 ⟨rfl,b1⟩
   go_wp2_with fail
   go_ret
   exact⟨rfl,below_to hb1 b1⟩
  ·rw[e]
   have h1:=fun w=>asV_no w 4 (.bool (a.n == 1)) (by decide)
   generalize (a.n == 1)=Z at *
   clear e e2 h4 h ha
   go_enter func191,ntmps191
   go_wp2_with fail
   refine cB.mono ?_
   rintro e w1 ⟨rfl,b1⟩
   go_wp2_with fail
   go_ret
   exact⟨rfl,below_to hb1 b1⟩
  ·rw[e]
   have h1:=fun w=>asV_no w 9 (.string ⟨a.s.toArray⟩) (by decide)
   generalize (⟨a.s.toArray⟩:ByteArray)=Z at *
   clear e e2 h4 h ha
   go_enter func191,ntmps191
   go_wp2_with fail
   refine cB.mono ?_
   rintro e w1 ⟨rfl,b1⟩
   go_wp2_with fail
   go_ret
   exact⟨rfl,below_to hb1 b1⟩
  ·exact absurd h h4
  ·rw[e]
   have h1:=asV_nil
   clear e e2 h4 h ha
   go_enter func191,ntmps191
   go_wp2_with fail
   refine cB.mono ?_
   rintro e w1 ⟨rfl,b1⟩
   go_wp2_with fail
   go_ret
   exact⟨rfl,below_to hb1 b1⟩
theorem has_any (a:Va) (ha:a.ok) (w:World) :
  Calls prog 104 #[bxV a] w fun e w'=>e=.returned (.bool (hasV a))∧w'=w:=by
 rcases bx_cases ha with ⟨h,e⟩ | ⟨h,e⟩ | ⟨h,e⟩ | ⟨h,e⟩ | ⟨h,e⟩
 ·rw[e,show hasV a=true by unfold hasV;rw[h];decide]
  generalize a.n=Z at *
  have h0:=fun w=>not_nil w 2 (.int .i64 Z)
  have h1:=fun w=>asV_no w 2 (.int .i64 Z) (by decide)
  clear e h ha
  go_enter func104,ntmps104
  go_wp2_with fail
  go_ret
  exact⟨rfl,rfl⟩
 ·rw[e,show hasV a=true by unfold hasV;rw[h];decide]
  generalize (a.n == 1)=Z at *
  have h0:=fun w=>not_nil w 4 (.bool Z)
  have h1:=fun w=>asV_no w 4 (.bool Z) (by decide)
  clear e h ha
  go_enter func104,ntmps104
  go_wp2_with fail
  go_ret
  exact⟨rfl,rfl⟩
 ·rw[e,show hasV a=true by unfold hasV;rw[h];decide]
  generalize (⟨a.s.toArray⟩:ByteArray)=Z at *
  have h0:=fun w=>not_nil w 9 (.string Z)
  have h1:=fun w=>asV_no w 9 (.string Z) (by decide)
  clear e h ha
  go_enter func104,ntmps104
  go_wp2_with fail
  go_ret
  exact⟨rfl,rfl⟩
 ·rw[e,show hasV a=false by unfold hasV;rw[h];decide]
  generalize a.n=Z at *
  have h0:=fun w=>not_nil w 39 (V3 4 Z ⟨#[]⟩)
  have h1:=fun w=>asV_yes w (V3 4 Z ⟨#[]⟩)
  clear e h ha
  go_enter func104,ntmps104
  go_wp2_with fail
  go_ret
  exact⟨rfl,rfl⟩
 ·rw[e,show hasV a=false by unfold hasV;rw[h];decide]
  have h0:=is_nil
  have h1:=asV_nil
  clear e h ha
  go_enter func104,ntmps104
  go_wp2_with fail
  go_ret
  exact⟨rfl,rfl⟩
abbrev KE (A:Option Addr) (l c:Nat) (B:Option Addr) (m d:Nat):Value:=.agg #[.slice A l c,.slice B m d]
def Comes (w:World) (a:Va) (e:Ending) (w':World):Prop:=e=.returned (bxV a)∧Below w.heap.size w w'
theorem one_num (A B:Option Addr) (l c m d:Nat) (g o len cap:Nat) (op n:Int) (s:ByteArray) (kv:Value) (a f:Va) (F:FuncId) (hen:∀ xs w,(callFunc F xs).run prog w=.ok (.enter F xs) w) (caps:Array Value) (w:World) (ha:a.ok) (hT:Tabs w) (hlen:0<len)
  (c0:w.cell? ⟨g,o,none⟩=some (.int .i64 op)) (c1:w.cell? ⟨g,o+1,none⟩=some (.int .i64 n)) (c2:w.cell? ⟨g,o+2,none⟩=some (.string s)) (c3:w.cell? ⟨g,o+3,none⟩=some kv)
  (cK:∀ w',Below w.heap.size w w'→Calls prog 49 #[KE A l c B m d,.agg #[.int .i64 op,.int .i64 n,.string s,kv]] w' (Comes w' a))
  (cF:a.k=1→∀ w',Below w.heap.size w w'→Calls prog F (#[.int .i64 a.n]++caps) w' (Comes w' f)) :
  Calls prog 105 #[KE A l c B m d,.slice (some ⟨g,o,none⟩) len cap,.func (.func F) #[] caps] w (Comes w (wantV 1 a f)):=by
 have hlz:(0:Int)<(len:Int):=by omega
 have hgl:g<w.heap.size:=World.block_lt_of_cell? w ⟨g,o,none⟩ c0
 have hb1:=below_alloc w (.cells #[.slice A l c,.slice B m d] 87)
 have hs1:=alloc_size w (.cells #[.slice A l c,.slice B m d] 87)
 have k0:(w.alloc (.cells #[.slice A l c,.slice B m d] 87)).cell? ⟨w.heap.size,0,none⟩=some (.slice A l c):=by rw[cells_of_alloc];rfl
 have k1:(w.alloc (.cells #[.slice A l c,.slice B m d] 87)).cell? ⟨w.heap.size,1,none⟩=some (.slice B m d):=by rw[cells_of_alloc];rfl
 have d0:=(hb1.cell (p:=⟨g,o,none⟩) hgl).trans c0
 have d1:=(hb1.cell (p:=⟨g,o+1,none⟩) hgl).trans c1
 have d2:=(hb1.cell (p:=⟨g,o+2,none⟩) hgl).trans c2
 have d3:=(hb1.cell (p:=⟨g,o+3,none⟩) hgl).trans c3
 have hT1:=hT.later hb1
 obtain⟨w1,hw1⟩:∃ w1,w.alloc (.cells #[.slice A l c,.slice B m d] 87)=w1:=⟨_,rfl⟩
 rw[hw1] at hb1 hs1 k0 k1 d0 d1 d2 d3 hT1
 have hg1:g<w1.heap.size:=by omega
 have hx1:w.heap.size<w1.heap.size:=by omega
 have HB:=hid hb1
 have HT:=hid hT1
 clear c0 c1 c2 c3 hT hgl hb1 hs1
 go_enter func105,ntmps105
 go_wp2_with fail
 refine wp_region_held_drew (S:=fun w'=>Below w1.heap.size w1 w') (by kernel_rfl) ((Below.refl _ _).drew) (fun hHeld=>?_)
 refine held_take (i:=0) (v:=?_) rfl (by kernel_rfl) (by kernel_rfl) (by kernel_rfl) (fun _ _ _ h=>h) (by rfl) hHeld ?_ ?_
 rotate_left
 ·intro wz hSz;have q0:=(hSz.cell (p:=⟨w.heap.size,0,none⟩) hx1).trans k0;have q1:=(hSz.cell (p:=⟨w.heap.size,1,none⟩) hx1).trans k1;go_simp;try with_reducible rfl
 simp only[Act.put,List.setIfInBounds_toArray,List.set_cons_zero,List.set_cons_succ]
 refine held_take (i:=1) (v:=?_) rfl (by kernel_rfl) (by kernel_rfl) (by kernel_rfl) (fun _ _ _ h=>h) (by rfl) hHeld ?_ ?_
 rotate_left
 ·intro wz hSz;go_simp;try with_reducible rfl
 simp only[Act.put,List.setIfInBounds_toArray,List.set_cons_zero,List.set_cons_succ]
 refine held_take (i:=2) (v:=?_) rfl (by kernel_rfl) (by kernel_rfl) (by kernel_rfl) (fun _ _ _ h=>h) (by rfl) hHeld ?_ ?_
 rotate_left
 ·intro wz hSz;go_simp;try with_reducible rfl
 simp only[Act.put,List.setIfInBounds_toArray,List.set_cons_zero,List.set_cons_succ]
 refine held_take (i:=3) (v:=?_) rfl (by kernel_rfl) (by kernel_rfl) (by kernel_rfl) (fun _ _ _ h=>h) (by rfl) hHeld ?_ ?_
 rotate_left
 ·intro wz hSz;have q0:=(hSz.cell (p:=⟨g,o,none⟩) hg1).trans d0;have q1:=(hSz.cell (p:=⟨g,o+1,none⟩) hg1).trans d1;have q2:=(hSz.cell (p:=⟨g,o+2,none⟩) hg1).trans d2;have q3:=(hSz.cell (p:=⟨g,o+3,none⟩) hg1).trans d3;go_simp;try with_reducible rfl
 simp only[Act.put,List.setIfInBounds_toArray,List.set_cons_zero,List.set_cons_succ]
 refine held_call (i:=4) (by kernel_rfl) rfl (by rfl) (by go_simp;try with_reducible rfl) (cK _ (below_to HB.out hHeld)) ?_
 rintro e wy ⟨rfl,hy⟩
 refine⟨_,rfl,below_to hHeld hy,?_⟩
 replace hHeld:=below_to hHeld hy
 simp only[Act.put,List.setIfInBounds_toArray,List.set_cons_zero,List.set_cons_succ]
 refine held_take (i:=5) (v:=?_) rfl (by kernel_rfl) (by kernel_rfl) (by kernel_rfl) (fun _ _ _ h=>h) (by rfl) hHeld ?_ ?_
 rotate_left
 ·intro wz hSz;go_simp;try with_reducible rfl
 simp only[Act.put,List.setIfInBounds_toArray,List.set_cons_zero,List.set_cons_succ]
 refine wpAnyH_done (by kernel_rfl) ?_ _
 have hB2:=below_to HB.out hHeld
 have HB2:=hid hB2
 have hT2:=HT.out.later hHeld
 have cW:=wrong_any a ha wy hT2
 clear k0 k1 d0 d1 d2 d3 hHeld hy hg1 hx1 hB2 cK hw1
 by_cases hk:a.k=1
 ·have HW:=hid (show wantV 1 a f=f by unfold wantV;rw[if_pos hk])
  have c5:=cF hk wy HB2.out
  have hbx:=bx_1 hk
  generalize bxV a=X at *
  subst hbx
  have h1:=fun w=>asN_yes w (.int .i64 a.n)
  clear cF cW hk
  go_wp2_with fail
  refine c5.mono ?_
  rintro e w3 ⟨rfl,b3⟩
  go_wp2_with fail
  go_ret
  exact⟨by rw[HW.out];rfl,below_to HB2.out b3⟩
 ·have HW:=hid (show wantV 1 a f=wrongV a by unfold wantV;rw[if_neg hk])
  have h1:∀ w,(Instr.typeAssert (bxV a) 20 2 true).run prog w=.ok (.tuple #[.int .i64 0,.bool false]) w:=fun w=>by
   rcases bx_cases ha with ⟨h,e⟩ | ⟨h,e⟩ | ⟨h,e⟩ | ⟨h,e⟩ | ⟨h,e⟩
   all_goals
    rw[e]
    first
     | exact asN_nil w
     | exact asN_no w _ _ (by decide)
     | exact absurd h hk
  generalize bxV a=X at *
  clear cF hk
  go_wp2_with fail
  refine cW.mono ?_
  rintro e w3 ⟨rfl,b3⟩
  go_wp2_with fail
  go_ret
  exact⟨by rw[HW.out];rfl,below_to HB2.out b3⟩
theorem one_bool (A B:Option Addr) (l c m d:Nat) (g o len cap:Nat) (op n:Int) (s:ByteArray) (kv:Value) (a f:Va) (F:FuncId) (hen:∀ xs w,(callFunc F xs).run prog w=.ok (.enter F xs) w) (caps:Array Value) (w:World) (ha:a.ok) (hT:Tabs w) (hlen:0<len)
  (c0:w.cell? ⟨g,o,none⟩=some (.int .i64 op)) (c1:w.cell? ⟨g,o+1,none⟩=some (.int .i64 n)) (c2:w.cell? ⟨g,o+2,none⟩=some (.string s)) (c3:w.cell? ⟨g,o+3,none⟩=some kv)
  (cK:∀ w',Below w.heap.size w w'→Calls prog 49 #[KE A l c B m d,.agg #[.int .i64 op,.int .i64 n,.string s,kv]] w' (Comes w' a))
  (cF:a.k=2→∀ w',Below w.heap.size w w'→Calls prog F (#[.bool (a.n == 1)]++caps) w' (Comes w' f)) :
  Calls prog 110 #[KE A l c B m d,.slice (some ⟨g,o,none⟩) len cap,.func (.func F) #[] caps] w (Comes w (wantV 2 a f)):=by
 have hlz:(0:Int)<(len:Int):=by omega
 have hgl:g<w.heap.size:=World.block_lt_of_cell? w ⟨g,o,none⟩ c0
 have hb1:=below_alloc w (.cells #[.slice A l c,.slice B m d] 87)
 have hs1:=alloc_size w (.cells #[.slice A l c,.slice B m d] 87)
 have k0:(w.alloc (.cells #[.slice A l c,.slice B m d] 87)).cell? ⟨w.heap.size,0,none⟩=some (.slice A l c):=by rw[cells_of_alloc];rfl
 have k1:(w.alloc (.cells #[.slice A l c,.slice B m d] 87)).cell? ⟨w.heap.size,1,none⟩=some (.slice B m d):=by rw[cells_of_alloc];rfl
 have d0:=(hb1.cell (p:=⟨g,o,none⟩) hgl).trans c0
 have d1:=(hb1.cell (p:=⟨g,o+1,none⟩) hgl).trans c1
 have d2:=(hb1.cell (p:=⟨g,o+2,none⟩) hgl).trans c2
 have d3:=(hb1.cell (p:=⟨g,o+3,none⟩) hgl).trans c3
 have hT1:=hT.later hb1
 obtain⟨w1,hw1⟩:∃ w1,w.alloc (.cells #[.slice A l c,.slice B m d] 87)=w1:=⟨_,rfl⟩
 rw[hw1] at hb1 hs1 k0 k1 d0 d1 d2 d3 hT1
 have hg1:g<w1.heap.size:=by omega
 have hx1:w.heap.size<w1.heap.size:=by omega
 have HB:=hid hb1
 have HT:=hid hT1
 clear c0 c1 c2 c3 hT hgl hb1 hs1
 go_enter func110,ntmps110
 go_wp2_with fail
 refine wp_region_held_drew (S:=fun w'=>Below w1.heap.size w1 w') (by kernel_rfl) ((Below.refl _ _).drew) (fun hHeld=>?_)
 refine held_take (i:=0) (v:=?_) rfl (by kernel_rfl) (by kernel_rfl) (by kernel_rfl) (fun _ _ _ h=>h) (by rfl) hHeld ?_ ?_
 rotate_left
 ·intro wz hSz;have q0:=(hSz.cell (p:=⟨w.heap.size,0,none⟩) hx1).trans k0;have q1:=(hSz.cell (p:=⟨w.heap.size,1,none⟩) hx1).trans k1;go_simp;try with_reducible rfl
 simp only[Act.put,List.setIfInBounds_toArray,List.set_cons_zero,List.set_cons_succ]
 refine held_take (i:=1) (v:=?_) rfl (by kernel_rfl) (by kernel_rfl) (by kernel_rfl) (fun _ _ _ h=>h) (by rfl) hHeld ?_ ?_
 rotate_left
 ·intro wz hSz;go_simp;try with_reducible rfl
 simp only[Act.put,List.setIfInBounds_toArray,List.set_cons_zero,List.set_cons_succ]
 refine held_take (i:=2) (v:=?_) rfl (by kernel_rfl) (by kernel_rfl) (by kernel_rfl) (fun _ _ _ h=>h) (by rfl) hHeld ?_ ?_
 rotate_left
 ·intro wz hSz;go_simp;try with_reducible rfl
 simp only[Act.put,List.setIfInBounds_toArray,List.set_cons_zero,List.set_cons_succ]
 refine held_take (i:=3) (v:=?_) rfl (by kernel_rfl) (by kernel_rfl) (by kernel_rfl) (fun _ _ _ h=>h) (by rfl) hHeld ?_ ?_
 rotate_left
 ·intro wz hSz;have q0:=(hSz.cell (p:=⟨g,o,none⟩) hg1).trans d0;have q1:=(hSz.cell (p:=⟨g,o+1,none⟩) hg1).trans d1;have q2:=(hSz.cell (p:=⟨g,o+2,none⟩) hg1).trans d2;have q3:=(hSz.cell (p:=⟨g,o+3,none⟩) hg1).trans d3;go_simp;try with_reducible rfl
 simp only[Act.put,List.setIfInBounds_toArray,List.set_cons_zero,List.set_cons_succ]
 refine held_call (i:=4) (by kernel_rfl) rfl (by rfl) (by go_simp;try with_reducible rfl) (cK _ (below_to HB.out hHeld)) ?_
 rintro e wy ⟨rfl,hy⟩
 refine⟨_,rfl,below_to hHeld hy,?_⟩
 replace hHeld:=below_to hHeld hy
 simp only[Act.put,List.setIfInBounds_toArray,List.set_cons_zero,List.set_cons_succ]
 refine held_take (i:=5) (v:=?_) rfl (by kernel_rfl) (by kernel_rfl) (by kernel_rfl) (fun _ _ _ h=>h) (by rfl) hHeld ?_ ?_
 rotate_left
 ·intro wz hSz;go_simp;try with_reducible rfl
 simp only[Act.put,List.setIfInBounds_toArray,List.set_cons_zero,List.set_cons_succ]
 refine wpAnyH_done (by kernel_rfl) ?_ _
 have hB2:=below_to HB.out hHeld
 have HB2:=hid hB2
 have hT2:=HT.out.later hHeld
 have cW:=wrong_any a ha wy hT2
 clear k0 k1 d0 d1 d2 d3 hHeld hy hg1 hx1 hB2 cK hw1
 by_cases hk:a.k=2
 ·have HW:=hid (show wantV 2 a f=f by unfold wantV;rw[if_pos hk])
  have c5:=cF hk wy HB2.out
  have hbx:=bx_2 hk
  generalize bxV a=X at *
  subst hbx
  have h1:=fun w=>asB_yes w (.bool (a.n == 1))
  clear cF cW hk
  go_wp2_with fail
  refine c5.mono ?_
  rintro e w3 ⟨rfl,b3⟩
  go_wp2_with fail
  go_ret
  exact⟨by rw[HW.out];rfl,below_to HB2.out b3⟩
 ·have HW:=hid (show wantV 2 a f=wrongV a by unfold wantV;rw[if_neg hk])
  have h1:∀ w,(Instr.typeAssert (bxV a) 20 4 true).run prog w=.ok (.tuple #[.bool false,.bool false]) w:=fun w=>by
   rcases bx_cases ha with ⟨h,e⟩ | ⟨h,e⟩ | ⟨h,e⟩ | ⟨h,e⟩ | ⟨h,e⟩
   all_goals
    rw[e]
    first
     | exact asB_nil w
     | exact asB_no w _ _ (by decide)
     | exact absurd h hk
  generalize bxV a=X at *
  clear cF hk
  go_wp2_with fail
  refine cW.mono ?_
  rintro e w3 ⟨rfl,b3⟩
  go_wp2_with fail
  go_ret
  exact⟨by rw[HW.out];rfl,below_to HB2.out b3⟩
theorem one_text (A B:Option Addr) (l c m d:Nat) (g o len cap:Nat) (op n:Int) (s:ByteArray) (kv:Value) (a f:Va) (F:FuncId) (hen:∀ xs w,(callFunc F xs).run prog w=.ok (.enter F xs) w) (caps:Array Value) (w:World) (ha:a.ok) (hT:Tabs w) (hlen:0<len)
  (c0:w.cell? ⟨g,o,none⟩=some (.int .i64 op)) (c1:w.cell? ⟨g,o+1,none⟩=some (.int .i64 n)) (c2:w.cell? ⟨g,o+2,none⟩=some (.string s)) (c3:w.cell? ⟨g,o+3,none⟩=some kv)
  (cK:∀ w',Below w.heap.size w w'→Calls prog 49 #[KE A l c B m d,.agg #[.int .i64 op,.int .i64 n,.string s,kv]] w' (Comes w' a))
  (cF:a.k=3→∀ w',Below w.heap.size w w'→Calls prog F (#[.string ⟨a.s.toArray⟩]++caps) w' (Comes w' f)) :
  Calls prog 115 #[KE A l c B m d,.slice (some ⟨g,o,none⟩) len cap,.func (.func F) #[] caps] w (Comes w (wantV 3 a f)):=by
 have hlz:(0:Int)<(len:Int):=by omega
 have hgl:g<w.heap.size:=World.block_lt_of_cell? w ⟨g,o,none⟩ c0
 have hb1:=below_alloc w (.cells #[.slice A l c,.slice B m d] 87)
 have hs1:=alloc_size w (.cells #[.slice A l c,.slice B m d] 87)
 have k0:(w.alloc (.cells #[.slice A l c,.slice B m d] 87)).cell? ⟨w.heap.size,0,none⟩=some (.slice A l c):=by rw[cells_of_alloc];rfl
 have k1:(w.alloc (.cells #[.slice A l c,.slice B m d] 87)).cell? ⟨w.heap.size,1,none⟩=some (.slice B m d):=by rw[cells_of_alloc];rfl
 have d0:=(hb1.cell (p:=⟨g,o,none⟩) hgl).trans c0
 have d1:=(hb1.cell (p:=⟨g,o+1,none⟩) hgl).trans c1
 have d2:=(hb1.cell (p:=⟨g,o+2,none⟩) hgl).trans c2
 have d3:=(hb1.cell (p:=⟨g,o+3,none⟩) hgl).trans c3
 have hT1:=hT.later hb1
 obtain⟨w1,hw1⟩:∃ w1,w.alloc (.cells #[.slice A l c,.slice B m d] 87)=w1:=⟨_,rfl⟩
 rw[hw1] at hb1 hs1 k0 k1 d0 d1 d2 d3 hT1
 have hg1:g<w1.heap.size:=by omega
 have hx1:w.heap.size<w1.heap.size:=by omega
 have HB:=hid hb1
 have HT:=hid hT1
 clear c0 c1 c2 c3 hT hgl hb1 hs1
 go_enter func115,ntmps115
 go_wp2_with fail
 refine wp_region_held_drew (S:=fun w'=>Below w1.heap.size w1 w') (by kernel_rfl) ((Below.refl _ _).drew) (fun hHeld=>?_)
 refine held_take (i:=0) (v:=?_) rfl (by kernel_rfl) (by kernel_rfl) (by kernel_rfl) (fun _ _ _ h=>h) (by rfl) hHeld ?_ ?_
 rotate_left
 ·intro wz hSz;have q0:=(hSz.cell (p:=⟨w.heap.size,0,none⟩) hx1).trans k0;have q1:=(hSz.cell (p:=⟨w.heap.size,1,none⟩) hx1).trans k1;go_simp;try with_reducible rfl
 simp only[Act.put,List.setIfInBounds_toArray,List.set_cons_zero,List.set_cons_succ]
 refine held_take (i:=1) (v:=?_) rfl (by kernel_rfl) (by kernel_rfl) (by kernel_rfl) (fun _ _ _ h=>h) (by rfl) hHeld ?_ ?_
 rotate_left
 ·intro wz hSz;go_simp;try with_reducible rfl
 simp only[Act.put,List.setIfInBounds_toArray,List.set_cons_zero,List.set_cons_succ]
 refine held_take (i:=2) (v:=?_) rfl (by kernel_rfl) (by kernel_rfl) (by kernel_rfl) (fun _ _ _ h=>h) (by rfl) hHeld ?_ ?_
 rotate_left
 ·intro wz hSz;go_simp;try with_reducible rfl
 simp only[Act.put,List.setIfInBounds_toArray,List.set_cons_zero,List.set_cons_succ]
 refine held_take (i:=3) (v:=?_) rfl (by kernel_rfl) (by kernel_rfl) (by kernel_rfl) (fun _ _ _ h=>h) (by rfl) hHeld ?_ ?_
 rotate_left
 ·intro wz hSz;have q0:=(hSz.cell (p:=⟨g,o,none⟩) hg1).trans d0;have q1:=(hSz.cell (p:=⟨g,o+1,none⟩) hg1).trans d1;have q2:=(hSz.cell (p:=⟨g,o+2,none⟩) hg1).trans d2;have q3:=(hSz.cell (p:=⟨g,o+3,none⟩) hg1).trans d3;go_simp;try with_reducible rfl
 simp only[Act.put,List.setIfInBounds_toArray,List.set_cons_zero,List.set_cons_succ]
 refine held_call (i:=4) (by kernel_rfl) rfl (by rfl) (by go_simp;try with_reducible rfl) (cK _ (below_to HB.out hHeld)) ?_
 rintro e wy ⟨rfl,hy⟩
 refine⟨_,rfl,below_to hHeld hy,?_⟩
 replace hHeld:=below_to hHeld hy
 simp only[Act.put,List.setIfInBounds_toArray,List.set_cons_zero,List.set_cons_succ]
 refine held_take (i:=5) (v:=?_) rfl (by kernel_rfl) (by kernel_rfl) (by kernel_rfl) (fun _ _ _ h=>h) (by rfl) hHeld ?_ ?_
 rotate_left
 ·intro wz hSz;go_simp;try with_reducible rfl
 simp only[Act.put,List.setIfInBounds_toArray,List.set_cons_zero,List.set_cons_succ]
 refine wpAnyH_done (by kernel_rfl) ?_ _
 have hB2:=below_to HB.out hHeld
 have HB2:=hid hB2
 have hT2:=HT.out.later hHeld
 have cW:=wrong_any a ha wy hT2
 clear k0 k1 d0 d1 d2 d3 hHeld hy hg1 hx1 hB2 cK hw1
 by_cases hk:a.k=3
 ·have HW:=hid (show wantV 3 a f=f by unfold wantV;rw[if_pos hk])
  have c5:=cF hk wy HB2.out
  have hbx:=bx_3 hk
  generalize bxV a=X at *
  subst hbx
  have h1:=fun w=>asS_yes w (.string ⟨a.s.toArray⟩)
  clear cF cW hk
  go_wp2_with fail
  refine c5.mono ?_
  rintro e w3 ⟨rfl,b3⟩
  go_wp2_with fail
  go_ret
  exact⟨by rw[HW.out];rfl,below_to HB2.out b3⟩
 ·have HW:=hid (show wantV 3 a f=wrongV a by unfold wantV;rw[if_neg hk])
  have h1:∀ w,(Instr.typeAssert (bxV a) 20 9 true).run prog w=.ok (.tuple #[.string ⟨#[]⟩,.bool false]) w:=fun w=>by
   rcases bx_cases ha with ⟨h,e⟩ | ⟨h,e⟩ | ⟨h,e⟩ | ⟨h,e⟩ | ⟨h,e⟩
   all_goals
    rw[e]
    first
     | exact asS_nil w
     | exact asS_no w _ _ (by decide)
     | exact absurd h hk
  generalize bxV a=X at *
  clear cF hk
  go_wp2_with fail
  refine cW.mono ?_
  rintro e w3 ⟨rfl,b3⟩
  go_wp2_with fail
  go_ret
  exact⟨by rw[HW.out];rfl,below_to HB2.out b3⟩
end
section
open Lib (hid)
open _root_.Go.Proofs.Tryz
set_option maxHeartbeats 2000000
set_option maxRecDepth 100000
open Go.RowKit
def IxAt (N:List ByteArray) (s:ByteArray) (i:Int):Prop:=(i=-1∧∀ j:Nat,N[j]?≠some s)∨∃ k:Nat,i=(k:Int)∧N[k]?=some s∧∀ j:Nat,j<k→N[j]?≠some s
theorem nameV_none {N:List ByteArray} {V:List Va} {s:ByteArray} (h:∀ j:Nat,N[j]?≠some s):nameV N V s=blankV:=by
 induction N generalizing V with
 | nil=>rfl
 | cons n N ih =>
  cases V with
  | nil=>rfl
  | cons v V =>
   rw[nameV,if_neg (by intro e;exact h 0 (by simp[e]))]
   exact ih (fun j=>by have:=h (j+1);simpa using this)
theorem nameV_at {N:List ByteArray} {V:List Va} {s:ByteArray} {k:Nat} {v:Va} (hk:N[k]?=some s) (hf:∀ j:Nat,j<k→N[j]?≠some s) (hv:V[k]?=some v):nameV N V s=if checkB v.k v.n v.s then v else blankV:=by
 induction k generalizing N V with
 | zero =>
  cases N with
  | nil=>simp at hk
  | cons n N =>
   cases V with
   | nil=>simp at hv
   | cons u V =>
    simp at hk hv
    subst hk;subst hv
    rw[nameV,if_pos rfl]
 | succ k ih =>
  cases N with
  | nil=>simp at hk
  | cons n N =>
   cases V with
   | nil=>simp at hv
   | cons u V =>
    simp at hk hv
    rw[nameV,if_neg (by intro e;exact hf 0 (by omega) (by simp[e]))]
    exact ih hk (fun j hj=>by have:=hf (j+1) (by omega);simpa using this) hv
theorem nameV_short {N:List ByteArray} {V:List Va} {s:ByteArray} {k:Nat} (hf:∀ j:Nat,j<k→N[j]?≠some s) (hv:V.length≤k):nameV N V s=blankV:=by
 induction k generalizing N V with
 | zero =>
  have:V=[]:=List.length_eq_zero_iff.1 (by omega)
  subst this
  cases N<;>rfl
 | succ k ih =>
  cases N with
  | nil=>rfl
  | cons n N =>
   cases V with
   | nil=>rfl
   | cons u V =>
    simp at hv
    rw[nameV,if_neg (by intro e;exact hf 0 (by omega) (by simp[e]))]
    exact ih (fun j hj=>by have:=hf (j+1) (by omega);simpa using this) hv
theorem index_any (N:List ByteArray) (A:Option Addr) (cA:Nat) (s:ByteArray) (w:World) (hN:Ts w A N) (lN:N.length≤4611686018427387904) :
  Calls prog 189 #[.slice A N.length cA,.string s] w fun e w'=>(∃ i,e=.returned (.int .i64 i)∧IxAt N s i)∧Below w.heap.size w w':=by
 have HN:=hid hN
 clear hN
 go_enter func189,ntmps189
 go_wp2_with fail
 go_loopg [8] (N.length) (fun n s8 wr=>∃ k:Nat,k+n=N.length∧s8=.int .i64 (k:Int)∧Hid (Below w.heap.size w wr∧∀ j:Nat,j<k→N[j]?≠some s))
 case atStart=>exact⟨0,by omega,rfl,hid ⟨Below.refl _ _,fun j hj=>absurd hj (by omega)⟩⟩
 case round =>
  obtain⟨k,hkn,rfl,HW⟩:=hrel
  have HKN:=hid hkn
  by_cases hk:k<N.length
  ·have hkz:(k:Int)<(N.length:Int):=by omega
   obtain⟨ba,oa,rfl,hca⟩:=(HN.out.below HW.out.1) (by omega)
   have hcell:=hca k hk
   obtain⟨nm,hnm⟩:∃ nm,N[k]?=some nm:=⟨_,List.getElem?_eq_getElem hk⟩
   rw[List.getD_eq_getElem?_getD,hnm] at hcell
   have hcell2:wr.cell? ⟨ba,oa+k,none⟩=some (.string nm):=hcell
   have HM:=hid hnm
   clear hca hcell hkn hnm
   by_cases hn:s=nm
   ·subst hn
    have hnn:(s.toList == s.toList)=true:=by simp
    go_wp2_with fail
    go_ret
    exact⟨⟨(k:Int),rfl,.inr ⟨k,rfl,HM.out,HW.out.2⟩⟩,HW.out.1⟩
   ·have hnn:(s.toList == nm.toList)=false:=txt_ne hn
    have hnx:∀ j:Nat,j<k+1→N[j]?≠some s:=by
     intro j hj hd
     rcases Nat.lt_or_eq_of_le (Nat.le_of_lt_succ hj) with h | h
     ·exact HW.out.2 j h hd
     ·subst h
      rw[HM.out] at hd
      exact hn (Option.some.inj hd).symm
    have HNX:=hid hnx
    clear hnx
    go_wp2_with fail
    go_roundg (N.length - (k+1))
    case measure=>have:=HKN.out;omega
    case rel=>exact⟨k+1,by have:=HKN.out;omega,by go_num,hid ⟨HW.out.1,HNX.out⟩⟩
  ·have hkz:¬ (k:Int)<(N.length:Int):=by omega
   have hnx:∀ j:Nat,N[j]?≠some s:=by
    intro j hd
    have:=(List.getElem?_eq_some_iff.1 hd).1
    exact HW.out.2 j (by omega) hd
   have HNX:=hid hnx
   clear hnx
   go_wp2_with fail
   go_ret
   exact⟨⟨-1,rfl,.inl ⟨rfl,HNX.out⟩⟩,HW.out.1⟩
def Vs (w:World) (B:Option Addr) (V:List Va):Prop:=0<V.length→∃ g o,B=some ⟨g,o,none⟩∧∀ (k:Nat) v,V[k]?=some v→w.cell? ⟨g,o+k * 3,none⟩=some (.int .i64 v.k)∧w.cell? ⟨g,o+k * 3+1,none⟩=some (.int .i64 v.n)∧w.cell? ⟨g,o+k * 3+2,none⟩=some (.string ⟨v.s.toArray⟩)
theorem Vs.below {w w':World} {B:Option Addr} {V:List Va} (h:Vs w B V) (hb:Below w.heap.size w w'):Vs w' B V:=by
 intro hl
 obtain⟨g,o,rfl,hc⟩:=h hl
 refine⟨g,o,rfl,fun k v hk=>?_⟩
 obtain⟨h0,h1,h2⟩:=hc k v hk
 have hg:=World.block_lt_of_cell? w _ h0
 exact⟨(hb.cell (p:=⟨g,o+k * 3,none⟩) hg).trans h0,(hb.cell (p:=⟨g,o+k * 3+1,none⟩) hg).trans h1,(hb.cell (p:=⟨g,o+k * 3+2,none⟩) hg).trans h2⟩
theorem box_bx (v:Va):boxV v.k v.n ⟨v.s.toArray⟩=bxV (if checkB v.k v.n v.s then v else blankV):=by
 unfold boxV
 by_cases h:checkB v.k v.n v.s=true
 ·rw[if_pos h,if_pos h]
  unfold bxV
  by_cases h4:v.k=4
  ·have hs:v.s=[]:=by
    rcases check_kind h with h | h | h | h | h
    ·exact absurd h.1 (by omega)
    ·exact absurd h.1 (by omega)
    ·exact absurd h.1 (by omega)
    ·exact absurd h.1 (by omega)
    ·simp[*] at h ⊢
   simp[h4,hs]
  ·simp[h4]
 ·rw[if_neg h,if_neg h]
  rfl
theorem evname_any (N:List ByteArray) (V:List Va) (A B:Option Addr) (cA cB:Nat) (s:ByteArray) (w:World) (hN:Ts w A N) (hV:Vs w B V) (lN:N.length≤4611686018427387904) (lV:V.length≤4611686018427387904) (hs:∀ v ∈ V,v.s.length<9223372036854775807) (hT:Tabs w) :
  Calls prog 103 #[KE A N.length cA B V.length cB,.string s] w (Comes w (nameV N V s)):=by
 have hb1:=below_alloc w (.cells #[.slice A N.length cA,.slice B V.length cB] 87)
 have hs1:=alloc_size w (.cells #[.slice A N.length cA,.slice B V.length cB] 87)
 have k0:(w.alloc (.cells #[.slice A N.length cA,.slice B V.length cB] 87)).cell? ⟨w.heap.size,0,none⟩=some (.slice A N.length cA):=by rw[cells_of_alloc];rfl
 have k1:(w.alloc (.cells #[.slice A N.length cA,.slice B V.length cB] 87)).cell? ⟨w.heap.size,1,none⟩=some (.slice B V.length cB):=by rw[cells_of_alloc];rfl
 obtain⟨w1,hw1⟩:∃ w1,w.alloc (.cells #[.slice A N.length cA,.slice B V.length cB] 87)=w1:=⟨_,rfl⟩
 rw[hw1] at hb1 hs1 k0 k1
 have cI:=index_any N A cA s w1 (hN.below hb1) lN
 have g0:w.heap.size<w1.heap.size:=by omega
 have HB:=hid hb1
 have HT:=hid (hT.later hb1)
 have HV:=hid (hV.below hb1)
 clear hb1 hs1 hT hV hN
 go_enter func103,ntmps103
 go_wp2_with fail
 refine cI.mono ?_
 rintro e w2 ⟨⟨i,rfl,hi⟩,hb2⟩
 have k0:=(hb2.cell (p:=⟨w.heap.size,0,none⟩) g0).trans k0
 have k1:=(hb2.cell (p:=⟨w.heap.size,1,none⟩) g0).trans k1
 have HB2:=hid (below_to HB.out hb2)
 have HT2:=hid (HT.out.later hb2)
 have HV2:=hid (HV.out.below hb2)
 clear hb2 g0 hw1
 rcases hi with ⟨rfl,hno⟩ | ⟨k,rfl,hat,hf⟩
 ·have H0:=hid (nameV_none (V:=V) hno)
  clear hno
  go_wp2_with fail
  go_ret
  exact⟨by rw[H0.out];rfl,HB2.out⟩
 ·have hkz:¬ (k:Int)<0:=by omega
  by_cases hk:k<V.length
  ·have hkl:¬ ((V.length:Int)≤(k:Int)):=by omega
   have hkl2:(k:Int)<(V.length:Int):=by omega
   obtain⟨g,o,rfl,hc⟩:=HV2.out (by omega)
   obtain⟨v,hv⟩:∃ v,V[k]?=some v:=⟨_,List.getElem?_eq_getElem hk⟩
   obtain⟨c0,c1,c2⟩:=hc k v hv
   have cX:=box_any v.k v.n ⟨v.s.toArray⟩ w2 (by show v.s.toArray.size<_;rw[List.size_toArray];exact hs v (List.mem_of_getElem? hv)) HT2.out
   have HM:=hid (nameV_at hat hf hv)
   clear hc hat hf hv hs
   go_wp2_with fail
   refine cX.mono ?_
   rintro e w3 ⟨rfl,hb3⟩
   go_wp2_with fail
   go_ret
   exact⟨by rw[HM.out,← box_bx];rfl,below_to HB2.out hb3⟩
  ·have hkl:((V.length:Int)≤(k:Int)):=by omega
   have H0:=hid (nameV_short hf (by omega:V.length≤k))
   clear hat hf hs
   go_wp2_with fail
   go_ret
   exact⟨by rw[H0.out];rfl,HB2.out⟩
end
end Go.Proofs.YtbbblmedoagncaaGreatDoor
