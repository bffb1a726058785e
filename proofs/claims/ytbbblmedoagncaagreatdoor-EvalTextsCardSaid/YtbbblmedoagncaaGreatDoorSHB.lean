/- EvEq, EvAwk, EvLw -/
import Derived.Test.YtbbblmedoagncaaGreatDoorSGR
import Derived.Test.YtbbblmedoagncaaGreatDoorSHC
import Derived.Test.YtbbblmedoagncaaGreatDoorSGQ
namespace Go.Proofs.YtbbblmedoagncaaGreatDoor
section
open _root_.Go.Proofs.Tryz
set_option maxRecDepth 100000
open Go.RowKit
def sameV (K n:Int) (s:ByteArray) (L m:Int) (t:ByteArray):Bool:=K == L && (n == m && s == t)
theorem sameV_refl (K n:Int) (s:ByteArray):sameV K n s K n s=true:=by simp[sameV,beqB_refl]
theorem eqlIn_val (K n:Int) (s:ByteArray) (L m:Int) (t:ByteArray) (w:World):(Op.equalIn 10000 39 (V3 K n s) (V3 L m t)).run prog w=.ok (sameV K n s L m t) w:=by
 unfold sameV
 rw[run_equalIn_agg w 9999 39 _ _ (by kernel_rfl) (by kernel_rfl)]
 simp[Program.fieldsOf,underlying39,Op.eqFields,part,run_equalIn_int _ _ _ _ _ _ _ underlying3,run_equalIn_int _ _ _ _ _ _ _ underlying2,run_equalIn_string _ _ _ _ _ underlying9,isAgg3,isAgg2,isAgg9,beq_toListBytes]
 by_cases h1:K=L<;>by_cases h2:n=m<;>by_cases h3:s.toList=t.toList<;>simp[h1,h2,h3]
theorem eql_val (K n:Int) (s:ByteArray) (L m:Int) (t:ByteArray) (w:World):(binOp .eql 39 (V3 K n s) (V3 L m t)).run prog w=.ok (.bool (sameV K n s L m t)) w:=by
 rw[run_eql_struct,eqlIn_val];rfl
structure Res (w:World) (g:Nat):Prop where
 z0:∃ v,w.cell? ⟨g,0,none⟩=some v
 z1:∃ v,w.cell? ⟨g,1,none⟩=some v
 z2:∃ v,w.cell? ⟨g,2,none⟩=some v
 nb:NB w g
theorem Res.new (w:World):Res (w.alloc (.cells #[.int .i64 0,.int .i64 0,.string ⟨#[]⟩] 39)) w.heap.size :=
 ⟨⟨_,by rw[cells_of_alloc];rfl⟩,⟨_,by rw[cells_of_alloc];rfl⟩,⟨_,by rw[cells_of_alloc];rfl⟩,NB.new w _ _⟩
theorem Res.later {w w':World} {g:Nat} (h:Res w g) (hb:Below w.heap.size w w'):Res w' g:=by
 obtain⟨⟨v0,h0⟩,⟨v1,h1⟩,⟨v2,h2⟩,hn⟩:=h
 have hg:=World.block_lt_of_cell? w _ h0
 exact⟨⟨v0,(hb.cell (p:=⟨g,0,none⟩) hg).trans h0⟩,⟨v1,(hb.cell (p:=⟨g,1,none⟩) hg).trans h1⟩,⟨v2,(hb.cell (p:=⟨g,2,none⟩) hg).trans h2⟩,hn.same (hb.block _ hg)⟩
end
section
open _root_.Go.Lib (hid)
open _root_.Go.Proofs.Tryz
set_option maxHeartbeats 4000000
set_option maxRecDepth 100000
open Go.RowKit
def evE1:Ex:=.mk 10 0 [] [.mk 1 1 [] [],.mk 1 0 [] []]
def evE2:Ex:=.mk 17 0 [] [.mk 3 1 [] [],.mk 12 0 [] [evE1,.mk 1 1 [] []]]
def evE3:Ex:=.mk 7 0 [] [.mk 4 0 [120] [],.mk 1 1 [] []]
theorem ev_says1:Says (⟨#[49,32,47,32,48]⟩:ByteArray).data.toList (.ok evE1):=runC_says (f:=60) (by kernel_rfl)
theorem ev_says2:Says (⟨#[116,114,117,101,32,124,32,49,47,48,32,61,32,49]⟩:ByteArray).data.toList (.ok evE2):=runC_says (f:=60) (by kernel_rfl)
theorem ev_says3:Says (⟨#[120,32,43,32,49]⟩:ByteArray).data.toList (.ok evE3):=runC_says (f:=60) (by kernel_rfl)
theorem ev_1:evA [] [] evE1=⟨4,2,[]⟩:=by
 unfold evA
 rw[show chkB evE1=true by rw[← chkC_eq];decide +kernel]
 rfl
theorem ev_2:evA [] [] evE2=⟨2,1,[]⟩:=by
 unfold evA
 rw[show chkB evE2=true by rw[← chkC_eq];decide +kernel]
 rfl
theorem ev_3:evA [] [] evE3=⟨4,3,[]⟩:=by
 unfold evA
 rw[show chkB evE3=true by rw[← chkC_eq];decide +kernel]
 rfl
theorem knows_none (w:World) (hT:Tabs w):Knows w [] [] none none:=⟨Els.nil _ _,fun h=>absurd h (by simp),hT,by simp,by simp,by simp,by simp⟩
theorem eval_none (e:Ex) (v:Value) (S:Nat→Prop) (w:World) (hE:EnvP w) (hv:ExIn w S e v) :
  Calls prog 21 #[v,.slice none 0 0,.slice none 0 0] w fun en w'=>en=.returned (vaV (evA [] [] e))∧Below w.heap.size w w' :=
 eval_all [] [] none none 0 0 e v S w hE hv (knows_none w hE.env.tabs)
theorem evawake_any (w:World) (hE:EnvP w):Calls prog 19 #[] w fun e w'=>e=.returned (.bool true)∧Below w.heap.size w w':=by
 have c1:=parse_vals ⟨#[49,32,47,32,48]⟩ _ w (by decide) hE ev_says1
 have c2:=fun w hE=>parse_vals ⟨#[116,114,117,101,32,124,32,49,47,48,32,61,32,49]⟩ _ w (by decide) hE ev_says2
 have c3:=fun w hE=>parse_vals ⟨#[120,32,43,32,49]⟩ _ w (by decide) hE ev_says3
 have HE:=hid hE
 clear hE
 go_enter func19,ntmps19
 go_wp2_with fail
 refine c1.mono ?_
 rintro e w1 ⟨b1,op,n,z,ao,l,c,p,f,rfl,rfl,rfl,hx⟩
 have hb2:=below_alloc w1 (.cells #[.int .i64 op,.int .i64 n,.string z,.slice ao l c] 24)
 have hF:=four_new w1 (.int .i64 op) (.int .i64 n) (.string z) (.slice ao l c) 24
 have hx2:=hx.later hb2
 have hB2:=below_to b1 hb2
 obtain⟨w2,hw2⟩:∃ w2,w1.alloc (.cells #[.int .i64 op,.int .i64 n,.string z,.slice ao l c] 24)=w2:=⟨_,rfl⟩
 rw[hw2] at hF hx2 hB2 hb2
 have c2':=c2 _ (HE.out.later hB2)
 have HF2:=hid hF
 have HX2:=hid hx2
 have HB2:=hid hB2
 clear c1 c2 hx b1 hb2 hF hx2 hB2
 go_wp2_with fail
 refine c2'.mono ?_
 rintro e w3 ⟨b3,op2,n2,z2,ao2,l2,c2,p2,f2,rfl,rfl,rfl,hy⟩
 have hb4:=below_alloc w3 (.cells #[.int .i64 op2,.int .i64 n2,.string z2,.slice ao2 l2 c2] 24)
 have hG:=four_new w3 (.int .i64 op2) (.int .i64 n2) (.string z2) (.slice ao2 l2 c2) 24
 have hx4:=(HX2.out.later b3).later hb4
 have hF4:=(HF2.out.later b3).later hb4
 have hy4:=hy.later hb4
 have hB4:=below_to (below_to HB2.out b3) hb4
 obtain⟨w4,hw4⟩:∃ w4,w3.alloc (.cells #[.int .i64 op2,.int .i64 n2,.string z2,.slice ao2 l2 c2] 24)=w4:=⟨_,rfl⟩
 rw[hw4] at hG hx4 hF4 hy4 hB4 hb4
 have c3':=c3 _ (HE.out.later hB4)
 have HG4:=hid hG
 have HX4:=hid hx4
 have HF4:=hid hF4
 have HY4:=hid hy4
 have HB4:=hid hB4
 clear c2' c3 HF2 HX2 HB2 hy b3 hb4 hG hx4 hF4 hy4 hB4 hw2
 go_wp2_with fail
 refine c3'.mono ?_
 rintro e w5 ⟨b5,op3,n3,z3,ao3,l3,c3,p3,f3,rfl,rfl,rfl,hz⟩
 have hb6:=below_alloc w5 (.cells #[.int .i64 op3,.int .i64 n3,.string z3,.slice ao3 l3 c3] 24)
 have hH:=four_new w5 (.int .i64 op3) (.int .i64 n3) (.string z3) (.slice ao3 l3 c3) 24
 have hx6:=(HX4.out.later b5).later hb6
 have hF6:=(HF4.out.later b5).later hb6
 have hy6:=(HY4.out.later b5).later hb6
 have hG6:=(HG4.out.later b5).later hb6
 have hz6:=hz.later hb6
 have hB6:=below_to (below_to HB4.out b5) hb6
 obtain⟨w6,hw6⟩:∃ w6,w5.alloc (.cells #[.int .i64 op3,.int .i64 n3,.string z3,.slice ao3 l3 c3] 24)=w6:=⟨_,rfl⟩
 rw[hw6] at hH hx6 hF6 hy6 hG6 hz6 hB6 hb6
 have k1:=eval_none evE1 _ _ w6 (HE.out.later hB6) hx6
 rw[ev_1] at k1
 have k2:=fun w7 (hb:Below w6.heap.size w6 w7)=>eval_none evE2 _ _ w7 (HE.out.later (below_to hB6 hb)) (hy6.later hb)
 rw[ev_2] at k2
 have k3:=fun w7 (hb:Below w6.heap.size w6 w7)=>eval_none evE3 _ _ w7 (HE.out.later (below_to hB6 hb)) (hz6.later hb)
 rw[ev_3] at k3
 simp only[vaV] at k1 k2 k3
 have HG6:=hid hG6
 have HH6:=hid hH
 have HB6:=hid hB6
 obtain⟨-,x0,x1,x2,x3,-⟩:=hF6
 clear c3' HF4 HX4 HG4 HY4 HB4 hz b5 hb6 hx6 hy6 hG6 hz6 hB6 hH hw4
 go_wp2_with fail
 refine k1.mono ?_
 rintro e w7 ⟨rfl,b7⟩
 have k2':=k2 w7 b7
 obtain⟨-,y0,y1,y2,y3,-⟩:=HG6.out.later b7
 have HB7:=hid b7
 clear k1 k2 x0 x1 x2 x3 hw6 b7
 go_wp2_with fail
 refine k2'.mono ?_
 rintro e w8 ⟨rfl,b8⟩
 have b68:=below_to HB7.out b8
 have k3':=k3 w8 b68
 obtain⟨-,q0,q1,q2,q3,-⟩:=HH6.out.later b68
 have HB8:=hid b68
 clear k2' k3 y0 y1 y2 y3 b8 b68
 go_wp2_with fail
 refine k3'.mono ?_
 rintro e w9 ⟨rfl,b9⟩
 have HB9:=hid (below_to HB6.out (below_to HB8.out b9))
 clear k3' q0 q1 q2 q3 b9
 go_wp2_with fail
 go_ret
 exact⟨rfl,HB9.out⟩
end
section
open _root_.Go.Proofs.Tryz
open Go.RowKit
structure At3 (w:World) (g:Nat) (K n:Int) (s:ByteArray):Prop where
 lt:g<w.heap.size
 c0:w.cell? ⟨g,0,none⟩=some (.int .i64 K)
 c1:w.cell? ⟨g,1,none⟩=some (.int .i64 n)
 c2:w.cell? ⟨g,2,none⟩=some (.string s)
theorem At3.new (w:World) (K n:Int) (s:ByteArray):At3 (w.alloc (.cells #[.int .i64 K,.int .i64 n,.string s] 39)) w.heap.size K n s :=
 ⟨by rw[alloc_size];omega,by rw[cells_of_alloc];rfl,by rw[cells_of_alloc];rfl,by rw[cells_of_alloc];rfl⟩
theorem At3.later {w w':World} {g:Nat} {K n:Int} {s:ByteArray} (h:At3 w g K n s) (hb:Below w.heap.size w w'):At3 w' g K n s :=
 ⟨Nat.lt_of_lt_of_le h.lt hb.size,(hb.cell (p:=⟨g,0,none⟩) h.lt).trans h.c0,(hb.cell (p:=⟨g,1,none⟩) h.lt).trans h.c1,(hb.cell (p:=⟨g,2,none⟩) h.lt).trans h.c2⟩
theorem same_yes (K n:Int) (s:ByteArray) (w:World):(binOp .eql 39 (V3 K n s) (V3 K n s)).run prog w=.ok (.bool true) w:=by rw[eql_val,sameV_refl]
end
end Go.Proofs.YtbbblmedoagncaaGreatDoor
