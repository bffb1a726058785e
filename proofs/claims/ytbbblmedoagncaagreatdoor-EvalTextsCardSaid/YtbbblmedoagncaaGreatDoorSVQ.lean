/- RxU, RxA, RxW, RxT, RxH, RxAll, RxZ -/
import Derived.Test.YtbbblmedoagncaaGreatDoorSVP
import Derived.Test.YtbbblmedoagncaaGreatDoorSGM
import Derived.Test.YtbbblmedoagncaaGreatDoorSHF
import Derived.Test.YtbbblmedoagncaaGreatDoorSGQ
namespace Go.Proofs.YtbbblmedoagncaaGreatDoor
section
open Lib (hid)
open _root_.Go.Proofs.Tryz
set_option maxHeartbeats 4000000
set_option maxRecDepth 100000
open Go.RowKit
theorem xend_set {w0 w v w4:World} {g:Nat} {T:List Tk} {h cap:Nat} {r:Except Nat (Ex × List Tk)} {op n:Int} {s:ByteArray} {ao:Option Addr} {la ca:Nat} (haw:Away g w v) (hgl:g<w.heap.size) (hv:w.heap.size<v.heap.size) (a2:Away g v w4)
  (hst:(∃ a j,r=.ok (a,T.drop j)∧ExIn w4 (Up v.heap.size) a (EV op n s (.slice ao la ca))∧XG w0 w4 g T h cap j (-1))∨(∃ p j:Nat,r=.error p∧XG w0 w4 g T h cap j (p:Int))) (x0 x1 x2 x3:Value) :
  XEnd w0 w g T h cap r (.returned (EV op n s (.slice ao la ca))) (set4 w4 w.heap.size x0 x1 x2 x3):=by
 refine⟨(haw.trans a2).put4 (Nat.le_refl _) _ _ _ _,op,n,s,ao,la,ca,rfl,?_⟩
 rcases hst with ⟨a,j,h1,h2,h3⟩ | ⟨p,j,h1,h3⟩
 ·exact .inl ⟨a,j,h1,ex_set4 h2 hv (Nat.le_of_lt hv) _ _ _ _,h3.put4 hgl _ _ _ _⟩
 ·exact .inr ⟨p,j,h1,h3.put4 hgl _ _ _ _⟩
theorem xunary_step {w0:World} {g:Nat} {T:List Tk} {h cap F:Nat} (hU:∀ (w:World) (i:Nat) r,XG w0 w g T h cap i (-1)→pU F (T.drop i)=some r→Calls prog 314 #[.pointer (some ⟨g,0,none⟩)] w (XEnd w0 w g T h cap r))
  (hA:∀ (w:World) (i:Nat) r,XG w0 w g T h cap i (-1)→pA F (T.drop i)=some r→Calls prog 319 #[.pointer (some ⟨g,0,none⟩)] w (XEnd w0 w g T h cap r))
  (w:World) (i:Nat) (r:Except Nat (Ex × List Tk)) (p:XG w0 w g T h cap i (-1)) (hr:pU (F+1) (T.drop i)=some r):Calls prog 314 #[.pointer (some ⟨g,0,none⟩)] w (XEnd w0 w g T h cap r):=by
 have hgl:=p.glt
 rw[pU] at hr
 have d1:=below_alloc w (.cells #[.int .i64 0,.int .i64 0,.string ⟨#[]⟩,.slice none 0 0] 24)
 have f1:=four_new w (.int .i64 0) (.int .i64 0) (.string ⟨#[]⟩) (.slice none 0 0) 24
 have z1:=alloc_size w (.cells #[.int .i64 0,.int .i64 0,.string ⟨#[]⟩,.slice none 0 0] 24)
 obtain⟨w1,hw1⟩:∃ x,w.alloc (.cells #[.int .i64 0,.int .i64 0,.string ⟨#[]⟩,.slice none 0 0] 24)=x:=⟨_,rfl⟩
 rw[hw1] at d1 f1 z1
 have PI:=hid (p.later d1)
 have HRR0:=hid f1
 have HAW0:Hid (Away g w w1):=hid (Away.of d1)
 have HGL:=hid hgl
 have HU:=hid hU
 have HA:=hid hA
 have hs0:w.heap.size+1≤w1.heap.size:=by omega
 clear f1 d1 z1 p hU hA hgl
 go_enter func314,ntmps314
 cases hI0:isS (T.drop i) [45] with
 | false =>
  cases hI1:isS (T.drop i) [33] with
  | false =>
   rw[hI0,if_neg (by decide),hI1,if_neg (by decide)] at hr
   have HL:=hid hr
   clear hr
   have c1:=xsign_any w0 w1 g T h cap i [45] (by decide) PI.out
   unfold SgE at c1
   rw[hI0] at c1
   go_wp2_with fail
   refine c1.mono ?_
   rintro e v1 ⟨rfl,a1,q1⟩
   replace q1:XG w0 v1 g T h cap i (-1):=by simpa using q1
   replace PI:=hid q1
   have hs1:=Nat.le_trans hs0 a1.size
   have HRR1:=hid (HRR0.out.away a1 (by have:=HGL.out;omega))
   have HAW1:=hid (HAW0.out.trans a1)
   clear c1 q1 a1 HRR0 HAW0 hs0
   have c1:=xsign_any w0 v1 g T h cap i [33] (by decide) PI.out
   unfold SgE at c1
   rw[hI1] at c1
   go_wp2_with fail
   refine c1.mono ?_
   rintro e v2 ⟨rfl,a1,q1⟩
   replace q1:XG w0 v2 g T h cap i (-1):=by simpa using q1
   replace PI:=hid q1
   have hs2:=Nat.le_trans hs1 a1.size
   have HRR2:=hid (HRR1.out.away a1 (by have:=HGL.out;omega))
   have HAW2:=hid (HAW1.out.trans a1)
   clear c1 q1 a1 HRR1 HAW1 hs1
   have c2:=HA.out v2 i r PI.out HL.out
   go_wp2_with fail
   refine c2.mono ?_
   rintro e w4 ⟨a2,op,n,s,ao,la,ca,rfl,hst⟩
   have hR4:=HRR2.out.away a2 (by have:=HGL.out;omega)
   obtain⟨-,z0,z1,z2,z3,g0,g1,g2,g3⟩:=hR4
   have HST:=hid hst
   have A2:=hid a2
   clear c2 hst a2
   go_wp2_with fail
   exact bodyPost_ret (v:=EV op n s (.slice ao la ca)) (by simp[EV,results,results314,go_sem,z0,z1,z2,z3]) rfl (xend_set HAW2.out HGL.out (by omega) A2.out HST.out _ _ _ _)
  | true =>
   rw[hI0,if_neg (by decide),hI1,if_pos rfl] at hr
   rw[List.tail_drop] at hr
   cases hp:pU F (T.drop (i+1)) with
   | none=>rw[hp] at hr;cases hr
   | some r2 =>
   rw[hp] at hr
   have HL:=hid hr
   have HPF:=hid hp
   clear hr hp
   have c1:=xsign_any w0 w1 g T h cap i [45] (by decide) PI.out
   unfold SgE at c1
   rw[hI0] at c1
   go_wp2_with fail
   refine c1.mono ?_
   rintro e v1 ⟨rfl,a1,q1⟩
   replace q1:XG w0 v1 g T h cap i (-1):=by simpa using q1
   replace PI:=hid q1
   have hs1:=Nat.le_trans hs0 a1.size
   have HRR1:=hid (HRR0.out.away a1 (by have:=HGL.out;omega))
   have HAW1:=hid (HAW0.out.trans a1)
   clear c1 q1 a1 HRR0 HAW0 hs0
   have c1:=xsign_any w0 v1 g T h cap i [33] (by decide) PI.out
   unfold SgE at c1
   rw[hI1] at c1
   go_wp2_with fail
   refine c1.mono ?_
   rintro e v2 ⟨rfl,a1,q1⟩
   replace q1:XG w0 v2 g T h cap (i+1) (-1):=by simpa using q1
   have hs2:=Nat.le_trans hs1 a1.size
   have HRs:=hid (HRR1.out.away a1 (by have:=HGL.out;omega))
   have As1:=hid (HAW1.out.trans a1)
   have c2:=HU.out v2 (i+1) r2 q1 HPF.out
   clear c1 q1 a1 HRR1 HAW1 hs1
   go_wp2_with fail
   refine c2.mono ?_
   rintro e w4 ⟨a2,op2,n2,s2,ao2,la2,ca2,rfl,hst⟩
   have hs2:=a2.size
   have d5:=below_alloc w4 (.cells #[.int .i64 op2,.int .i64 n2,.string s2,.slice ao2 la2 ca2] 24)
   have f5:=four_new w4 (.int .i64 op2) (.int .i64 n2) (.string s2) (.slice ao2 la2 ca2) 24
   have z5:=alloc_size w4 (.cells #[.int .i64 op2,.int .i64 n2,.string s2,.slice ao2 la2 ca2] 24)
   have HRf:=hid ((HRs.out.away a2 (by have:=HGL.out;omega)).later d5)
   have Af:=hid ((As1.out.trans a2).next d5)
   have HS5:Hid ((∃ c j,r2=.ok (c,T.drop j)∧ExIn (w4.alloc (.cells #[.int .i64 op2,.int .i64 n2,.string s2,.slice ao2 la2 ca2] 24)) (fun b=>w.heap.size<b) c (EV op2 n2 s2 (.slice ao2 la2 ca2))∧XG w0 (w4.alloc (.cells #[.int .i64 op2,.int .i64 n2,.string s2,.slice ao2 la2 ca2] 24)) g T h cap j (-1))∨(∃ p j:Nat,r2=.error p∧XG w0 (w4.alloc (.cells #[.int .i64 op2,.int .i64 n2,.string s2,.slice ao2 la2 ca2] 24)) g T h cap j (p:Int))):=by
    refine hid ?_
    rcases hst with ⟨c,j,h1,h2,h3⟩ | ⟨p,j,h1,h3⟩
    ·exact .inl ⟨c,j,h1,(h2.wide (R:=fun b=>w.heap.size<b) (fun b hb _=>by have:(v2).heap.size≤b:=hb;show w.heap.size<b;omega)).later d5,h3.later d5⟩
    ·exact .inr ⟨p,j,h1,h3.later d5⟩
   obtain⟨w5,hw5⟩:∃ x,w4.alloc (.cells #[.int .i64 op2,.int .i64 n2,.string s2,.slice ao2 la2 ca2] 24)=x:=⟨_,rfl⟩
   rw[hw5] at f5 z5 HRf Af HS5
   obtain⟨-,y0,y1,y2,y3,-⟩:=f5
   have B6:=below_alloc w5 (.cells #[.int .i64 op2,.int .i64 n2,.string s2,.slice ao2 la2 ca2] 24)
   have hl6:w5.heap.size<(w5.alloc (.cells #[.int .i64 op2,.int .i64 n2,.string s2,.slice ao2 la2 ca2] 24)).heap.size:=by rw[alloc_size];omega
   have hR6:=HRf.out.later B6
   have HROW:Hid (∀ (S:Nat→Prop) c,ExIn w5 S c (EV op2 n2 s2 (.slice ao2 la2 ca2))→RowIn (w5.alloc (.cells #[.int .i64 op2,.int .i64 n2,.string s2,.slice ao2 la2 ca2] 24)) S w5.heap.size 0 [c]):=hid (fun S c hc=>row_one hc)
   obtain⟨w6,hw6⟩:∃ x,w5.alloc (.cells #[.int .i64 op2,.int .i64 n2,.string s2,.slice ao2 la2 ca2] 24)=x:=⟨_,rfl⟩
   rw[hw6] at B6 hR6 HROW hl6
   obtain⟨-,z0,z1,z2,z3,g0,g1,g2,g3⟩:=hR6
   have hs6:=B6.size
   have KB6:=hid B6
   clear c2 hst d5 a2 HRs B6
   go_wp2_with fail
   have hgl:=HGL.out
   refine bodyPost_ret (v:=EV 6 0 ⟨#[]⟩ (.slice (some ⟨w5.heap.size,0,none⟩) 1 1)) (by simp[EV,results,results314,go_sem,z0,z1,z2,z3]) rfl ?_
   refine⟨(Af.out.next KB6.out).put4 (Nat.le_refl _) _ _ _ _,6,0,⟨#[]⟩,some ⟨w5.heap.size,0,none⟩,1,1,rfl,?_⟩
   rcases HS5.out with ⟨c,j,h1,h2,h3⟩ | ⟨p,j,h1,h3⟩
   ·refine .inl ⟨oneE 6 c,j,?_,?_,(h3.later KB6.out).put4 hgl _ _ _ _⟩
    ·have:=HL.out;rw[h1] at this;injection this with this;exact this.symm
    ·refine ex_one ⟨by decide,by decide⟩ (by show w.heap.size≤w5.heap.size;omega) (by rw[set4_size];exact hl6) ?_
     exact RowIn.from (fun b hb _=>by have:w.heap.size<b:=hb;show w.heap.size≤b;omega) _ _ _ (RowIn.stays (Stays.set4 w6 _ _ _ _ (fun hb=>by have:w.heap.size<w.heap.size:=hb;omega)) _ _ _ (by show w.heap.size<w5.heap.size;omega) hl6 (HROW.out _ _ h2))
   ·exact .inr ⟨p,j,by have:=HL.out;rw[h1] at this;exact (by simpa[bnd] using this.symm),(h3.later KB6.out).put4 hgl _ _ _ _⟩
 | true =>
  rw[hI0,if_pos rfl] at hr
  rw[List.tail_drop] at hr
  cases hp:pU F (T.drop (i+1)) with
  | none=>rw[hp] at hr;cases hr
  | some r2 =>
  rw[hp] at hr
  have HL:=hid hr
  have HPF:=hid hp
  clear hr hp
  have c1:=xsign_any w0 w1 g T h cap i [45] (by decide) PI.out
  unfold SgE at c1
  rw[hI0] at c1
  go_wp2_with fail
  refine c1.mono ?_
  rintro e v1 ⟨rfl,a1,q1⟩
  replace q1:XG w0 v1 g T h cap (i+1) (-1):=by simpa using q1
  have hs1:=Nat.le_trans hs0 a1.size
  have HRs:=hid (HRR0.out.away a1 (by have:=HGL.out;omega))
  have As1:=hid (HAW0.out.trans a1)
  have c2:=HU.out v1 (i+1) r2 q1 HPF.out
  clear c1 q1 a1 HRR0 HAW0 hs0
  go_wp2_with fail
  refine c2.mono ?_
  rintro e w4 ⟨a2,op2,n2,s2,ao2,la2,ca2,rfl,hst⟩
  have hs2:=a2.size
  have d5:=below_alloc w4 (.cells #[.int .i64 op2,.int .i64 n2,.string s2,.slice ao2 la2 ca2] 24)
  have f5:=four_new w4 (.int .i64 op2) (.int .i64 n2) (.string s2) (.slice ao2 la2 ca2) 24
  have z5:=alloc_size w4 (.cells #[.int .i64 op2,.int .i64 n2,.string s2,.slice ao2 la2 ca2] 24)
  have HRf:=hid ((HRs.out.away a2 (by have:=HGL.out;omega)).later d5)
  have Af:=hid ((As1.out.trans a2).next d5)
  have HS5:Hid ((∃ c j,r2=.ok (c,T.drop j)∧ExIn (w4.alloc (.cells #[.int .i64 op2,.int .i64 n2,.string s2,.slice ao2 la2 ca2] 24)) (fun b=>w.heap.size<b) c (EV op2 n2 s2 (.slice ao2 la2 ca2))∧XG w0 (w4.alloc (.cells #[.int .i64 op2,.int .i64 n2,.string s2,.slice ao2 la2 ca2] 24)) g T h cap j (-1))∨(∃ p j:Nat,r2=.error p∧XG w0 (w4.alloc (.cells #[.int .i64 op2,.int .i64 n2,.string s2,.slice ao2 la2 ca2] 24)) g T h cap j (p:Int))):=by
   refine hid ?_
   rcases hst with ⟨c,j,h1,h2,h3⟩ | ⟨p,j,h1,h3⟩
   ·exact .inl ⟨c,j,h1,(h2.wide (R:=fun b=>w.heap.size<b) (fun b hb _=>by have:(v1).heap.size≤b:=hb;show w.heap.size<b;omega)).later d5,h3.later d5⟩
   ·exact .inr ⟨p,j,h1,h3.later d5⟩
  obtain⟨w5,hw5⟩:∃ x,w4.alloc (.cells #[.int .i64 op2,.int .i64 n2,.string s2,.slice ao2 la2 ca2] 24)=x:=⟨_,rfl⟩
  rw[hw5] at f5 z5 HRf Af HS5
  obtain⟨-,y0,y1,y2,y3,-⟩:=f5
  have B6:=below_alloc w5 (.cells #[.int .i64 op2,.int .i64 n2,.string s2,.slice ao2 la2 ca2] 24)
  have hl6:w5.heap.size<(w5.alloc (.cells #[.int .i64 op2,.int .i64 n2,.string s2,.slice ao2 la2 ca2] 24)).heap.size:=by rw[alloc_size];omega
  have hR6:=HRf.out.later B6
  have HROW:Hid (∀ (S:Nat→Prop) c,ExIn w5 S c (EV op2 n2 s2 (.slice ao2 la2 ca2))→RowIn (w5.alloc (.cells #[.int .i64 op2,.int .i64 n2,.string s2,.slice ao2 la2 ca2] 24)) S w5.heap.size 0 [c]):=hid (fun S c hc=>row_one hc)
  obtain⟨w6,hw6⟩:∃ x,w5.alloc (.cells #[.int .i64 op2,.int .i64 n2,.string s2,.slice ao2 la2 ca2] 24)=x:=⟨_,rfl⟩
  rw[hw6] at B6 hR6 HROW hl6
  obtain⟨-,z0,z1,z2,z3,g0,g1,g2,g3⟩:=hR6
  have hs6:=B6.size
  have KB6:=hid B6
  clear c2 hst d5 a2 HRs B6
  go_wp2_with fail
  have hgl:=HGL.out
  refine bodyPost_ret (v:=EV 5 0 ⟨#[]⟩ (.slice (some ⟨w5.heap.size,0,none⟩) 1 1)) (by simp[EV,results,results314,go_sem,z0,z1,z2,z3]) rfl ?_
  refine⟨(Af.out.next KB6.out).put4 (Nat.le_refl _) _ _ _ _,5,0,⟨#[]⟩,some ⟨w5.heap.size,0,none⟩,1,1,rfl,?_⟩
  rcases HS5.out with ⟨c,j,h1,h2,h3⟩ | ⟨p,j,h1,h3⟩
  ·refine .inl ⟨oneE 5 c,j,?_,?_,(h3.later KB6.out).put4 hgl _ _ _ _⟩
   ·have:=HL.out;rw[h1] at this;injection this with this;exact this.symm
   ·refine ex_one ⟨by decide,by decide⟩ (by show w.heap.size≤w5.heap.size;omega) (by rw[set4_size];exact hl6) ?_
    exact RowIn.from (fun b hb _=>by have:w.heap.size<b:=hb;show w.heap.size≤b;omega) _ _ _ (RowIn.stays (Stays.set4 w6 _ _ _ _ (fun hb=>by have:w.heap.size<w.heap.size:=hb;omega)) _ _ _ (by show w.heap.size<w5.heap.size;omega) hl6 (HROW.out _ _ h2))
  ·exact .inr ⟨p,j,by have:=HL.out;rw[h1] at this;exact (by simpa[bnd] using this.symm),(h3.later KB6.out).put4 hgl _ _ _ _⟩
end
section
open Lib (hid)
open _root_.Go.Proofs.Tryz
set_option maxHeartbeats 4000000
set_option maxRecDepth 100000
open Go.RowKit
theorem four_block {w w':World} {k:Nat} {a b c d:Value} (hF:Four w k a b c d) (he:w'.heap[k]?=w.heap[k]?) (hs:w.heap.size≤w'.heap.size):Four w' k a b c d :=
 ⟨Nat.lt_of_lt_of_le hF.lt hs,(World.cell?_of_block (w:=w) (a:=⟨k,0,none⟩) he).trans hF.c0,(World.cell?_of_block (w:=w) (a:=⟨k,1,none⟩) he).trans hF.c1,(World.cell?_of_block (w:=w) (a:=⟨k,2,none⟩) he).trans hF.c2,(World.cell?_of_block (w:=w) (a:=⟨k,3,none⟩) he).trans hF.c3,
  (World.frozen?_of_block (w:=w) (a:=⟨k,0,none⟩) he).trans hF.f0,(World.frozen?_of_block (w:=w) (a:=⟨k,1,none⟩) he).trans hF.f1,(World.frozen?_of_block (w:=w) (a:=⟨k,2,none⟩) he).trans hF.f2,(World.frozen?_of_block (w:=w) (a:=⟨k,3,none⟩) he).trans hF.f3⟩
theorem XG.grown {w0 w w':World} {g:Nat} {T:List Tk} {h cap i:Nat} {bad:Int} {row:Option Nat} (q:XG w0 w g T h cap i bad) (hg:w.grownBy w' row) (hn:∀ b,b≤g→some b≠row):XG w0 w' g T h cap i bad :=
 ⟨q.env,⟨hg.os.trans q.base.os,hg.tape.trans q.base.tape,hg.output.trans q.base.output,Nat.le_trans q.base.size hg.size,fun b hb=>(hg.block b (Nat.lt_of_lt_of_le hb q.base.size) (hn b (by have:=q.gz;omega))).trans (q.base.block b hb)⟩,
  q.gz,q.good,q.lt,q.le,q.big,q.bad1,by rw[hg.block g q.glt (hn g (Nat.le_refl _))];exact q.obj,q.hg,⟨Nat.lt_of_lt_of_le q.row.1 hg.size,fun b t ht=>by
   have e:=hg.block h q.row.1 (hn h (by have:=q.hg;omega))
   obtain⟨e0,e1,e2,e3⟩:=q.row.2 b t ht
   exact⟨(World.cell?_of_block e).trans e0,(World.cell?_of_block e).trans e1,(World.cell?_of_block e).trans e2,(World.cell?_of_block e).trans e3⟩⟩⟩
def Nx (F op n:Nat) (r:Except Nat (Ex × List Tk)) (es:List Ex) (ts:List Tk):Prop :=
 ∃ f,f<F∧∃ re,pE f 0 ts=some re∧(∀ p,re=.error p→r=.error p)∧∀ a q2,re=.ok (a,q2)→KS F op n r (es.length+1) [44] (es++[a]) q2
theorem KS.nx {F op n:Nat} {r:Except Nat (Ex × List Tk)} {j:Nat} {s:List UInt8} {es:List Ex} {t:Tk} {q:List Tk} (h:KS F op n r j s es (t :: q)) (hj:j<n):(sgT t≠s∧r=.error t.a)∨(sgT t=s∧Nx F op n r es q):=by
 have hl:=h.1
 rcases h.step hj with h | ⟨h1,f,hf,re,h2,h3,h4⟩
 ·exact .inl h
 ·exact .inr ⟨h1,f,hf,re,h2,h3,fun a q2 e=>by rw[hl];exact h4 a q2 e⟩
def AS (w0 w:World) (g:Nat) (T:List Tk) (h cap F op n:Nat) (r:Except Nat (Ex × List Tk)) (j:Nat) (wr:World):Prop :=
 Away g w wr∧Four wr w.heap.size (.int .i64 0) (.int .i64 0) (.string ⟨#[]⟩) (.slice none 0 0)∧∃ v,Four wr (w.heap.size+1) (.int .i64 (op:Int)) (.int .i64 0) (.string ⟨#[]⟩) v ∧
  ((∃ i es,XG w0 wr g T h cap i (-1)∧Grow wr (w.heap.size+2) v es∧es.length=j∧((j=0∧Nx F op n r es (T.drop i))∨(1≤j∧KS F op n r j [44] es (T.drop i))))∨(∃ (p i:Nat) (ao:Option Addr) (la ca:Nat),XG w0 wr g T h cap i (p:Int)∧r=.error p∧v=.slice ao la ca))
theorem xargs_step {w0:World} {g:Nat} {T:List Tk} {h cap F:Nat} (hG:∀ f,f<F→∀ (w:World) (i:Nat) r,XG w0 w g T h cap i (-1)→pE f 0 (T.drop i)=some r→Calls prog 45 #[.pointer (some ⟨g,0,none⟩)] w (XEnd w0 w g T h cap r))
  (w:World) (i op n:Nat) (r:Except Nat (Ex × List Tk)) (hn1:1≤n) (hn3:n≤3) (hop:op≤100) (p:XG w0 w g T h cap i (-1)) (hr:pX F op n (T.drop i)=some r):Calls prog 322 #[.pointer (some ⟨g,0,none⟩),.int .i64 (op:Int),.int .i64 (n:Int)] w (XEnd w0 w g T h cap r):=by
 have hgl:=p.glt
 obtain⟨i0,hi,hz0,hz1,hz2⟩:=info_parts (show (prog.info? 24).map (fun i=>(i.zero,i.size,i.bytes))=some (some (.agg #[.int .i64 0,.int .i64 0,.string ⟨#[]⟩,.slice none 0 0]),4,56) by kernel_rfl)
 have d1:=below_alloc w (.cells #[.int .i64 0,.int .i64 0,.string ⟨#[]⟩,.slice none 0 0] 24)
 have f1:=four_new w (.int .i64 0) (.int .i64 0) (.string ⟨#[]⟩) (.slice none 0 0) 24
 have z1:=alloc_size w (.cells #[.int .i64 0,.int .i64 0,.string ⟨#[]⟩,.slice none 0 0] 24)
 obtain⟨w1,hw1⟩:∃ x,w.alloc (.cells #[.int .i64 0,.int .i64 0,.string ⟨#[]⟩,.slice none 0 0] 24)=x:=⟨_,rfl⟩
 rw[hw1] at d1 f1 z1
 have d2:=below_alloc w1 (.cells #[.int .i64 (op:Int),.int .i64 0,.string ⟨#[]⟩,.slice none 0 0] 24)
 have f2:=four_new w1 (.int .i64 (op:Int)) (.int .i64 0) (.string ⟨#[]⟩) (.slice none 0 0) 24
 have z2:=alloc_size w1 (.cells #[.int .i64 (op:Int),.int .i64 0,.string ⟨#[]⟩,.slice none 0 0] 24)
 rw[z1] at f2
 have p2:=(p.later d1).later d2
 obtain⟨t,ht,hd,-⟩:=p.tok
 have hKS:=KS.start hr
 rw[hd] at hKS
 have HI:=hid hG
 have HGL:=hid hgl
 have HF2:=hid f2
 have HR2:=hid (f1.later d2)
 have HD2:=hid (below_to d1 d2)
 have c1:=xmust_any w0 _ g T h cap i [40] (by decide) t p2 ht
 have HNX:=hid (hKS.nx (by omega))
 have HIS:Hid (isS (T.drop i) [40]=decide (sgT t=[40])):=hid (by rw[hd];exact isS_sg (by decide))
 have HSZ:=hid z1
 clear hKS hd ht hr hG f1 f2 d1 d2 z2 p p2 hgl
 go_enter func322,ntmps322
 go_wp2_with fail
 refine c1.mono ?_
 rintro e w3 ⟨rfl,a3,q3⟩
 have hs3:=a3.size
 have HST:Hid (AS w0 w g T h cap F op n r 0 w3):=by
  have hgl:=HGL.out
  refine hid ⟨(Away.of HD2.out).trans a3,HR2.out.away a3 (by omega),.slice none 0 0,HF2.out.away a3 (by omega),?_⟩
  rcases HNX.out with ⟨h1,h2⟩ | ⟨h1,h2⟩
  ·rw[if_neg (by rw[HIS.out];simp[h1]),if_neg (by rw[HIS.out];simp[h1])] at q3
   exact .inr ⟨t.a,i,none,0,0,q3,h2,rfl⟩
  ·rw[if_pos (by rw[HIS.out];simp[h1]),if_pos (by rw[HIS.out];simp[h1])] at q3
   exact .inl ⟨i+1,[],q3,Grow.nil _ _,rfl,.inl ⟨rfl,h2⟩⟩
 clear c1 a3 q3 HNX HIS HF2 HR2 HD2
 have hg1:=HSZ.out
 go_wp2_with fail
 clear hw1 hg1 HSZ z1
 go_loopg [8] (n) (fun m s8 wr=>∃ j:Nat,j+m=n∧s8=.int .i64 (j:Int)∧Hid (AS w0 w g T h cap F op n r j wr))
 case atStart=>exact⟨0,Nat.zero_add _,rfl,HST⟩
 case round =>
  clear HST
  obtain⟨j,hjm,rfl,HA⟩:=hrel
  have HJM:=hid hjm
  obtain⟨aw,hR,v,hE,hst⟩:=HA.out
  have HAW:=hid aw
  have HRR:=hid hR
  have HE:=hid hE
  clear HA aw
  rcases hst with ⟨i,es,pi,hgr,hlen,hK⟩ | ⟨pp,i,ao,la,ca,pi,rfl,rfl⟩
  ·have PI:=hid pi
   have HGR:=hid hgr
   have HLEN:=hid hlen
   obtain⟨-,x1,x2,-,-⟩:=pi.cells
   clear pi hgr hlen hR hE
   by_cases hj:j<n
   ·have hjz:(j:Int)<(n:Int):=by omega
    rcases hK with ⟨hj0,hN⟩ | ⟨hj1,hK⟩
    ·have hjp:¬ (0:Int)<(j:Int):=by omega
     have HN:=hid hN
     clear hN hj0
     have hr1:=HN.out
     obtain⟨f,hf,re,hE,hre1,hre2⟩:=hr1
     have c2:=HI.out f hf wr i re PI.out hE
     have HRE1:=hid hre1
     have HRE2:=hid hre2
     have hsv:=HAW.out.size
     have hsv2:=HE.out.lt
     clear hE hre1 hre2 HN
     go_wp2_with fail
     refine c2.mono ?_
     rintro e w4 ⟨a2,op2,n2,s2,ao2,la2,ca2,rfl,hst⟩
     have hs4:=Nat.le_trans hsv a2.size
     have d5:=below_alloc w4 (.cells #[.int .i64 op2,.int .i64 n2,.string s2,.slice ao2 la2 ca2] 24)
     have f5:=four_new w4 (.int .i64 op2) (.int .i64 n2) (.string s2) (.slice ao2 la2 ca2) 24
     have z5:=alloc_size w4 (.cells #[.int .i64 op2,.int .i64 n2,.string s2,.slice ao2 la2 ca2] 24)
     obtain⟨w5,hw5⟩:∃ x,w4.alloc (.cells #[.int .i64 op2,.int .i64 n2,.string s2,.slice ao2 la2 ca2] 24)=x:=⟨_,rfl⟩
     rw[hw5] at d5 f5 z5
     obtain⟨-,y0,y1,y2,y3,-⟩:=f5
     have d6:=below_alloc w5 (.cells #[.int .i64 op2,.int .i64 n2,.string s2,.slice ao2 la2 ca2] 24)
     have f6:=four_news w5 (.int .i64 op2) (.int .i64 n2) (.string s2) (.slice ao2 la2 ca2) 24
     have z6:=alloc_size w5 (.cells #[.int .i64 op2,.int .i64 n2,.string s2,.slice ao2 la2 ca2] 24)
     obtain⟨w6,hw6⟩:∃ x,w5.alloc (.cells #[.int .i64 op2,.int .i64 n2,.string s2,.slice ao2 la2 ca2] 24)=x:=⟨_,rfl⟩
     rw[hw6] at d6 f6 z6
     rw[z5] at f6
     have d46:=below_to d5 d6
     have HRv:=hid ((HRR.out.away a2 (by have:=HGL.out;omega)).later d46)
     have hE5:=(HE.out.away a2 (by have:=HGL.out;omega)).later d5
     have HEv:=hid (hE5.later d6)
     have HG4:=HGR.out.away a2 (by have:=HGL.out;omega)
     have hown4:=HGR.out
     obtain⟨xs4,hown4,-⟩:=hown4
     obtain⟨xs,hown,hcs⟩:=HG4.later d46
     have Av:=hid ((HAW.out.trans a2).next d46)
     have HS6:Hid ((∃ c j2,re=.ok (c,T.drop j2)∧ExIn w6 (But (w.heap.size+2) v) c (EV op2 n2 s2 (.slice ao2 la2 ca2))∧XG w0 w6 g T h cap j2 (-1))∨(∃ p j2:Nat,re=.error p∧XG w0 w6 g T h cap j2 (p:Int))):=by
      refine hid ?_
      rcases hst with ⟨c,j2,h1,h2,h3⟩ | ⟨p,j2,h1,h3⟩
      ·exact .inl ⟨c,j2,h1,(h2.later d46).wide (fun b hb _=>⟨by have:(wr).heap.size≤b:=hb;omega,fun e=>by have:=(own_blk hown4 b e).2;have:(wr).heap.size≤b:=hb;omega⟩),h3.later d46⟩
      ·exact .inr ⟨p,j2,h1,h3.later d46⟩
     obtain⟨-,x0,x1,x2,x3,-⟩:=hE5
     have HOWN:=hid hown
     have HCS:=hid hcs
     have hlen:=HLEN.out
     clear c2 hst d5 d6 d46 a2 hown hcs HG4 hown4 HRR HE HGR HAW
     go_wp2_with (at_builtin;refine wpList_append_own_at _ rfl _ _ 22 rfl (w.heap.size+2) 24 i0 _ 4 56 underlying22 hi hz0 hz1 hz2 rfl (by decide) _ _ _ rfl HOWN.out ⟨w4.heap.size+1,0,none⟩ 1 1 [.int .i64 op2,.int .i64 n2,.string s2,.slice ao2 la2 ca2] rfl rfl ?c1 ?c2 ?c3 ?c4 ?c5 ?_)
     case c1=>exact f6
     case c2=>intro u hu;simp only[List.mem_cons,List.not_mem_nil,or_false] at hu;rcases hu with rfl | rfl | rfl | rfl<;>rfl
     case c3=>unfold maxLen;omega
     case c4=>omega
     case c5=>omega
     intro v' w7 hown' hgrow hnil hat
     have hnb:∀ b,b<w.heap.size+2→some b≠v.ownBlock:=fun b hb e=>by have:=(own_blk HOWN.out b e.symm).1;omega
     have A7:=hid (away_grown Av.out hgrow (fun b hb=>by have:=(own_blk HOWN.out b hb).1;omega))
     have hE7:=four_block HEv.out (hgrow.block _ HEv.out.lt (hnb _ (by omega))) hgrow.size
     have HE7:=hid hE7
     have HR7:=hid (four_block HRv.out (hgrow.block _ HRv.out.lt (hnb _ (by omega))) hgrow.size)
     have HS7:Hid ((∃ c j2,re=.ok (c,T.drop j2)∧XG w0 w7 g T h cap j2 (-1)∧Grow w7 (w.heap.size+2) v' (es++[c]))∨(∃ p j2:Nat,re=.error p∧XG w0 w7 g T h cap j2 (p:Int))):=by
      refine hid ?_
      rcases HS6.out with ⟨c,j2,h1,h2,h3⟩ | ⟨p,j2,h1,h3⟩
      ·exact .inl ⟨c,j2,h1,h3.grown hgrow (fun b hb=>hnb b (by have:=HGL.out;omega)),Grow.snoc HCS.out h2 (by rw[hlen];exact hown') hgrow (by rw[z6,z5];exact hat)⟩
      ·exact .inr ⟨p,j2,h1,h3.grown hgrow (fun b hb=>hnb b (by have:=HGL.out;omega))⟩
     have hsl:∃ ao la ca,v'=.slice ao la ca:=by
      rcases hown'.2 with ⟨rfl,-⟩ | ⟨k,cp,cur,rfl,-⟩
      ·exact⟨_,_,_,rfl⟩
      ·exact⟨_,_,_,rfl⟩
     obtain⟨-,t0,t1,t2,t3,g0,g1,g2,g3⟩:=hE7
     obtain⟨ao7,la7,ca7,rfl⟩:=hsl
     clear hown' hgrow hat hnil HOWN HCS HS6 hnb HEv HRv Av x0 x1 x2 x3 y0 y1 y2 y3
     go_wp2_with fail
     have hgl:=HGL.out
     go_roundg (n - (j+1))
     case measure=>have:=HJM.out;omega
     case rel =>
      refine⟨j+1,by have:=HJM.out;omega,by go_num,hid ⟨A7.out.put (by omega) _ _,HR7.out.away ((Away.refl (w.heap.size+1) w7).set 3 _) (by omega),.slice ao7 la7 ca7,HE7.out.set3 _,?_⟩⟩
      rcases HS7.out with ⟨c,j2,h1,h2,h3⟩ | ⟨p,j2,h1,h3⟩
      ·exact .inl ⟨j2,es++[c],h2.put (by omega) _ _,h3.away ((Away.refl (w.heap.size+1) w7).set 3 _) (by omega),by simp[hlen],.inr ⟨by omega,by rw[← HLEN.out];exact HRE2.out _ _ h1⟩⟩
      ·exact .inr ⟨p,j2,ao7,la7,ca7,h3.put (by omega) _ _,HRE1.out _ h1,rfl⟩
    ·obtain⟨t2,ht2,hd2,-⟩:=PI.out.tok
     have hI:isS (T.drop i) [44]=decide (sgT t2=[44]):=by rw[hd2];exact isS_sg (by decide)
     rw[hd2] at hK
     have hjp:(0:Int)<(j:Int):=by omega
     have HJ1:=hid hj1
     have c1:=xmust_any w0 wr g T h cap i [44] (by decide) t2 PI.out ht2
     rcases hK.nx hj with ⟨h1,h2⟩ | ⟨h1,h2⟩
     ·have HI2:Hid (isS (T.drop i) [44]=false):=hid (by rw[hI];simp[h1])
      have HR:=hid h2
      have hta:¬ ((t2.a:Nat):Int)<0:=by omega
      have hta2:(0:Int)≤((t2.a:Nat):Int):=by omega
      clear hK hd2 ht2 hI h1 h2 hj1
      go_wp2_with fail
      refine c1.mono ?_
      rintro e wm ⟨rfl,am,qm⟩
      rw[if_neg (by rw[HI2.out];decide),if_neg (by rw[HI2.out];decide)] at qm
      obtain⟨-,x1,x2,-,-⟩:=qm.cells
      have QM:=hid qm
      have AM:=hid am
      clear c1 qm am
      go_wp2_with fail
      go_roundg (n - (j+1))
      case measure=>have:=HJM.out;omega
      case rel =>
       have hgl:=HGL.out
       obtain⟨vo,vc,hv,-⟩:=HGR.out.done
       exact⟨j+1,by have:=HJM.out;omega,by go_num,hid ⟨HAW.out.trans AM.out,HRR.out.away AM.out (by omega),v,HE.out.away AM.out (by omega),.inr ⟨t2.a,i,vo,es.length,vc,QM.out,HR.out,hv⟩⟩⟩
     ·have HI2:Hid (isS (T.drop i) [44]=true):=hid (by rw[hI];simp[h1])
      have HN:=hid h2
      clear hK hd2 ht2 hI h1 h2 hj1
      go_wp2_with fail
      refine c1.mono ?_
      rintro e wm ⟨rfl,am,qm⟩
      rw[if_pos HI2.out,if_pos HI2.out] at qm
      obtain⟨-,x1,x2,-,-⟩:=qm.cells
      replace PI:=hid qm
      replace HRR:=hid (HRR.out.away am (by have:=HGL.out;omega))
      replace HE:=hid (HE.out.away am (by have:=HGL.out;omega))
      replace HGR:=hid (HGR.out.away am (by have:=HGL.out;omega))
      replace HAW:=hid (HAW.out.trans am)
      clear c1 qm am
      have hr1:=HN.out
      obtain⟨f,hf,re,hE,hre1,hre2⟩:=hr1
      have c2:=HI.out f hf wm (i+1) re PI.out hE
      have HRE1:=hid hre1
      have HRE2:=hid hre2
      have hsv:=HAW.out.size
      have hsv2:=HE.out.lt
      clear hE hre1 hre2 HN
      go_wp2_with fail
      refine c2.mono ?_
      rintro e w4 ⟨a2,op2,n2,s2,ao2,la2,ca2,rfl,hst⟩
      have hs4:=Nat.le_trans hsv a2.size
      have d5:=below_alloc w4 (.cells #[.int .i64 op2,.int .i64 n2,.string s2,.slice ao2 la2 ca2] 24)
      have f5:=four_new w4 (.int .i64 op2) (.int .i64 n2) (.string s2) (.slice ao2 la2 ca2) 24
      have z5:=alloc_size w4 (.cells #[.int .i64 op2,.int .i64 n2,.string s2,.slice ao2 la2 ca2] 24)
      obtain⟨w5,hw5⟩:∃ x,w4.alloc (.cells #[.int .i64 op2,.int .i64 n2,.string s2,.slice ao2 la2 ca2] 24)=x:=⟨_,rfl⟩
      rw[hw5] at d5 f5 z5
      obtain⟨-,y0,y1,y2,y3,-⟩:=f5
      have d6:=below_alloc w5 (.cells #[.int .i64 op2,.int .i64 n2,.string s2,.slice ao2 la2 ca2] 24)
      have f6:=four_news w5 (.int .i64 op2) (.int .i64 n2) (.string s2) (.slice ao2 la2 ca2) 24
      have z6:=alloc_size w5 (.cells #[.int .i64 op2,.int .i64 n2,.string s2,.slice ao2 la2 ca2] 24)
      obtain⟨w6,hw6⟩:∃ x,w5.alloc (.cells #[.int .i64 op2,.int .i64 n2,.string s2,.slice ao2 la2 ca2] 24)=x:=⟨_,rfl⟩
      rw[hw6] at d6 f6 z6
      rw[z5] at f6
      have d46:=below_to d5 d6
      have HRv:=hid ((HRR.out.away a2 (by have:=HGL.out;omega)).later d46)
      have hE5:=(HE.out.away a2 (by have:=HGL.out;omega)).later d5
      have HEv:=hid (hE5.later d6)
      have HG4:=HGR.out.away a2 (by have:=HGL.out;omega)
      have hown4:=HGR.out
      obtain⟨xs4,hown4,-⟩:=hown4
      obtain⟨xs,hown,hcs⟩:=HG4.later d46
      have Av:=hid ((HAW.out.trans a2).next d46)
      have HS6:Hid ((∃ c j2,re=.ok (c,T.drop j2)∧ExIn w6 (But (w.heap.size+2) v) c (EV op2 n2 s2 (.slice ao2 la2 ca2))∧XG w0 w6 g T h cap j2 (-1))∨(∃ p j2:Nat,re=.error p∧XG w0 w6 g T h cap j2 (p:Int))):=by
       refine hid ?_
       rcases hst with ⟨c,j2,h1,h2,h3⟩ | ⟨p,j2,h1,h3⟩
       ·exact .inl ⟨c,j2,h1,(h2.later d46).wide (fun b hb _=>⟨by have:(wm).heap.size≤b:=hb;omega,fun e=>by have:=(own_blk hown4 b e).2;have:(wm).heap.size≤b:=hb;omega⟩),h3.later d46⟩
       ·exact .inr ⟨p,j2,h1,h3.later d46⟩
      obtain⟨-,x0,x1,x2,x3,-⟩:=hE5
      have HOWN:=hid hown
      have HCS:=hid hcs
      have hlen:=HLEN.out
      clear c2 hst d5 d6 d46 a2 hown hcs HG4 hown4 HRR HE HGR HAW
      go_wp2_with (at_builtin;refine wpList_append_own_at _ rfl _ _ 22 rfl (w.heap.size+2) 24 i0 _ 4 56 underlying22 hi hz0 hz1 hz2 rfl (by decide) _ _ _ rfl HOWN.out ⟨w4.heap.size+1,0,none⟩ 1 1 [.int .i64 op2,.int .i64 n2,.string s2,.slice ao2 la2 ca2] rfl rfl ?c1 ?c2 ?c3 ?c4 ?c5 ?_)
      case c1=>exact f6
      case c2=>intro u hu;simp only[List.mem_cons,List.not_mem_nil,or_false] at hu;rcases hu with rfl | rfl | rfl | rfl<;>rfl
      case c3=>unfold maxLen;omega
      case c4=>omega
      case c5=>omega
      intro v' w7 hown' hgrow hnil hat
      have hnb:∀ b,b<w.heap.size+2→some b≠v.ownBlock:=fun b hb e=>by have:=(own_blk HOWN.out b e.symm).1;omega
      have A7:=hid (away_grown Av.out hgrow (fun b hb=>by have:=(own_blk HOWN.out b hb).1;omega))
      have hE7:=four_block HEv.out (hgrow.block _ HEv.out.lt (hnb _ (by omega))) hgrow.size
      have HE7:=hid hE7
      have HR7:=hid (four_block HRv.out (hgrow.block _ HRv.out.lt (hnb _ (by omega))) hgrow.size)
      have HS7:Hid ((∃ c j2,re=.ok (c,T.drop j2)∧XG w0 w7 g T h cap j2 (-1)∧Grow w7 (w.heap.size+2) v' (es++[c]))∨(∃ p j2:Nat,re=.error p∧XG w0 w7 g T h cap j2 (p:Int))):=by
       refine hid ?_
       rcases HS6.out with ⟨c,j2,h1,h2,h3⟩ | ⟨p,j2,h1,h3⟩
       ·exact .inl ⟨c,j2,h1,h3.grown hgrow (fun b hb=>hnb b (by have:=HGL.out;omega)),Grow.snoc HCS.out h2 (by rw[hlen];exact hown') hgrow (by rw[z6,z5];exact hat)⟩
       ·exact .inr ⟨p,j2,h1,h3.grown hgrow (fun b hb=>hnb b (by have:=HGL.out;omega))⟩
      have hsl:∃ ao la ca,v'=.slice ao la ca:=by
       rcases hown'.2 with ⟨rfl,-⟩ | ⟨k,cp,cur,rfl,-⟩
       ·exact⟨_,_,_,rfl⟩
       ·exact⟨_,_,_,rfl⟩
      obtain⟨-,t0,t1,t2,t3,g0,g1,g2,g3⟩:=hE7
      obtain⟨ao7,la7,ca7,rfl⟩:=hsl
      clear hown' hgrow hat hnil HOWN HCS HS6 hnb HEv HRv Av x0 x1 x2 x3 y0 y1 y2 y3
      go_wp2_with fail
      have hgl:=HGL.out
      go_roundg (n - (j+1))
      case measure=>have:=HJM.out;omega
      case rel =>
       refine⟨j+1,by have:=HJM.out;omega,by go_num,hid ⟨A7.out.put (by omega) _ _,HR7.out.away ((Away.refl (w.heap.size+1) w7).set 3 _) (by omega),.slice ao7 la7 ca7,HE7.out.set3 _,?_⟩⟩
       rcases HS7.out with ⟨c,j2,h1,h2,h3⟩ | ⟨p,j2,h1,h3⟩
       ·exact .inl ⟨j2,es++[c],h2.put (by omega) _ _,h3.away ((Away.refl (w.heap.size+1) w7).set 3 _) (by omega),by simp[hlen],.inr ⟨by omega,by rw[← HLEN.out];exact HRE2.out _ _ h1⟩⟩
       ·exact .inr ⟨p,j2,ao7,la7,ca7,h3.put (by omega) _ _,HRE1.out _ h1,rfl⟩
   ·have hjz:¬ (j:Int)<(n:Int):=by omega
    obtain rfl:j=n:=by omega
    obtain⟨t2,ht2,hd2,-⟩:=PI.out.tok
    have hI:isS (T.drop i) [41]=decide (sgT t2=[41]):=by rw[hd2];exact isS_sg (by decide)
    have c1:=xmust_any w0 wr g T h cap i [41] (by decide) t2 PI.out ht2
    have hov:(sgT t2=[41]∧r=.ok (.mk op 0 [] es,T.drop (i+1)))∨(sgT t2≠[41]∧r=.error t2.a):=by
     rcases hK with ⟨h0,-⟩ | ⟨-,hK⟩
     ·omega
     ·rw[hd2] at hK;exact hK.over hn1
    have HOV:=hid hov
    have HI2:=hid hI
    obtain⟨vo,vc,rfl,hvc,hrow⟩:=HGR.out.done
    have HROW:=hid hrow
    have HVC:=hid hvc
    clear hK hd2 ht2 hI hov hrow hvc
    go_wp2_with fail
    refine c1.mono ?_
    rintro e wm ⟨rfl,am,qm⟩
    have hEm:=HE.out.away am (by have:=HGL.out;omega)
    have hRm:=HRR.out.away am (by have:=HGL.out;omega)
    obtain⟨-,u0,u1,u2,u3,-⟩:=hEm
    obtain⟨-,z0,z1,z2,z3,g0,g1,g2,g3⟩:=hRm
    have AM:=hid am
    have QM:=hid qm
    clear c1 am qm
    go_wp2_with fail
    have hgl:=HGL.out
    refine bodyPost_ret (v:=EV (op:Int) 0 ⟨#[]⟩ (.slice vo es.length vc)) (by simp[EV,results,results322,go_sem,z0,z1,z2,z3]) rfl ?_
    refine⟨(HAW.out.trans AM.out).put4 (Nat.le_refl _) _ _ _ _,op,0,⟨#[]⟩,vo,es.length,vc,rfl,?_⟩
    have qm:=QM.out
    rcases HOV.out with ⟨h1,h2⟩ | ⟨h1,h2⟩
    ·rw[if_pos (by rw[HI2.out];simp[h1]),if_pos (by rw[HI2.out];simp[h1])] at qm
     refine .inl ⟨_,i+1,h2,?_,qm.put4 hgl _ _ _ _⟩
     have hl:=HLEN.out
     refine ExIn.mk (s:=[]) (ks:=es) ⟨⟨by omega,by omega⟩,in64_0,by decide⟩ HVC.out (by omega) (fun h0=>?_)
     obtain⟨b,e1,e2,e3,e4⟩:=HROW.out h0
     refine⟨b,0,e1,by show w.heap.size≤b;omega,by rw[set4_size];exact Nat.lt_of_lt_of_le e3 AM.out.size,?_⟩
     exact RowIn.from (fun b hb _=>by have:w.heap.size+2≤b:=hb;show w.heap.size≤b;omega) _ _ _ (RowIn.stays (Stays.set4 wm _ _ _ _ (fun hb=>by have:w.heap.size+2≤w.heap.size:=hb;omega)) _ _ _ e2 (Nat.lt_of_lt_of_le e3 AM.out.size) (RowIn.stays (Stays.away AM.out (fun hb=>by have:w.heap.size+2≤g:=hb;omega)) _ _ _ e2 e3 e4))
    ·rw[if_neg (by rw[HI2.out];simp[h1]),if_neg (by rw[HI2.out];simp[h1])] at qm
     exact .inr ⟨t2.a,i,h2,qm.put4 hgl _ _ _ _⟩
  ·have PI:=hid pi
   obtain⟨-,x1,x2,-,-⟩:=pi.cells
   have hpn:¬ ((pp:Nat):Int)<0:=by omega
   have hpn2:(0:Int)≤((pp:Nat):Int):=by omega
   have c1:=xmust_bad w0 wr g T h cap i pp ⟨#[41]⟩ pi
   obtain⟨-,u0,u1,u2,u3,-⟩:=HE.out
   obtain⟨-,z0,z1,z2,z3,g0,g1,g2,g3⟩:=HRR.out
   clear pi hE hR
   by_cases hj:j<n
   ·have hjz:(j:Int)<(n:Int):=by omega
    go_wp2_with fail
    refine c1.mono ?_
    rintro e wm ⟨rfl,rfl⟩
    clear c1
    go_wp2_with fail
    exact bodyPost_ret (v:=EV (op:Int) 0 ⟨#[]⟩ (.slice ao la ca)) (by simp[EV,results,results322,go_sem,z0,z1,z2,z3]) rfl ⟨HAW.out.put4 (Nat.le_refl _) _ _ _ _,op,0,⟨#[]⟩,ao,la,ca,rfl,.inr ⟨pp,i,rfl,PI.out.put4 HGL.out _ _ _ _⟩⟩
   ·have hjz:¬ (j:Int)<(n:Int):=by omega
    go_wp2_with fail
    refine c1.mono ?_
    rintro e wm ⟨rfl,rfl⟩
    clear c1
    go_wp2_with fail
    exact bodyPost_ret (v:=EV (op:Int) 0 ⟨#[]⟩ (.slice ao la ca)) (by simp[EV,results,results322,go_sem,z0,z1,z2,z3]) rfl ⟨HAW.out.put4 (Nat.le_refl _) _ _ _ _,op,0,⟨#[]⟩,ao,la,ca,rfl,.inr ⟨pp,i,rfl,PI.out.put4 HGL.out _ _ _ _⟩⟩
end
section
open Lib (hid)
open _root_.Go.Proofs.Tryz
set_option maxHeartbeats 8000000
set_option maxRecDepth 100000
open Go.RowKit
theorem lit0:ByteArray.toList ⟨#[116,114,117,101]⟩=[116,114,117,101]:=by decide +kernel
theorem lit1:ByteArray.toList ⟨#[102,97,108,115,101]⟩=[102,97,108,115,101]:=by decide +kernel
theorem lit2:ByteArray.toList ⟨#[105,102]⟩=[105,102]:=by decide +kernel
theorem lit3:ByteArray.toList ⟨#[108,101,110]⟩=[108,101,110]:=by decide +kernel
theorem lit4:ByteArray.toList ⟨#[99,97,116]⟩=[99,97,116]:=by decide +kernel
theorem lit5:ByteArray.toList ⟨#[99,117,116]⟩=[99,117,116]:=by decide +kernel
theorem lit6:ByteArray.toList ⟨#[117,112]⟩=[117,112]:=by decide +kernel
theorem lit7:ByteArray.toList ⟨#[104,97,115]⟩=[104,97,115]:=by decide +kernel
theorem word_ne {s L:List UInt8} (h:¬ s=L):((⟨s.toArray⟩:ByteArray).toList == (⟨L.toArray⟩:ByteArray).toList)=false:=txt_ne (fun e=>h (by injection e with e;exact List.toArray_inj e))
theorem xword_step {w0:World} {g:Nat} {T:List Tk} {h cap F:Nat} (hX:∀ (w:World) (i op n:Nat) r,1≤n→n≤3→op≤100→XG w0 w g T h cap i (-1)→pX F op n (T.drop i)=some r→Calls prog 322 #[.pointer (some ⟨g,0,none⟩),.int .i64 (op:Int),.int .i64 (n:Int)] w (XEnd w0 w g T h cap r))
  (w:World) (i:Nat) (s:List UInt8) (r:Except Nat (Ex × List Tk)) (hsl:s.length<9223372036854775807) (p:XG w0 w g T h cap i (-1)) (hl1:i+1<T.length) (hr:pW (F+1) s (T.drop (i+1))=some r)
  (HH:s=wHas→pHas (T.drop (i+1))=some r→Calls prog 320 #[.pointer (some ⟨g,0,none⟩),.string ⟨s.toArray⟩] w (XEnd w0 w g T h cap r)):Calls prog 320 #[.pointer (some ⟨g,0,none⟩),.string ⟨s.toArray⟩] w (XEnd w0 w g T h cap r):=by
 have hgl:=p.glt
 rw[pW] at hr
 have d1:=below_alloc w (.cells #[.int .i64 0,.int .i64 0,.string ⟨#[]⟩,.slice none 0 0] 24)
 have f1:=four_new w (.int .i64 0) (.int .i64 0) (.string ⟨#[]⟩) (.slice none 0 0) 24
 have z1:=alloc_size w (.cells #[.int .i64 0,.int .i64 0,.string ⟨#[]⟩,.slice none 0 0] 24)
 obtain⟨w1,hw1⟩:∃ x,w.alloc (.cells #[.int .i64 0,.int .i64 0,.string ⟨#[]⟩,.slice none 0 0] 24)=x:=⟨_,rfl⟩
 rw[hw1] at d1 f1 z1
 have p1:=p.later d1
 obtain⟨-,y1,-,fy1,-⟩:=p1.cells
 have HP2:=hid (p1.goes (j:=i+1) (z:=(i:Int)+1) hl1 (by push_cast;rfl))
 have HF2:=hid (f1.away ((Away.refl g w1).set 1 (.int .i64 ((i:Int)+1))) (by omega))
 have HA2:=hid ((Away.of (g:=g) d1).set 1 (.int .i64 ((i:Int)+1)))
 have HV:Hid (w.heap.size<(w1.setCell ⟨g,1,none⟩ (.int .i64 ((i:Int)+1))).heap.size):=hid (by rw[set_size];omega)
 have hbig:=p.big
 have hlt:=p.lt
 have hwr:IntKind.i64.wrap ((i:Int)+1)=(i:Int)+1:=IntWalk.i64_in _ (by omega)
 have HGL:=hid hgl
 have HSL:=hid hsl
 obtain⟨-,z0,z1',z2,z3,f0',f1',f2',f3'⟩:=HF2.out
 have z1:=z1'
 clear f1 d1 p1 hgl hsl z1'
 by_cases hne0:s=wTrue
 ·have hw:=hne0
  rw[if_pos hne0] at hr
  clear hne0
  injection hr with hr
  have HR:=hid hr
  clear hr hX HH
  have hq0:((⟨s.toArray⟩:ByteArray).toList == ByteArray.toList ⟨#[116,114,117,101]⟩)=true:=by rw[hw];simp
  have hp0:=hq0
  rw[lit0] at hp0
  generalize hS:(⟨s.toArray⟩:ByteArray)=S at *
  have HS:=hid hS
  clear hS p hl1 hw
  go_enter func320,ntmps320
  go_wp2_with fail
  have hgl:=HGL.out
  refine bodyPost_ret (v:=EV 3 1 ⟨#[]⟩ (.slice none 0 0)) (by simp[EV,results,results320,go_sem,z0,z1,z2,z3]) rfl ⟨HA2.out.put4 (Nat.le_refl _) _ _ _ _,3,1,⟨#[]⟩,none,0,0,rfl,.inl ⟨_,i+1,HR.out.symm,?_,HP2.out.put4 hgl _ _ _ _⟩⟩
  exact ExIn.leaf ⟨⟨by decide,by decide⟩,⟨by decide,by decide⟩,by decide⟩
 ·rw[if_neg hne0] at hr
  by_cases hne1:s=wFalse
  ·have hw:=hne1
   rw[if_pos hne1] at hr
   clear hne1
   injection hr with hr
   have HR:=hid hr
   clear hr hX HH
   have hq0:=word_ne hne0
   have hp0:=hq0
   rw[lit0] at hp0
   have hq1:((⟨s.toArray⟩:ByteArray).toList == ByteArray.toList ⟨#[102,97,108,115,101]⟩)=true:=by rw[hw];simp
   have hp1:=hq1
   rw[lit1] at hp1
   generalize hS:(⟨s.toArray⟩:ByteArray)=S at *
   have HS:=hid hS
   clear hS p hl1 hne0 hw
   go_enter func320,ntmps320
   go_wp2_with fail
   have hgl:=HGL.out
   refine bodyPost_ret (v:=EV 3 0 ⟨#[]⟩ (.slice none 0 0)) (by simp[EV,results,results320,go_sem,z0,z1,z2,z3]) rfl ⟨HA2.out.put4 (Nat.le_refl _) _ _ _ _,3,0,⟨#[]⟩,none,0,0,rfl,.inl ⟨_,i+1,HR.out.symm,?_,HP2.out.put4 hgl _ _ _ _⟩⟩
   exact ExIn.leaf ⟨⟨by decide,by decide⟩,⟨by decide,by decide⟩,by decide⟩
  ·rw[if_neg hne1] at hr
   by_cases hne2:s=wIf
   ·have hw:=hne2
    rw[if_pos hne2] at hr
    clear hne2
    have c1:=hX _ (i+1) 18 3 r (by decide) (by decide) (by decide) HP2.out hr
    clear hr hX HH
    have hq0:=word_ne hne0
    have hp0:=hq0
    rw[lit0] at hp0
    have hq1:=word_ne hne1
    have hp1:=hq1
    rw[lit1] at hp1
    have hq2:((⟨s.toArray⟩:ByteArray).toList == ByteArray.toList ⟨#[105,102]⟩)=true:=by rw[hw];simp
    have hp2:=hq2
    rw[lit2] at hp2
    generalize hS:(⟨s.toArray⟩:ByteArray)=S at *
    have HS:=hid hS
    clear hS p hl1 hne0 hne1 hw
    go_enter func320,ntmps320
    go_wp2_with fail
    refine c1.mono ?_
    rintro e w4 ⟨a2,op,n,s2,ao,la,ca,rfl,hst⟩
    have hR4:=HF2.out.away a2 (by have:=HGL.out;omega)
    have HR4:=hid hR4
    obtain⟨-,t0,t1,t2,t3,g0,g1,g2,g3⟩:=hR4
    have HST:=hid hst
    have AA:=hid a2
    clear c1 hst a2 z0 z1 z2 z3
    go_wp2_with fail
    exact bodyPost_ret (v:=EV op n s2 (.slice ao la ca)) (by simp[EV,results,results320,go_sem,t0,t1,t2,t3]) rfl (xend_set HA2.out HGL.out HV.out AA.out HST.out _ _ _ _)
   ·rw[if_neg hne2] at hr
    by_cases hne3:s=wLen
    ·have hw:=hne3
     rw[if_pos hne3] at hr
     clear hne3
     have c1:=hX _ (i+1) 19 1 r (by decide) (by decide) (by decide) HP2.out hr
     clear hr hX HH
     have hq0:=word_ne hne0
     have hp0:=hq0
     rw[lit0] at hp0
     have hq1:=word_ne hne1
     have hp1:=hq1
     rw[lit1] at hp1
     have hq2:=word_ne hne2
     have hp2:=hq2
     rw[lit2] at hp2
     have hq3:((⟨s.toArray⟩:ByteArray).toList == ByteArray.toList ⟨#[108,101,110]⟩)=true:=by rw[hw];simp
     have hp3:=hq3
     rw[lit3] at hp3
     generalize hS:(⟨s.toArray⟩:ByteArray)=S at *
     have HS:=hid hS
     clear hS p hl1 hne0 hne1 hne2 hw
     go_enter func320,ntmps320
     go_wp2_with fail
     refine c1.mono ?_
     rintro e w4 ⟨a2,op,n,s2,ao,la,ca,rfl,hst⟩
     have hR4:=HF2.out.away a2 (by have:=HGL.out;omega)
     have HR4:=hid hR4
     obtain⟨-,t0,t1,t2,t3,g0,g1,g2,g3⟩:=hR4
     have HST:=hid hst
     have AA:=hid a2
     clear c1 hst a2 z0 z1 z2 z3
     go_wp2_with fail
     exact bodyPost_ret (v:=EV op n s2 (.slice ao la ca)) (by simp[EV,results,results320,go_sem,t0,t1,t2,t3]) rfl (xend_set HA2.out HGL.out HV.out AA.out HST.out _ _ _ _)
    ·rw[if_neg hne3] at hr
     by_cases hne4:s=wCat
     ·have hw:=hne4
      rw[if_pos hne4] at hr
      clear hne4
      have c1:=hX _ (i+1) 20 2 r (by decide) (by decide) (by decide) HP2.out hr
      clear hr hX HH
      have hq0:=word_ne hne0
      have hp0:=hq0
      rw[lit0] at hp0
      have hq1:=word_ne hne1
      have hp1:=hq1
      rw[lit1] at hp1
      have hq2:=word_ne hne2
      have hp2:=hq2
      rw[lit2] at hp2
      have hq3:=word_ne hne3
      have hp3:=hq3
      rw[lit3] at hp3
      have hq4:((⟨s.toArray⟩:ByteArray).toList == ByteArray.toList ⟨#[99,97,116]⟩)=true:=by rw[hw];simp
      have hp4:=hq4
      rw[lit4] at hp4
      generalize hS:(⟨s.toArray⟩:ByteArray)=S at *
      have HS:=hid hS
      clear hS p hl1 hne0 hne1 hne2 hne3 hw
      go_enter func320,ntmps320
      go_wp2_with fail
      refine c1.mono ?_
      rintro e w4 ⟨a2,op,n,s2,ao,la,ca,rfl,hst⟩
      have hR4:=HF2.out.away a2 (by have:=HGL.out;omega)
      have HR4:=hid hR4
      obtain⟨-,t0,t1,t2,t3,g0,g1,g2,g3⟩:=hR4
      have HST:=hid hst
      have AA:=hid a2
      clear c1 hst a2 z0 z1 z2 z3
      go_wp2_with fail
      exact bodyPost_ret (v:=EV op n s2 (.slice ao la ca)) (by simp[EV,results,results320,go_sem,t0,t1,t2,t3]) rfl (xend_set HA2.out HGL.out HV.out AA.out HST.out _ _ _ _)
     ·rw[if_neg hne4] at hr
      by_cases hne5:s=wCut
      ·have hw:=hne5
       rw[if_pos hne5] at hr
       clear hne5
       have c1:=hX _ (i+1) 21 2 r (by decide) (by decide) (by decide) HP2.out hr
       clear hr hX HH
       have hq0:=word_ne hne0
       have hp0:=hq0
       rw[lit0] at hp0
       have hq1:=word_ne hne1
       have hp1:=hq1
       rw[lit1] at hp1
       have hq2:=word_ne hne2
       have hp2:=hq2
       rw[lit2] at hp2
       have hq3:=word_ne hne3
       have hp3:=hq3
       rw[lit3] at hp3
       have hq4:=word_ne hne4
       have hp4:=hq4
       rw[lit4] at hp4
       have hq5:((⟨s.toArray⟩:ByteArray).toList == ByteArray.toList ⟨#[99,117,116]⟩)=true:=by rw[hw];simp
       have hp5:=hq5
       rw[lit5] at hp5
       generalize hS:(⟨s.toArray⟩:ByteArray)=S at *
       have HS:=hid hS
       clear hS p hl1 hne0 hne1 hne2 hne3 hne4 hw
       go_enter func320,ntmps320
       go_wp2_with fail
       refine c1.mono ?_
       rintro e w4 ⟨a2,op,n,s2,ao,la,ca,rfl,hst⟩
       have hR4:=HF2.out.away a2 (by have:=HGL.out;omega)
       have HR4:=hid hR4
       obtain⟨-,t0,t1,t2,t3,g0,g1,g2,g3⟩:=hR4
       have HST:=hid hst
       have AA:=hid a2
       clear c1 hst a2 z0 z1 z2 z3
       go_wp2_with fail
       exact bodyPost_ret (v:=EV op n s2 (.slice ao la ca)) (by simp[EV,results,results320,go_sem,t0,t1,t2,t3]) rfl (xend_set HA2.out HGL.out HV.out AA.out HST.out _ _ _ _)
      ·rw[if_neg hne5] at hr
       by_cases hne6:s=wUp
       ·have hw:=hne6
        rw[if_pos hne6] at hr
        clear hne6
        have c1:=hX _ (i+1) 23 1 r (by decide) (by decide) (by decide) HP2.out hr
        clear hr hX HH
        have hq0:=word_ne hne0
        have hp0:=hq0
        rw[lit0] at hp0
        have hq1:=word_ne hne1
        have hp1:=hq1
        rw[lit1] at hp1
        have hq2:=word_ne hne2
        have hp2:=hq2
        rw[lit2] at hp2
        have hq3:=word_ne hne3
        have hp3:=hq3
        rw[lit3] at hp3
        have hq4:=word_ne hne4
        have hp4:=hq4
        rw[lit4] at hp4
        have hq5:=word_ne hne5
        have hp5:=hq5
        rw[lit5] at hp5
        have hq6:((⟨s.toArray⟩:ByteArray).toList == ByteArray.toList ⟨#[117,112]⟩)=true:=by rw[hw];simp
        have hp6:=hq6
        rw[lit6] at hp6
        generalize hS:(⟨s.toArray⟩:ByteArray)=S at *
        have HS:=hid hS
        clear hS p hl1 hne0 hne1 hne2 hne3 hne4 hne5 hw
        go_enter func320,ntmps320
        go_wp2_with fail
        refine c1.mono ?_
        rintro e w4 ⟨a2,op,n,s2,ao,la,ca,rfl,hst⟩
        have hR4:=HF2.out.away a2 (by have:=HGL.out;omega)
        have HR4:=hid hR4
        obtain⟨-,t0,t1,t2,t3,g0,g1,g2,g3⟩:=hR4
        have HST:=hid hst
        have AA:=hid a2
        clear c1 hst a2 z0 z1 z2 z3
        go_wp2_with fail
        exact bodyPost_ret (v:=EV op n s2 (.slice ao la ca)) (by simp[EV,results,results320,go_sem,t0,t1,t2,t3]) rfl (xend_set HA2.out HGL.out HV.out AA.out HST.out _ _ _ _)
       ·rw[if_neg hne6] at hr
        by_cases hne7:s=wHas
        ·have hw:=hne7
         rw[if_pos hne7] at hr
         clear hne7
         exact HH hw hr
        ·rw[if_neg hne7] at hr
         injection hr with hr
         have HR:=hid hr
         clear hr hX HH
         have hq0:=word_ne hne0
         have hp0:=hq0
         rw[lit0] at hp0
         have hq1:=word_ne hne1
         have hp1:=hq1
         rw[lit1] at hp1
         have hq2:=word_ne hne2
         have hp2:=hq2
         rw[lit2] at hp2
         have hq3:=word_ne hne3
         have hp3:=hq3
         rw[lit3] at hp3
         have hq4:=word_ne hne4
         have hp4:=hq4
         rw[lit4] at hp4
         have hq5:=word_ne hne5
         have hp5:=hq5
         rw[lit5] at hp5
         have hq6:=word_ne hne6
         have hp6:=hq6
         rw[lit6] at hp6
         have hq7:=word_ne hne7
         have hp7:=hq7
         rw[lit7] at hp7
         generalize hS:(⟨s.toArray⟩:ByteArray)=S at *
         have HS:=hid hS
         clear hS p hl1 hne0 hne1 hne2 hne3 hne4 hne5 hne6 hne7
         go_enter func320,ntmps320
         go_wp2_with fail
         have hgl:=HGL.out
         refine bodyPost_ret (v:=EV 4 0 S (.slice none 0 0)) (by simp[EV,results,results320,go_sem,z0,z1,z2,z3]) rfl ⟨HA2.out.put4 (Nat.le_refl _) _ _ _ _,4,0,S,none,0,0,rfl,.inl ⟨_,i+1,HR.out.symm,?_,HP2.out.put4 hgl _ _ _ _⟩⟩
         rw[← HS.out];exact ExIn.leaf ⟨⟨by decide,by decide⟩,⟨by decide,by decide⟩,HSL.out⟩
end
section
open Lib (hid)
open _root_.Go.Proofs.Tryz
set_option maxHeartbeats 8000000
set_option maxRecDepth 100000
open Go.RowKit
theorem xatom_step {w0:World} {g:Nat} {T:List Tk} {h cap F:Nat} (hW:∀ (w:World) (i:Nat) (t:Tk) r,XG w0 w g T h cap i (-1)→T[i]?=some t→t.k=3→pW F t.s (T.drop (i+1))=some r→Calls prog 320 #[.pointer (some ⟨g,0,none⟩),.string ⟨t.s.toArray⟩] w (XEnd w0 w g T h cap r))
  (hO:∀ (w:World) (i:Nat) r,XG w0 w g T h cap i (-1)→pE F 0 (T.drop i)=some r→Calls prog 45 #[.pointer (some ⟨g,0,none⟩)] w (XEnd w0 w g T h cap r))
  (w:World) (i:Nat) (r:Except Nat (Ex × List Tk)) (p:XG w0 w g T h cap i (-1)) (hr:pA (F+1) (T.drop i)=some r):Calls prog 319 #[.pointer (some ⟨g,0,none⟩)] w (XEnd w0 w g T h cap r):=by
 have hgl:=p.glt
 obtain⟨t,ht,hd,-⟩:=p.tok
 have hmem:=List.mem_of_getElem? ht
 have hI:isS (T.drop i) [40]=decide (sgT t=[40]):=by rw[hd];exact isS_sg (by decide)
 have hId:isS (T.drop i) [40]=isS (t :: T.drop (i+1)) [40]:=by rw[hd]
 rw[hd,pA] at hr
 have d1:=below_alloc w (.cells #[.int .i64 0,.int .i64 0,.string ⟨#[]⟩,.slice none 0 0] 24)
 have f1:=four_new w (.int .i64 0) (.int .i64 0) (.string ⟨#[]⟩) (.slice none 0 0) 24
 have z1:=alloc_size w (.cells #[.int .i64 0,.int .i64 0,.string ⟨#[]⟩,.slice none 0 0] 24)
 obtain⟨w1,hw1⟩:∃ x,w.alloc (.cells #[.int .i64 0,.int .i64 0,.string ⟨#[]⟩,.slice none 0 0] 24)=x:=⟨_,rfl⟩
 rw[hw1] at d1 f1 z1
 have p1:=p.later d1
 have HP1:=hid p1
 have HF1:=hid f1
 have HA1:=hid (Away.of (g:=g) d1)
 have HZ1:=hid z1
 have HGL:=hid hgl
 have hbig:=p.big
 have hlt:=p.lt
 have hwr:IntKind.i64.wrap ((i:Int)+1)=(i:Int)+1:=IntWalk.i64_in _ (by omega)
 have HT:=hid ht
 have HSZ:=hid (p.good.size t hmem)
 have HNM:=hid (p.good.num t hmem)
 have HNX:=hid (fun (hk:t.k≠0)=>p.next ht hk)
 have cT:=xtok_any w0 w1 g T h cap i (-1) t p1 ht
 obtain⟨y0,y1,y2,f1,f2⟩:=p1.cells
 have HSS:=hid (rfl:(⟨t.s.toArray⟩:ByteArray)=⟨t.s.toArray⟩)
 clear d1 z1 p1 p ht hmem hgl hd
 by_cases hk1:t.k=1
 ·rw[if_pos hk1] at hr
  injection hr with hr
  have HR:=hid hr
  have HL:=hid (HNX.out (by omega))
  have hkI:((t.k:Nat):Int)=1:=by rw[hk1];rfl
  rw[hkI] at cT
  clear hr hk1 hkI hI hId hW hO
  generalize hS:(⟨t.s.toArray⟩:ByteArray)=S at *
  clear hS
  go_enter func319,ntmps319
  go_wp2_with fail
  refine cT.mono ?_
  rintro e w2 ⟨rfl,b2⟩
  have d3:=below_alloc w2 (.cells #[.int .i64 1,.string S,.int .i64 (t.n:Int),.int .i64 (t.a:Int)] 82)
  have f3:=four_new w2 (.int .i64 1) (.string S) (.int .i64 (t.n:Int)) (.int .i64 (t.a:Int)) 82
  have z3:=alloc_size w2 (.cells #[.int .i64 1,.string S,.int .i64 (t.n:Int),.int .i64 (t.a:Int)] 82)
  obtain⟨w3,hw3⟩:∃ x,w2.alloc (.cells #[.int .i64 1,.string S,.int .i64 (t.n:Int),.int .i64 (t.a:Int)] 82)=x:=⟨_,rfl⟩
  rw[hw3] at d3 f3 z3
  have d13:=below_to b2 d3
  have hs2:=b2.size
  have HF3:=hid (HF1.out.later d13)
  have p3:=HP1.out.later d13
  have HP3:=hid p3
  have HA3:=hid (HA1.out.next d13)
  have HV:Hid (w.heap.size<w3.heap.size):=hid (by have:=HZ1.out;omega)
  have HFT:=hid f3
  obtain⟨-,x1,x2,fx1,fx2⟩:=p3.cells
  obtain⟨-,k0,k1,k2,k3,-⟩:=f3
  have HF3':=HF3.out
  obtain⟨-,r0,r1,r2,r3,fr0,fr1,fr2,fr3⟩:=HF3'
  have hgl:=HGL.out
  have hz:=HZ1.out
  have hne1:w2.heap.size≠g:=by omega
  clear cT b2 d3 d13 p3 y0 y1 y2 f1 f2 hw1
  go_wp2_with fail
  have HP4:=hid (HP3.out.goes (z:=(i:Int)+1) HL.out (by push_cast;rfl))
  exact bodyPost_ret (v:=EV 1 (t.n:Int) ⟨#[]⟩ (.slice none 0 0)) (by simp[EV,results,results319,go_sem,r0,r1,r2,r3]) rfl ⟨(HA3.out.set 1 _).put4 (Nat.le_refl _) _ _ _ _,1,(t.n:Int),⟨#[]⟩,none,0,0,rfl,.inl ⟨_,i+1,HR.out.symm,ExIn.leaf ⟨⟨by decide,by decide⟩,⟨by omega,by have:=HNM.out;omega⟩,by decide⟩,HP4.out.put4 hgl _ _ _ _⟩⟩
 rw[if_neg hk1] at hr
 have hb1:((t.k:Int) == 1)=false:=by simp;omega
 have hn1:¬ (t.k:Int)=1:=by omega
 by_cases hk2:t.k=2
 ·rw[if_pos hk2] at hr
  injection hr with hr
  have HR:=hid hr
  have HL:=hid (HNX.out (by omega))
  have hkI:((t.k:Nat):Int)=2:=by rw[hk2];rfl
  rw[hkI] at cT
  clear hr hk1 hk2 hkI hI hId hW hO hb1 hn1
  generalize hS:(⟨t.s.toArray⟩:ByteArray)=S at *
  have HS:=hid hS
  clear hS
  go_enter func319,ntmps319
  go_wp2_with fail
  refine cT.mono ?_
  rintro e w2 ⟨rfl,b2⟩
  have d3:=below_alloc w2 (.cells #[.int .i64 2,.string S,.int .i64 (t.n:Int),.int .i64 (t.a:Int)] 82)
  have f3:=four_new w2 (.int .i64 2) (.string S) (.int .i64 (t.n:Int)) (.int .i64 (t.a:Int)) 82
  have z3:=alloc_size w2 (.cells #[.int .i64 2,.string S,.int .i64 (t.n:Int),.int .i64 (t.a:Int)] 82)
  obtain⟨w3,hw3⟩:∃ x,w2.alloc (.cells #[.int .i64 2,.string S,.int .i64 (t.n:Int),.int .i64 (t.a:Int)] 82)=x:=⟨_,rfl⟩
  rw[hw3] at d3 f3 z3
  have d13:=below_to b2 d3
  have hs2:=b2.size
  have HF3:=hid (HF1.out.later d13)
  have p3:=HP1.out.later d13
  have HP3:=hid p3
  have HA3:=hid (HA1.out.next d13)
  have HV:Hid (w.heap.size<w3.heap.size):=hid (by have:=HZ1.out;omega)
  have HFT:=hid f3
  obtain⟨-,x1,x2,fx1,fx2⟩:=p3.cells
  obtain⟨-,k0,k1,k2,k3,-⟩:=f3
  have HF3':=HF3.out
  obtain⟨-,r0,r1,r2,r3,fr0,fr1,fr2,fr3⟩:=HF3'
  have hgl:=HGL.out
  have hz:=HZ1.out
  have hne1:w2.heap.size≠g:=by omega
  clear cT b2 d3 d13 p3 y0 y1 y2 f1 f2 hw1
  go_wp2_with fail
  have HP4:=hid (HP3.out.goes (z:=(i:Int)+1) HL.out (by push_cast;rfl))
  exact bodyPost_ret (v:=EV 2 0 S (.slice none 0 0)) (by simp[EV,results,results319,go_sem,r0,r1,r2,r3]) rfl ⟨(HA3.out.set 1 _).put4 (Nat.le_refl _) _ _ _ _,2,0,S,none,0,0,rfl,.inl ⟨_,i+1,HR.out.symm,by rw[← HS.out];exact ExIn.leaf ⟨⟨by decide,by decide⟩,in64_0,by have:=HSZ.out;omega⟩,HP4.out.put4 hgl _ _ _ _⟩⟩
 rw[if_neg hk2] at hr
 have hb2:((t.k:Int) == 2)=false:=by simp;omega
 have hn2:¬ (t.k:Int)=2:=by omega
 by_cases hk3:t.k=3
 ·rw[if_pos hk3] at hr
  have HW:=hid (fun w' (q:XG w0 w' g T h cap i (-1))=>hW w' i t r q HT.out hk3 hr)
  have hkI:((t.k:Nat):Int)=3:=by rw[hk3];rfl
  rw[hkI] at cT
  clear hr hk1 hk2 hk3 hkI hI hId hW hO hb1 hn1 hb2 hn2
  generalize hS:(⟨t.s.toArray⟩:ByteArray)=S at *
  clear hS
  go_enter func319,ntmps319
  go_wp2_with fail
  refine cT.mono ?_
  rintro e w2 ⟨rfl,b2⟩
  have d3:=below_alloc w2 (.cells #[.int .i64 3,.string S,.int .i64 (t.n:Int),.int .i64 (t.a:Int)] 82)
  have f3:=four_new w2 (.int .i64 3) (.string S) (.int .i64 (t.n:Int)) (.int .i64 (t.a:Int)) 82
  have z3:=alloc_size w2 (.cells #[.int .i64 3,.string S,.int .i64 (t.n:Int),.int .i64 (t.a:Int)] 82)
  obtain⟨w3,hw3⟩:∃ x,w2.alloc (.cells #[.int .i64 3,.string S,.int .i64 (t.n:Int),.int .i64 (t.a:Int)] 82)=x:=⟨_,rfl⟩
  rw[hw3] at d3 f3 z3
  have d13:=below_to b2 d3
  have hs2:=b2.size
  have HF3:=hid (HF1.out.later d13)
  have p3:=HP1.out.later d13
  have HP3:=hid p3
  have HA3:=hid (HA1.out.next d13)
  have HV:Hid (w.heap.size<w3.heap.size):=hid (by have:=HZ1.out;omega)
  have HFT:=hid f3
  obtain⟨-,x1,x2,fx1,fx2⟩:=p3.cells
  obtain⟨-,k0,k1,k2,k3,-⟩:=f3
  have HF3':=HF3.out
  obtain⟨-,r0,r1,r2,r3,fr0,fr1,fr2,fr3⟩:=HF3'
  have hgl:=HGL.out
  have hz:=HZ1.out
  have hne1:w2.heap.size≠g:=by omega
  clear cT b2 d3 d13 p3 y0 y1 y2 f1 f2 hw1
  have c2:=HW.out w3 HP3.out
  go_wp2_with fail
  refine c2.mono ?_
  rintro e w4 ⟨a2,op,n,s2,ao,la,ca,rfl,hst⟩
  have hR4:=HF3.out.away a2 (by omega)
  clear r0 r1 r2 r3 fr0 fr1 fr2 fr3
  obtain⟨-,r0,r1,r2,r3,fr0,fr1,fr2,fr3⟩:=hR4
  have HST:=hid hst
  have AA:=hid a2
  clear c2 hst a2
  go_wp2_with fail
  exact bodyPost_ret (v:=EV op n s2 (.slice ao la ca)) (by simp[EV,results,results319,go_sem,r0,r1,r2,r3]) rfl (xend_set HA3.out HGL.out HV.out AA.out HST.out _ _ _ _)
 rw[if_neg hk3] at hr
 have hb3:((t.k:Int) == 3)=false:=by simp;omega
 have hn3:¬ (t.k:Int)=3:=by omega
 cases hq:isS (T.drop i) [40] with
 | false =>
  rw[← hId,hq,if_neg (by decide)] at hr
  injection hr with hr
  have HR:=hid hr
  have HQ:=hid hq
  clear hr hk1 hk2 hk3 hI hId hW hO hq
  generalize hS:(⟨t.s.toArray⟩:ByteArray)=S at *
  clear hS
  go_enter func319,ntmps319
  go_wp2_with fail
  refine cT.mono ?_
  rintro e w2 ⟨rfl,b2⟩
  have d3:=below_alloc w2 (.cells #[.int .i64 (t.k:Int),.string S,.int .i64 (t.n:Int),.int .i64 (t.a:Int)] 82)
  have f3:=four_new w2 (.int .i64 (t.k:Int)) (.string S) (.int .i64 (t.n:Int)) (.int .i64 (t.a:Int)) 82
  have z3:=alloc_size w2 (.cells #[.int .i64 (t.k:Int),.string S,.int .i64 (t.n:Int),.int .i64 (t.a:Int)] 82)
  obtain⟨w3,hw3⟩:∃ x,w2.alloc (.cells #[.int .i64 (t.k:Int),.string S,.int .i64 (t.n:Int),.int .i64 (t.a:Int)] 82)=x:=⟨_,rfl⟩
  rw[hw3] at d3 f3 z3
  have d13:=below_to b2 d3
  have hs2:=b2.size
  have HF3:=hid (HF1.out.later d13)
  have p3:=HP1.out.later d13
  have HP3:=hid p3
  have HA3:=hid (HA1.out.next d13)
  have HV:Hid (w.heap.size<w3.heap.size):=hid (by have:=HZ1.out;omega)
  have HFT:=hid f3
  obtain⟨-,x1,x2,fx1,fx2⟩:=p3.cells
  obtain⟨-,k0,k1,k2,k3,-⟩:=f3
  have HF3':=HF3.out
  obtain⟨-,r0,r1,r2,r3,fr0,fr1,fr2,fr3⟩:=HF3'
  have hgl:=HGL.out
  have hz:=HZ1.out
  have hne1:w2.heap.size≠g:=by omega
  clear cT b2 d3 d13 p3 y0 y1 y2 f1 f2 hw1
  have c1:=xsign_any w0 w3 g T h cap i [40] (by decide) HP3.out
  go_wp2_with fail
  refine c1.mono ?_
  unfold SgE
  rw[HQ.out]
  rintro e w4 ⟨rfl,a4,q4⟩
  replace q4:XG w0 w4 g T h cap i (-1):=by simpa using q4
  have c2:=xwrong_any w0 w4 g T h cap i t q4 HT.out
  have A4:=hid a4
  have hR4:=HF3.out.away a4 (by omega)
  have HR4:=hid hR4
  clear c1 a4 q4 r0 r1 r2 r3 fr0 fr1 fr2 fr3 hR4
  go_wp2_with fail
  refine c2.mono ?_
  rintro e w5 ⟨rfl,a5,q5⟩
  have hR5:=HR4.out.away a5 (by omega)
  obtain⟨-,r0,r1,r2,r3,fr0,fr1,fr2,fr3⟩:=hR5
  have A5:=hid a5
  have Q5:=hid q5
  clear c2 a5 q5
  go_wp2_with fail
  exact bodyPost_ret (v:=EV 0 0 ⟨#[]⟩ (.slice none 0 0)) (by simp[EV,results,results319,go_sem,r0,r1,r2,r3]) rfl ⟨((HA3.out.trans A4.out).trans A5.out).put4 (Nat.le_refl _) _ _ _ _,0,0,⟨#[]⟩,none,0,0,rfl,.inr ⟨t.a,i,HR.out.symm,Q5.out.put4 hgl _ _ _ _⟩⟩
 | true =>
  rw[← hId,hq,if_pos rfl] at hr
  cases hp:pE F 0 (T.drop (i+1)) with
  | none=>rw[hp] at hr;cases hr
  | some r2 =>
  rw[hp] at hr
  have HR:=hid hr
  have HQ:=hid hq
  have HO:=hid (fun w' (q:XG w0 w' g T h cap (i+1) (-1))=>hO w' (i+1) r2 q hp)
  clear hr hk1 hk2 hk3 hI hId hW hO hq hp
  generalize hS:(⟨t.s.toArray⟩:ByteArray)=S at *
  clear hS
  go_enter func319,ntmps319
  go_wp2_with fail
  refine cT.mono ?_
  rintro e w2 ⟨rfl,b2⟩
  have d3:=below_alloc w2 (.cells #[.int .i64 (t.k:Int),.string S,.int .i64 (t.n:Int),.int .i64 (t.a:Int)] 82)
  have f3:=four_new w2 (.int .i64 (t.k:Int)) (.string S) (.int .i64 (t.n:Int)) (.int .i64 (t.a:Int)) 82
  have z3:=alloc_size w2 (.cells #[.int .i64 (t.k:Int),.string S,.int .i64 (t.n:Int),.int .i64 (t.a:Int)] 82)
  obtain⟨w3,hw3⟩:∃ x,w2.alloc (.cells #[.int .i64 (t.k:Int),.string S,.int .i64 (t.n:Int),.int .i64 (t.a:Int)] 82)=x:=⟨_,rfl⟩
  rw[hw3] at d3 f3 z3
  have d13:=below_to b2 d3
  have hs2:=b2.size
  have HF3:=hid (HF1.out.later d13)
  have p3:=HP1.out.later d13
  have HP3:=hid p3
  have HA3:=hid (HA1.out.next d13)
  have HV:Hid (w.heap.size<w3.heap.size):=hid (by have:=HZ1.out;omega)
  have HFT:=hid f3
  obtain⟨-,x1,x2,fx1,fx2⟩:=p3.cells
  obtain⟨-,k0,k1,k2,k3,-⟩:=f3
  have HF3':=HF3.out
  obtain⟨-,r0,r1,r2,r3,fr0,fr1,fr2,fr3⟩:=HF3'
  have hgl:=HGL.out
  have hz:=HZ1.out
  have hne1:w2.heap.size≠g:=by omega
  clear cT b2 d3 d13 p3 y0 y1 y2 f1 f2 hw1
  have c1:=xsign_any w0 w3 g T h cap i [40] (by decide) HP3.out
  go_wp2_with fail
  refine c1.mono ?_
  unfold SgE
  rw[HQ.out]
  rintro e w4 ⟨rfl,a4,q4⟩
  replace q4:XG w0 w4 g T h cap (i+1) (-1):=by simpa using q4
  have c2:=HO.out w4 q4
  have A4:=hid (HA3.out.trans a4)
  have HV4:Hid (w.heap.size<w4.heap.size):=hid (Nat.lt_of_lt_of_le HV.out a4.size)
  have HR4:=hid (HF3.out.away a4 (by omega))
  clear c1 a4 q4 r0 r1 r2 r3 fr0 fr1 fr2 fr3
  go_wp2_with fail
  refine c2.mono ?_
  rintro e w5 ⟨a5,op2,n2,s2,ao2,la2,ca2,rfl,hst⟩
  have hs5:=a5.size
  have d6:=below_alloc w5 (.cells #[.int .i64 op2,.int .i64 n2,.string s2,.slice ao2 la2 ca2] 24)
  have f6:=four_new w5 (.int .i64 op2) (.int .i64 n2) (.string s2) (.slice ao2 la2 ca2) 24
  obtain⟨w6,hw6⟩:∃ x,w5.alloc (.cells #[.int .i64 op2,.int .i64 n2,.string s2,.slice ao2 la2 ca2] 24)=x:=⟨_,rfl⟩
  rw[hw6] at d6 f6
  have HR6:=hid ((HR4.out.away a5 (by omega)).later d6)
  have A6:=hid (a5.next d6)
  have F6:=hid f6
  have HVV:=HV4.out
  rcases hst with ⟨c,j,rfl,hx,pj⟩ | ⟨pp,j,rfl,pj⟩
  ·have p6:=pj.later d6
   have HX6:=hid (hx.later d6)
   obtain⟨t2,ht2,hd2,-⟩:=p6.tok
   have c3:=xmust_any w0 w6 g T h cap j [41] (by decide) t2 p6 ht2
   have HI2:Hid (isS (T.drop j) [41]=decide (sgT t2=[41])):=hid (by rw[hd2];exact isS_sg (by decide))
   have HRR:Hid ((isS (T.drop j) [41]=true∧r=.ok (c,T.drop (j+1)))∨(isS (T.drop j) [41]=false∧r=.error t2.a)):=by
    have h1:=HR.out
    rw[bnd_ok rfl] at h1
    dsimp only at h1
    unfold mustS at h1
    cases hm:isS (T.drop j) [41] with
    | true=>rw[hm,if_pos rfl,bnd_ok rfl,List.tail_drop] at h1;injection h1 with h1;exact hid (.inl ⟨rfl,h1.symm⟩)
    | false =>
     rw[hm,if_neg (by decide),bnd_err rfl] at h1
     injection h1 with h1
     refine hid (.inr ⟨rfl,?_⟩)
     rw[← h1,hd2];rfl
   clear c2 hx pj a5 d6 f6 p6 ht2 hd2 k0 k1 k2 k3
   go_wp2_with fail
   refine c3.mono ?_
   rintro e w7 ⟨rfl,a7,q7⟩
   have hR7:=HR6.out.away a7 (by omega)
   obtain⟨-,r0,r1,r2,r3,fr0,fr1,fr2,fr3⟩:=hR7
   have hF7:=F6.out.away a7 (by omega)
   obtain⟨-,y0,y1,y2,y3,-⟩:=hF7
   have A7:=hid a7
   have Q7:=hid q7
   clear c3 a7 q7
   go_wp2_with fail
   refine bodyPost_ret (v:=EV op2 n2 s2 (.slice ao2 la2 ca2)) (by simp[EV,results,results319,go_sem,r0,r1,r2,r3]) rfl (xend_set A4.out hgl HV4.out (A6.out.trans A7.out) ?_ _ _ _ _)
   have q7:=Q7.out
   rcases HRR.out with ⟨h1,h2⟩ | ⟨h1,h2⟩
   ·rw[if_pos h1,if_pos h1] at q7
    exact .inl ⟨c,j+1,h2,HX6.out.keep (Stays.away A7.out (fun hb=>by have:w4.heap.size≤g:=hb;omega)),q7⟩
   ·rw[if_neg (by rw[h1];decide),if_neg (by rw[h1];decide)] at q7
    exact .inr ⟨t2.a,j,h2,q7⟩
  ·have p6:=pj.later d6
   have P6:=hid p6
   have c3:=xmust_bad w0 w6 g T h cap j pp ⟨#[41]⟩ p6
   have HRR:Hid (r=.error pp):=by
    have h1:=HR.out
    rw[bnd_err rfl] at h1
    injection h1 with h1
    exact hid h1.symm
   obtain⟨-,y0,y1,y2,y3,-⟩:=f6
   have hR6:=HR6.out
   obtain⟨-,r0,r1,r2,r3,fr0,fr1,fr2,fr3⟩:=hR6
   clear c2 pj a5 d6 p6 k0 k1 k2 k3
   go_wp2_with fail
   refine c3.mono ?_
   rintro e w7 ⟨rfl,rfl⟩
   clear c3
   go_wp2_with fail
   exact bodyPost_ret (v:=EV op2 n2 s2 (.slice ao2 la2 ca2)) (by simp[EV,results,results319,go_sem,r0,r1,r2,r3]) rfl (xend_set A4.out hgl HV4.out A6.out (.inr ⟨pp,j,HRR.out,P6.out⟩) _ _ _ _)
end
section
open Lib (hid)
open _root_.Go.Proofs.Tryz
set_option maxHeartbeats 8000000
set_option maxRecDepth 100000
open Go.RowKit
theorem xhas_step {w0:World} {g:Nat} {T:List Tk} {h cap:Nat}
  (w:World) (i:Nat) (s:List UInt8) (r:Except Nat (Ex × List Tk)) (p:XG w0 w g T h cap i (-1)) (hl1:i+1<T.length) (hw:s=wHas) (hr:pHas (T.drop (i+1))=some r) :
  Calls prog 320 #[.pointer (some ⟨g,0,none⟩),.string ⟨s.toArray⟩] w (XEnd w0 w g T h cap r):=by
 have hgl:=p.glt
 have d1:=below_alloc w (.cells #[.int .i64 0,.int .i64 0,.string ⟨#[]⟩,.slice none 0 0] 24)
 have f1:=four_new w (.int .i64 0) (.int .i64 0) (.string ⟨#[]⟩) (.slice none 0 0) 24
 have zz1:=alloc_size w (.cells #[.int .i64 0,.int .i64 0,.string ⟨#[]⟩,.slice none 0 0] 24)
 obtain⟨w1,hw1⟩:∃ x,w.alloc (.cells #[.int .i64 0,.int .i64 0,.string ⟨#[]⟩,.slice none 0 0] 24)=x:=⟨_,rfl⟩
 rw[hw1] at d1 f1 zz1
 have p1:=p.later d1
 obtain⟨-,y1,-,fy1,-⟩:=p1.cells
 have p2:=p1.goes (j:=i+1) (z:=(i:Int)+1) hl1 (by push_cast;rfl)
 have HF2:=hid (f1.away ((Away.refl g w1).set 1 (.int .i64 ((i:Int)+1))) (by omega))
 have HA2:=hid ((Away.of (g:=g) d1).set 1 (.int .i64 ((i:Int)+1)))
 have HV:Hid (w.heap.size<(w1.setCell ⟨g,1,none⟩ (.int .i64 ((i:Int)+1))).heap.size):=hid (by rw[set_size];omega)
 have hbig:=p.big
 have hlt:=p.lt
 have hwr:IntKind.i64.wrap ((i:Int)+1)=(i:Int)+1:=IntWalk.i64_in _ (by omega)
 have HGL:=hid hgl
 obtain⟨t1,ht1,hd1,-⟩:=p2.tok
 have c1:=xmust_any w0 _ g T h cap (i+1) [40] (by decide) t1 p2 ht1
 have hq0:=word_ne (s:=s) (L:=[116,114,117,101]) (by rw[hw];decide)
 have hp0:=hq0
 rw[lit0] at hp0
 have hq1:=word_ne (s:=s) (L:=[102,97,108,115,101]) (by rw[hw];decide)
 have hp1:=hq1
 rw[lit1] at hp1
 have hq2:=word_ne (s:=s) (L:=[105,102]) (by rw[hw];decide)
 have hp2:=hq2
 rw[lit2] at hp2
 have hq3:=word_ne (s:=s) (L:=[108,101,110]) (by rw[hw];decide)
 have hp3:=hq3
 rw[lit3] at hp3
 have hq4:=word_ne (s:=s) (L:=[99,97,116]) (by rw[hw];decide)
 have hp4:=hq4
 rw[lit4] at hp4
 have hq5:=word_ne (s:=s) (L:=[99,117,116]) (by rw[hw];decide)
 have hp5:=hq5
 rw[lit5] at hp5
 have hq6:=word_ne (s:=s) (L:=[117,112]) (by rw[hw];decide)
 have hp6:=hq6
 rw[lit6] at hp6
 have hq7:((⟨s.toArray⟩:ByteArray).toList == ByteArray.toList ⟨#[104,97,115]⟩)=true:=by rw[hw];simp
 have hp7:=hq7
 rw[lit7] at hp7
 generalize (⟨s.toArray⟩:ByteArray)=S at *
 unfold pHas mustS at hr
 cases hI:isS (T.drop (i+1)) [40] with
 | false =>
  rw[hI,if_neg (by decide),bnd_err rfl] at hr
  injection hr with hr
  have HR:Hid (r=.error t1.a):=hid (by rw[← hr,hd1];rfl)
  have HI:=hid hI
  clear hr hI p p1 p2 ht1 hd1 f1 d1 hw
  go_enter func320,ntmps320
  go_wp2_with fail
  refine c1.mono ?_
  rintro e w3 ⟨rfl,a3,q3⟩
  rw[if_neg (by rw[HI.out];decide),if_neg (by rw[HI.out];decide)] at q3
  obtain⟨-,x1,x2,-⟩:=q3.cells
  have hta:(0:Int)≤((t1.a:Nat):Int):=by omega
  have hta2:¬ ((t1.a:Nat):Int)<0:=by omega
  have hR3:=HF2.out.away a3 (by omega)
  obtain⟨-,z0,z1,z2,z3,f0',f1',f2',f3'⟩:=hR3
  have A3:=hid a3
  have Q3:=hid q3
  clear c1 a3 q3
  go_wp2_with fail
  exact bodyPost_ret (v:=EV 0 0 ⟨#[]⟩ (.slice none 0 0)) (by simp[EV,results,results320,go_sem,z0,z1,z2,z3]) rfl ⟨(HA2.out.trans A3.out).put4 (Nat.le_refl _) _ _ _ _,0,0,⟨#[]⟩,none,0,0,rfl,.inr ⟨t1.a,(i+1),HR.out,(Q3.out).put4 hgl _ _ _ _⟩⟩
 | true =>
  rw[hI,if_pos rfl,bnd_ok rfl,List.tail_drop] at hr
  have HI:=hid hI
  clear hI p p1 ht1 hd1 f1 d1 hw p2
  go_enter func320,ntmps320
  go_wp2_with fail
  refine c1.mono ?_
  rintro e w3 ⟨rfl,a3,q3⟩
  rw[if_pos HI.out,if_pos HI.out] at q3
  obtain⟨-,x1,x2,-⟩:=q3.cells
  obtain⟨t2,ht2,hd2,-⟩:=q3.tok
  have hs3:=a3.size
  have hv:=HV.out
  have HF3:=hid (HF2.out.away a3 (by omega))
  have HA3:=hid (HA2.out.trans a3)
  have Q3:=hid q3
  have HT2:=hid ht2
  have hmem:=List.mem_of_getElem? ht2
  have HSZ:=hid (q3.good.size t2 hmem)
  have HNX:=hid (fun (hk:t2.k≠0)=>q3.next ht2 hk)
  have cT:=xtok_any w0 w3 g T h cap (i+1+1) (-1) t2 q3 ht2
  rw[hd2] at hr
  dsimp only at hr
  clear c1 a3 q3 ht2 hmem hd2
  by_cases hk:t2.k=3
  ·have hkI:((t2.k:Nat):Int)=3:=by rw[hk];rfl
   rw[hkI] at cT
   obtain⟨B,hB⟩:∃ B:Bool,B=true↔(⟨t2.s.toArray⟩:ByteArray) ∈ words:=by
    by_cases h:(⟨t2.s.toArray⟩:ByteArray) ∈ words
    ·exact⟨true,by simp[h]⟩
    ·exact⟨false,by simp[h]⟩
   have cV:=fun w=>reserved_any ⟨t2.s.toArray⟩ B hB w
   have hwi:isWordL t2.s=B:=by
    have hw:=word_isL ⟨t2.s.toArray⟩
    cases B with
    | true=>exact hw.1 (hB.1 rfl)
    | false =>
     cases hi:isWordL t2.s with
     | false=>rfl
     | true=>exact absurd (hB.2 (hw.2 hi)) (by decide)
   cases B with
   | true =>
    rw[if_neg (by rw[hwi];simp)] at hr
    injection hr with hr
    have HR:=hid hr
    clear hr hwi hB hk hkI
    generalize hS2:(⟨t2.s.toArray⟩:ByteArray)=S2 at *
    clear hS2
    go_wp2_with fail
    refine cT.mono ?_
    rintro e w4 ⟨rfl,b4⟩
    have d5:=below_alloc w4 (.cells #[.int .i64 3,.string S2,.int .i64 (t2.n:Int),.int .i64 (t2.a:Int)] 82)
    have f5:=four_new w4 (.int .i64 3) (.string S2) (.int .i64 (t2.n:Int)) (.int .i64 (t2.a:Int)) 82
    obtain⟨w5,hw5⟩:∃ x,w4.alloc (.cells #[.int .i64 3,.string S2,.int .i64 (t2.n:Int),.int .i64 (t2.a:Int)] 82)=x:=⟨_,rfl⟩
    rw[hw5] at d5 f5
    have hs4:=b4.size
    have hs5:=d5.size
    have d35:=below_to b4 d5
    have P5:=hid (Q3.out.later d35)
    have F5:=hid f5
    have R5:=hid (HF3.out.later d35)
    have A5:=hid (HA3.out.next d35)
    obtain⟨-,k0,k1,k2,k3,-⟩:=f5
    clear cT b4 d5 d35
    go_wp2_with fail
    refine (cV _).mono ?_
    rintro e w6 ⟨rfl,b6⟩
    have P6:=hid (P5.out.later b6)
    have R6:=hid (R5.out.later b6)
    have A6:=hid (A5.out.next b6)
    have hs6:=b6.size
    clear b6 cV k0 k1 k2 k3
    have hgl:=HGL.out
    obtain⟨-,x1,x2,fx1,fx2⟩:=P6.out.cells
    have cW:=xwrong_any w0 w6 g T h cap (i+1+1) t2 P6.out HT2.out
    go_wp2_with fail
    refine cW.mono ?_
    rintro e w7 ⟨rfl,a7,q7⟩
    have hR7:=R6.out.away a7 (by omega)
    obtain⟨-,z0,z1,z2,z3,f0',f1',f2',f3'⟩:=hR7
    have A7:=hid a7
    have Q7:=hid q7
    clear cW a7 q7
    go_wp2_with fail
    exact bodyPost_ret (v:=EV 0 0 ⟨#[]⟩ (.slice none 0 0)) (by simp[EV,results,results320,go_sem,z0,z1,z2,z3]) rfl ⟨(A6.out.trans A7.out).put4 (Nat.le_refl _) _ _ _ _,0,0,⟨#[]⟩,none,0,0,rfl,.inr ⟨t2.a,(i+1+1),HR.out.symm,(Q7.out).put4 hgl _ _ _ _⟩⟩
   | false =>
    rw[if_pos ⟨hk,hwi⟩] at hr
    have HL:=hid (HNX.out (by omega))
    clear hwi hB hk hkI
    have HR:=hid hr
    clear hr
    generalize hS2:(⟨t2.s.toArray⟩:ByteArray)=S2 at *
    have HSS:=hid hS2
    clear hS2
    go_wp2_with fail
    refine cT.mono ?_
    rintro e w4 ⟨rfl,b4⟩
    have d5:=below_alloc w4 (.cells #[.int .i64 3,.string S2,.int .i64 (t2.n:Int),.int .i64 (t2.a:Int)] 82)
    have f5:=four_new w4 (.int .i64 3) (.string S2) (.int .i64 (t2.n:Int)) (.int .i64 (t2.a:Int)) 82
    obtain⟨w5,hw5⟩:∃ x,w4.alloc (.cells #[.int .i64 3,.string S2,.int .i64 (t2.n:Int),.int .i64 (t2.a:Int)] 82)=x:=⟨_,rfl⟩
    rw[hw5] at d5 f5
    have hs4:=b4.size
    have hs5:=d5.size
    have d35:=below_to b4 d5
    have P5:=hid (Q3.out.later d35)
    have F5:=hid f5
    have R5:=hid (HF3.out.later d35)
    have A5:=hid (HA3.out.next d35)
    obtain⟨-,k0,k1,k2,k3,-⟩:=f5
    clear cT b4 d5 d35
    go_wp2_with fail
    refine (cV _).mono ?_
    rintro e w6 ⟨rfl,b6⟩
    have p6:=P5.out.later b6
    have R6:=hid (R5.out.later b6)
    have A6:=hid (A5.out.next b6)
    have F6:=F5.out.later b6
    have hs6:=b6.size
    have hgl:=HGL.out
    obtain⟨-,x1,x2,fx1,fx2⟩:=p6.cells
    have P7:=hid (p6.goes (j:=i+1+1+1) (z:=((i+1+1:Nat):Int)+1) HL.out (by push_cast;rfl))
    have hl3:=HL.out
    have hwr2:IntKind.i64.wrap (((i+1+1:Nat):Int)+1)=((i+1+1:Nat):Int)+1:=IntWalk.i64_in _ (by omega)
    obtain⟨t3,ht3,hd3,-⟩:=P7.out.tok
    have c8:=xmust_any w0 _ g T h cap (i+1+1+1) [41] (by decide) t3 P7.out ht3
    have F7:=hid (F6.away ((Away.refl g w6).set 1 (.int .i64 (((i+1+1:Nat):Int)+1))) (by omega))
    have R7:=hid (R6.out.away ((Away.refl g w6).set 1 (.int .i64 (((i+1+1:Nat):Int)+1))) (by omega))
    have A7:=hid (A6.out.set 1 (.int .i64 (((i+1+1:Nat):Int)+1)))
    have HD3:=hid hd3
    clear b6 cV k0 k1 k2 k3 F6 p6 hd3 ht3
    generalize hII:((i+1+1:Nat):Int)=II at *
    clear hII
    go_wp2_with fail
    refine c8.mono ?_
    rintro e w8 ⟨rfl,a8,q8⟩
    have hF8:=F7.out.away a8 (by omega)
    have hR8:=R7.out.away a8 (by omega)
    obtain⟨-,k0,k1,k2,k3,-⟩:=hF8
    have A8:=hid (A7.out.trans a8)
    have hs8:=a8.size
    rw[set_size] at hs8
    have d9:=below_alloc w8 (.cells #[.int .i64 4,.int .i64 0,.string S2,.slice none 0 0] 24)
    have z9:=alloc_size w8 (.cells #[.int .i64 4,.int .i64 0,.string S2,.slice none 0 0] 24)
    have HROW:Hid (RowIn (w8.alloc (.cells #[.int .i64 4,.int .i64 0,.string S2,.slice none 0 0] 24)) (Up (w.heap.size+1)) w8.heap.size 0 [.mk 4 0 t2.s []]) :=
     hid (row_one (by rw[← HSS.out];exact ExIn.leaf ⟨⟨by decide,by decide⟩,in64_0,by have:=HSZ.out;omega⟩))
    obtain⟨w9,hw9⟩:∃ x,w8.alloc (.cells #[.int .i64 4,.int .i64 0,.string S2,.slice none 0 0] 24)=x:=⟨_,rfl⟩
    rw[hw9] at d9 z9 HROW
    have hR9:=hR8.later d9
    obtain⟨-,z0,z1,z2,z3,f0',f1',f2',f3'⟩:=hR9
    have A9:=hid (A8.out.next d9)
    have Q9:=hid (q8.later d9)
    clear c8 a8 q8 d9 hR8 x1 x2 fx1 fx2
    go_wp2_with fail
    refine bodyPost_ret (v:=EV 22 0 ⟨#[]⟩ (.slice (some ⟨w8.heap.size,0,none⟩) 1 1)) (by simp[EV,results,results320,go_sem,z0,z1,z2,z3]) rfl ?_
    refine⟨A9.out.put4 (Nat.le_refl _) _ _ _ _,22,0,⟨#[]⟩,some ⟨w8.heap.size,0,none⟩,1,1,rfl,?_⟩
    have q9:=Q9.out
    have hr:=HR.out
    cases hm:isS (T.drop (i+1+1+1)) [41] with
    | true =>
     rw[if_pos hm,if_pos hm] at q9
     rw[hm,if_pos rfl,bnd_ok rfl,List.tail_drop] at hr
     injection hr with hr
     refine .inl ⟨_,i+1+1+1+1,hr.symm,?_,q9.put4 hgl _ _ _ _⟩
     refine ex_one ⟨by decide,by decide⟩ (by show w.heap.size≤w8.heap.size;omega) (by rw[set4_size];omega) ?_
     exact row_set4 HROW.out (by omega) (by omega) (by omega) (by omega) _ _ _ _
    | false =>
     rw[if_neg (by rw[hm];decide),if_neg (by rw[hm];decide)] at q9
     rw[hm,if_neg (by decide),bnd_err rfl] at hr
     injection hr with hr
     exact .inr ⟨t3.a,i+1+1+1,by rw[← hr,HD3.out];rfl,q9.put4 hgl _ _ _ _⟩
  ·rw[if_neg (by rintro⟨h1,-⟩;exact hk h1)] at hr
   injection hr with hr
   have HR:=hid hr
   have hb3:((t2.k:Int) != 3)=true:=by simp;omega
   have hn3:¬ (t2.k:Int)=3:=by omega
   clear hr hk
   generalize hS2:(⟨t2.s.toArray⟩:ByteArray)=S2 at *
   clear hS2
   go_wp2_with fail
   refine cT.mono ?_
   rintro e w4 ⟨rfl,b4⟩
   have d5:=below_alloc w4 (.cells #[.int .i64 (t2.k:Int),.string S2,.int .i64 (t2.n:Int),.int .i64 (t2.a:Int)] 82)
   have f5:=four_new w4 (.int .i64 (t2.k:Int)) (.string S2) (.int .i64 (t2.n:Int)) (.int .i64 (t2.a:Int)) 82
   obtain⟨w5,hw5⟩:∃ x,w4.alloc (.cells #[.int .i64 (t2.k:Int),.string S2,.int .i64 (t2.n:Int),.int .i64 (t2.a:Int)] 82)=x:=⟨_,rfl⟩
   rw[hw5] at d5 f5
   have hs4:=b4.size
   have hs5:=d5.size
   have d35:=below_to b4 d5
   have P5:=hid (Q3.out.later d35)
   have F5:=hid f5
   have R5:=hid (HF3.out.later d35)
   have A5:=hid (HA3.out.next d35)
   obtain⟨-,k0,k1,k2,k3,-⟩:=f5
   clear cT b4 d5 d35
   have P6:=P5
   have R6:=R5
   have A6:=A5
   have hgl:=HGL.out
   obtain⟨-,x1,x2,fx1,fx2⟩:=P6.out.cells
   have cW:=xwrong_any w0 w5 g T h cap (i+1+1) t2 P6.out HT2.out
   go_wp2_with fail
   refine cW.mono ?_
   rintro e w7 ⟨rfl,a7,q7⟩
   have hR7:=R6.out.away a7 (by omega)
   obtain⟨-,z0,z1,z2,z3,f0',f1',f2',f3'⟩:=hR7
   have A7:=hid a7
   have Q7:=hid q7
   clear cW a7 q7
   go_wp2_with fail
   exact bodyPost_ret (v:=EV 0 0 ⟨#[]⟩ (.slice none 0 0)) (by simp[EV,results,results320,go_sem,z0,z1,z2,z3]) rfl ⟨(A6.out.trans A7.out).put4 (Nat.le_refl _) _ _ _ _,0,0,⟨#[]⟩,none,0,0,rfl,.inr ⟨t2.a,(i+1+1),HR.out.symm,(Q7.out).put4 hgl _ _ _ _⟩⟩
end
section
open _root_.Go.Proofs.Tryz
open Go.RowKit
section
variable (w0:World) (g:Nat) (T:List Tk) (h cap:Nat)
structure XAll (f:Nat):Prop where
 or:∀ (w:World) (i:Nat) r,XG w0 w g T h cap i (-1)→pE f 0 (T.drop i)=some r→Calls prog 45 #[.pointer (some ⟨g,0,none⟩)] w (XEnd w0 w g T h cap r)
 and:∀ (w:World) (i:Nat) r,XG w0 w g T h cap i (-1)→pE f 1 (T.drop i)=some r→Calls prog 98 #[.pointer (some ⟨g,0,none⟩)] w (XEnd w0 w g T h cap r)
 cmp:∀ (w:World) (i:Nat) r,XG w0 w g T h cap i (-1)→pE f 2 (T.drop i)=some r→Calls prog 186 #[.pointer (some ⟨g,0,none⟩)] w (XEnd w0 w g T h cap r)
 sum:∀ (w:World) (i:Nat) r,XG w0 w g T h cap i (-1)→pE f 3 (T.drop i)=some r→Calls prog 257 #[.pointer (some ⟨g,0,none⟩)] w (XEnd w0 w g T h cap r)
 product:∀ (w:World) (i:Nat) r,XG w0 w g T h cap i (-1)→pE f 4 (T.drop i)=some r→Calls prog 296 #[.pointer (some ⟨g,0,none⟩)] w (XEnd w0 w g T h cap r)
 five:∀ (w:World) (i:Nat) r,XG w0 w g T h cap i (-1)→pE f 5 (T.drop i)=some r→Calls prog 314 #[.pointer (some ⟨g,0,none⟩)] w (XEnd w0 w g T h cap r)
 unary:∀ (w:World) (i:Nat) r,XG w0 w g T h cap i (-1)→pU f (T.drop i)=some r→Calls prog 314 #[.pointer (some ⟨g,0,none⟩)] w (XEnd w0 w g T h cap r)
 atom:∀ (w:World) (i:Nat) r,XG w0 w g T h cap i (-1)→pA f (T.drop i)=some r→Calls prog 319 #[.pointer (some ⟨g,0,none⟩)] w (XEnd w0 w g T h cap r)
 word:∀ (w:World) (i:Nat) (t:Tk) r,XG w0 w g T h cap i (-1)→T[i]?=some t→t.k=3→pW f t.s (T.drop (i+1))=some r→Calls prog 320 #[.pointer (some ⟨g,0,none⟩),.string ⟨t.s.toArray⟩] w (XEnd w0 w g T h cap r)
 args:∀ (w:World) (i op n:Nat) r,1≤n→n≤3→op≤100→XG w0 w g T h cap i (-1)→pX f op n (T.drop i)=some r→Calls prog 322 #[.pointer (some ⟨g,0,none⟩),.int .i64 (op:Int),.int .i64 (n:Int)] w (XEnd w0 w g T h cap r)
end
theorem xall (w0:World) (g:Nat) (T:List Tk) (h cap:Nat) (f:Nat):XAll w0 g T h cap f:=by
 induction f using Nat.strongRecOn with
 | _ f ih =>
  have hA:∀ (w:World) (i op n:Nat) r,1≤n→n≤3→op≤100→XG w0 w g T h cap i (-1)→pX f op n (T.drop i)=some r→Calls prog 322 #[.pointer (some ⟨g,0,none⟩),.int .i64 (op:Int),.int .i64 (n:Int)] w (XEnd w0 w g T h cap r) :=
   fun w i op n r h1 h2 h3 p hr=>xargs_step (fun k hk=>(ih k hk).or) w i op n r h1 h2 h3 p hr
  cases f with
  | zero =>
   refine⟨?_,?_,?_,?_,?_,?_,?_,?_,?_,hA⟩
   ·intro w i r p hr;rw[pE] at hr;cases hr
   ·intro w i r p hr;rw[pE] at hr;cases hr
   ·intro w i r p hr;rw[pE] at hr;cases hr
   ·intro w i r p hr;rw[pE] at hr;cases hr
   ·intro w i r p hr;rw[pE] at hr;cases hr
   ·intro w i r p hr;rw[pE] at hr;cases hr
   ·intro w i r p hr;rw[pU] at hr;cases hr
   ·intro w i r p hr;rw[pA] at hr;cases hr
   ·intro w i t r p ht hk hr;rw[pW] at hr;cases hr
  | succ f =>
   have I:=ih f (Nat.lt_succ_self f)
   refine⟨xor_step I.and,xand_step I.cmp,xcmp_step I.sum,xsum_step I.product,xproduct_step I.five,?_,xunary_step I.unary I.atom,xatom_step I.word I.or,?_,hA⟩
   ·intro w i r p hr
    rw[pE,if_neg (by decide)] at hr
    exact I.unary w i r p hr
   ·intro w i t r p ht hk hr
    exact xword_step I.args w i t.s r (by have:=p.good.size t (List.mem_of_getElem? ht);omega) p (p.next ht (by omega)) hr (fun hw hh=>xhas_step w i t.s r p (p.next ht (by omega)) hw hh)
end
section
open Lib (hid)
open _root_.Go.Proofs.Tryz
set_option maxHeartbeats 8000000
set_option maxRecDepth 100000
open Go.RowKit
theorem rparse_bad (s:ByteArray) (p f:Nat) (hf:f=5∨f=7) (w:World) (hL:∀ w',Below w.heap.size w w'→Calls prog 44 #[.string s] w' fun e w''=>Below w'.heap.size w' w''∧e=.returned (.tuple #[.slice none 0 0,.int .i64 (p:Int),.int .i64 (f:Int)])) :
  Calls prog 20 #[.string s] w (PaEnd w (.error (p,f))):=by
 have hX:=four_new w (.int .i64 0) (.int .i64 0) (.string ⟨#[]⟩) (.slice none 0 0) 24
 have hbX:=below_alloc w (.cells #[.int .i64 0,.int .i64 0,.string ⟨#[]⟩,.slice none 0 0] 24)
 obtain⟨wX,hwX⟩:∃ wX,w.alloc (.cells #[.int .i64 0,.int .i64 0,.string ⟨#[]⟩,.slice none 0 0] 24)=wX:=⟨_,rfl⟩
 rw[hwX] at hX hbX
 have c:=hL wX hbX
 go_enter func20,ntmps20
 go_wp2_with fail
 refine c.mono ?_
 rintro e w1 ⟨b1,rfl⟩
 obtain⟨xl,x0,x1,x2,x3,f0,f1,f2,f3⟩:=hX.later b1
 have hb1:=below_to hbX b1
 have hfz:((f:Int) != 0)=true:=by rw[bne_iff_ne];omega
 clear hX hbX c hL hwX
 go_wp2_with fail
 exact bodyPost_ret (v:=.tuple #[EV 0 0 ⟨#[]⟩ (.slice none 0 0),.int .i64 (p:Int),.int .i64 (f:Int)]) (by simp[results,results20,go_sem,x0,x1,x2,x3]) rfl ⟨below_put4 hb1 (Nat.le_refl _) _ _ _ _,rfl⟩
theorem rparse_good (s:ByteArray) (ts:List Tk) (r:Except Nat (Ex × List Tk)) (w:World) (hs:s.size≤400) (hl:lexL s.data.toList=.ok ts) (hr:PE 0 (ts++[endT s.size]) r) (hE:EnvP w) :
  Calls prog 20 #[.string s] w (PaEnd w (endR r)):=by
 have hX:=four_new w (.int .i64 0) (.int .i64 0) (.string ⟨#[]⟩) (.slice none 0 0) 24
 have hbX:=below_alloc w (.cells #[.int .i64 0,.int .i64 0,.string ⟨#[]⟩,.slice none 0 0] 24)
 have hEX:=hE.later hbX
 obtain⟨wX,hwX⟩:∃ wX,w.alloc (.cells #[.int .i64 0,.int .i64 0,.string ⟨#[]⟩,.slice none 0 0] 24)=wX:=⟨_,rfl⟩
 rw[hwX] at hX hbX hEX
 have hG:=good_tokens hl hs
 have hfew:=lex_few hl
 have c:Calls prog 44 #[.string s] wX fun e w'=>Below wX.heap.size wX w'∧∃ ao cap,e=.returned (.tuple #[.slice ao (ts.length+1:Nat) cap,.int .i64 0,.int .i64 0])∧ts.length+1≤cap∧TkAt w' ao (ts++[endT s.size]) :=
  (reflex_any s wX (by omega)).mono fun e w' hh=>by
   unfold LexEnd at hh
   rw[if_neg (by omega),hl] at hh
   exact hh
 have hTl:(ts++[endT s.size]).length=ts.length+1:=by simp
 obtain⟨T,hT⟩:∃ T,T=ts++[endT s.size]:=⟨_,rfl⟩
 rw[← hT] at hTl hr hG c
 obtain⟨f,hf⟩:=hr
 have HT:=hid hT
 have HE:=hid hE
 have HF:=hid hf
 have HG:=hid hG
 clear hf hT hG hE hl hEX
 go_enter func20,ntmps20
 go_wp2_with fail
 refine c.mono ?_
 rintro e w1 ⟨b1,ao,cap,rfl,hcap,hat⟩
 obtain⟨h,rfl,hh,hrow⟩:=hat (by rw[hTl];omega)
 have hb1:=below_to hbX b1
 have hX1:=hX.later b1
 rw[← hTl] at hcap
 have d2:=below_alloc w1 (.cells #[.slice (some ⟨h,0,none⟩) T.length cap,.int .i64 0,.int .i64 (-1),.int .i64 0] 79)
 have z2:=alloc_size w1 (.cells #[.slice (some ⟨h,0,none⟩) T.length cap,.int .i64 0,.int .i64 (-1),.int .i64 0] 79)
 have o2:=alloc_at w1 (.cells #[.slice (some ⟨h,0,none⟩) T.length cap,.int .i64 0,.int .i64 (-1),.int .i64 0] 79)
 obtain⟨w2,hw2⟩:∃ x,w1.alloc (.cells #[.slice (some ⟨h,0,none⟩) T.length cap,.int .i64 0,.int .i64 (-1),.int .i64 0] 79)=x:=⟨_,rfl⟩
 have HP2:Hid (XG w1 (w1.alloc (.cells #[.slice (some ⟨h,0,none⟩) T.length cap,.int .i64 0,.int .i64 (-1),.int .i64 0] 79)) w1.heap.size T h cap 0 (-1)) :=
  hid ⟨HE.out.later hb1,d2,Nat.le_refl _,HG.out,by omega,hcap,by omega,by decide,o2,hh,TRow.away (g:=w1.heap.size) ⟨hh,hrow⟩ (Away.of d2) (by omega)⟩
 have c2:=(xall w1 w1.heap.size T h cap f).or _ 0 r HP2.out HF.out
 have HX2:=hid (hX1.later d2)
 have HB2:=hid (below_to hb1 d2)
 have hs1:=b1.size
 have hxl:=hX.lt
 have HTL:=hid hTl
 clear c b1 hat hrow hX hX1 hbX d2 o2 hw2 w2
 rw[hTl] at c2 HX2 HB2
 go_wp2_with fail
 refine c2.mono ?_
 rintro e w3 ⟨a3,op,n,z,ao,la,ca,rfl,hst⟩
 have hs3:=a3.size
 have d4:=below_alloc w3 (.cells #[.int .i64 op,.int .i64 n,.string z,.slice ao la ca] 24)
 have f4:=four_new w3 (.int .i64 op) (.int .i64 n) (.string z) (.slice ao la ca) 24
 obtain⟨w4,hw4⟩:∃ x,w3.alloc (.cells #[.int .i64 op,.int .i64 n,.string z,.slice ao la ca] 24)=x:=⟨_,rfl⟩
 rw[hw4] at d4 f4
 have hX4:=(HX2.out.away a3 (by omega)).later d4
 have HX4:=hid hX4
 have HB4:=hid (below_to (HB2.out.trans (a3.below (by omega) (by rw[alloc_size];omega))) d4)
 have F4:=hid f4
 rw[alloc_size] at hs3
 rcases hst with ⟨a,j,rfl,hx,pj⟩ | ⟨pp,j,rfl,pj⟩
 ·have p4:=pj.later d4
  have HXX:=hid ((hx.later d4).wide (R:=Up (w.heap.size+1)) (fun b hb _=>by rw[alloc_size] at hb;show w.heap.size+1≤b;have:w1.heap.size+1≤b:=hb;omega))
  obtain⟨t,ht,hd,-⟩:=p4.tok
  have cT:=xtok_any w1 w4 w1.heap.size T h cap j (-1) t p4 ht
  obtain⟨y0,y1,y2,-⟩:=p4.cells
  have P4:=hid p4
  have HT2:=hid ht
  have HW:Hid (wholeR (.ok (a,T.drop j))=if t.k=0 then .ok a else .error t.a):=hid (by unfold wholeR;rw[hd])
  by_cases hk:t.k=0
  ·have HR:Hid (endR (.ok (a,T.drop j))=if chkB a then .ok a else .error (0,7)):=hid (by unfold endR;rw[HW.out,if_pos hk])
   have hkI:((t.k:Nat):Int)=0:=by rw[hk];rfl
   rw[hkI] at cT
   have hfd0:=fun w=>fld_0 0 ⟨t.s.toArray⟩ (t.n:Int) (t.a:Int) w
   have cC:=fun w' (hb:Below w4.heap.size w4 w')=>rcheck_any a _ _ w' (HE.out.later (below_to HB4.out hb)) (HXX.out.later hb)
   generalize (⟨t.s.toArray⟩:ByteArray)=S1 at *
   generalize endR (.ok (a,T.drop j))=RR at *
   clear ht hd p4 hx pj c2 a3 d4 hk hkI
   obtain⟨-,u0,u1,u2,u3,-⟩:=f4
   clear hX4
   go_wp2_with fail
   refine cT.mono ?_
   rintro e w5 ⟨rfl,b5⟩
   obtain⟨-,x1,x2,-⟩:=(P4.out.later b5).cells
   have cC2:=cC w5 b5
   obtain⟨-,u0,u1,u2,u3,-⟩:=F4.out.later b5
   have HX5:=hid (HX4.out.later b5)
   have HF5:=hid (F4.out.later b5)
   have HB5:=hid (below_to HB4.out b5)
   have HXX5:=hid (HXX.out.later b5)
   clear cT cC b5 y0 y1 y2
   cases hc:chkB a with
   | false =>
    have hRR:RR=.error (0,7):=by have:=HR.out;rw[hc] at this;simpa using this
    rw[hc] at cC2
    clear HR
    subst hRR
    go_wp2_with fail
    refine cC2.mono ?_
    rintro e w6 ⟨rfl,b6⟩
    obtain⟨-,z0,z1,z2,z3,f0,f1,f2,f3⟩:=HX5.out.later b6
    have HB:=hid (below_put4 (below_to HB5.out b6) (Nat.le_refl _) (.int .i64 0) (.int .i64 0) (.string ⟨#[]⟩) (.slice none 0 0))
    clear cC2 b6
    go_wp2_with fail
    exact bodyPost_ret (v:=.tuple #[EV 0 0 ⟨#[]⟩ (.slice none 0 0),.int .i64 0,.int .i64 7]) (by simp[EV,results,results20,go_sem,z0,z1,z2,z3]) rfl ⟨HB.out,rfl⟩
   | true =>
    have hRR:RR=.ok a:=by have:=HR.out;rw[hc] at this;simpa using this
    rw[hc] at cC2
    clear HR
    subst hRR
    obtain⟨ao9,c9,hev,-⟩:=HXX5.out.get
    have hla:la=a.kids.length:=by
     simp only[EV,Value.agg.injEq,Array.mk.injEq,List.cons.injEq,Value.slice.injEq,and_true] at hev
     exact hev.2.2.2.2.1
    clear hev
    subst hla
    have F5:=hid (show Four w5 w3.heap.size (.int .i64 op) (.int .i64 n) (.string z) (.slice ao a.kids.length ca) from HF5.out)
    go_wp2_with fail
    refine cC2.mono ?_
    rintro e w6 ⟨rfl,b6⟩
    obtain⟨-,z0,z1,z2,z3,f0,f1,f2,f3⟩:=HX5.out.later b6
    obtain⟨-,v0,v1,v2,v3,-⟩:=F5.out.later b6
    have HB:=hid (below_put4 (below_to HB5.out b6) (Nat.le_refl _) (.int .i64 op) (.int .i64 n) (.string z) (.slice ao a.kids.length ca))
    have HXX6:=hid ((ex_set4 (R:=w.heap.size) (g:=w.heap.size) (HXX5.out.later b6) (by omega) (by omega) (.int .i64 op) (.int .i64 n) (.string z) (.slice ao a.kids.length ca)))
    clear cC2 b6 u0 u1 u2 u3
    go_wp2_with fail
    exact bodyPost_ret (v:=.tuple #[EV op n z (.slice ao a.kids.length ca),.int .i64 0,.int .i64 0]) (by simp[EV,results,results20,go_sem,z0,z1,z2,z3]) rfl ⟨HB.out,op,n,z,ao,ca,rfl,HXX6.out⟩
  ·have hRR:endR (.ok (a,T.drop j))=.error (t.a,6):=by unfold endR;rw[HW.out,if_neg hk]
   have hkb:((t.k:Int) != 0)=true:=by simp;omega
   have hkn:¬ (t.k:Int)=0:=by omega
   have hfd0:=fun w=>fld_0 (t.k:Int) ⟨t.s.toArray⟩ (t.n:Int) (t.a:Int) w
   have cW:=fun w' (q:XG w1 w' w1.heap.size T h cap j (-1))=>xwrong_any w1 w' w1.heap.size T h cap j t q ht
   generalize (⟨t.s.toArray⟩:ByteArray)=S1 at *
   generalize endR (.ok (a,T.drop j))=RR at *
   subst hRR
   clear ht hd p4 hx pj c2 a3 d4 hk hX4 HW f4
   go_wp2_with fail
   refine cT.mono ?_
   rintro e w5 ⟨rfl,b5⟩
   have p5:=P4.out.later b5
   obtain⟨-,x1,x2,-⟩:=p5.cells
   have c6:=cW w5 p5
   have HX5:=hid (HX4.out.later b5)
   have HB5:=hid (below_to HB4.out b5)
   clear cT cW b5 y0 y1 y2 p5
   go_wp2_with fail
   refine c6.mono ?_
   rintro e w6 ⟨rfl,a6,q6⟩
   obtain⟨-,x1,x2,-⟩:=q6.cells
   have hpn:¬ ((t.a:Nat):Int)<0:=by omega
   have hpn2:(0:Int)≤((t.a:Nat):Int):=by omega
   obtain⟨-,z0,z1,z2,z3,f0,f1,f2,f3⟩:=HX5.out.away a6 (by omega)
   have HB:=hid (below_put4 (HB5.out.trans (a6.below (by omega) HB5.out.size)) (Nat.le_refl _) (.int .i64 0) (.int .i64 0) (.string ⟨#[]⟩) (.slice none 0 0))
   clear c6 q6 a6
   go_wp2_with fail
   go_region
   go_wp2
   exact bodyPost_ret (v:=.tuple #[EV 0 0 ⟨#[]⟩ (.slice none 0 0),.int .i64 (t.a:Int),.int .i64 6]) (by simp[EV,results,results20,go_sem,z0,z1,z2,z3]) rfl ⟨HB.out.drew,rfl⟩
 ·have p4:=pj.later d4
  obtain⟨y0,y1,y2,-⟩:=p4.cells
  have hpn:¬ ((pp:Nat):Int)<0:=by omega
  have hpn2:(0:Int)≤((pp:Nat):Int):=by omega
  obtain⟨-,z0,z1,z2,z3,f0,f1,f2,f3⟩:=hX4
  have HB:=hid (below_put4 HB4.out (Nat.le_refl _) (.int .i64 0) (.int .i64 0) (.string ⟨#[]⟩) (.slice none 0 0))
  clear p4 pj c2 a3 d4
  go_wp2_with fail
  go_region
  go_wp2
  exact bodyPost_ret (v:=.tuple #[EV 0 0 ⟨#[]⟩ (.slice none 0 0),.int .i64 (pp:Int),.int .i64 6]) (by simp[EV,results,results20,go_sem,z0,z1,z2,z3]) rfl ⟨HB.out.drew,rfl⟩
theorem rparseF_any (s:ByteArray) (R:Except (Nat × Nat) Ex) (w:World) (hs:s.size≤1099511627776) (hE:EnvP w) (h:Says s.data.toList R) :
  Calls prog 20 #[.string s] w (PaEnd w R):=by
 unfold Says at h
 rw[size_list] at h
 rcases h with ⟨h1,rfl⟩ | ⟨h1,⟨p,h2,rfl⟩ | ⟨ts,r,h2,h3,rfl⟩⟩
 ·exact rparse_bad s 400 7 (.inr rfl) w fun w' hb=>(reflex_any s w' hs).mono fun e w'' hh=>by
   unfold LexEnd at hh
   rw[if_pos h1] at hh
   exact hh
 ·exact rparse_bad s p 5 (.inl rfl) w fun w' hb=>(reflex_any s w' hs).mono fun e w'' hh=>by
   unfold LexEnd at hh
   rw[if_neg (by omega),h2] at hh
   exact hh
 ·exact rparse_good s ts r w h1 h2 h3 hE
end
end Go.Proofs.YtbbblmedoagncaaGreatDoor
