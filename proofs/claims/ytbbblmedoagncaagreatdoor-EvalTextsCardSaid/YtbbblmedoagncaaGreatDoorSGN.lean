/- VFall, ParK, ParO, ParQ -/
import Derived.Test.YtbbblmedoagncaaGreatDoorSGE
import Derived.Test.YtbbblmedoagncaaGreatDoorSGM
import Derived.Test.YtbbblmedoagncaaGreatDoorSGL
import Derived.Recover
namespace Go.Proofs.YtbbblmedoagncaaGreatDoor
section
section
variable {P:Program} {Q:Exit→Act→World→Prop} {md:Region.Mode} {S:World→Prop} {l:List Oper} {i:Nat} {o:Oper} {fuel:Nat} {listed:Array Bool} {a:Act} {w:World}
theorem held_fall {f:FuncId} {args:Array Value} {R:Ending→World→Prop} (hr:Region.ready md l.toArray listed=[i]) (ho:l[i]?=some o) (hw:Region.wanted o (yielded l.toArray a.tmps)=true) (hy:(execOp a.eval o).run P w=.ok (.enter f args) w)
  (hc:Calls P f args w R) (h:∀ e w',R e w'→∃ c,e=.panicked c∧Q (.panic c) a w'):wpAnyH P md l.toArray Q S (fuel+1) listed a w :=
 held_one hr ho hw fun K hK=>by
  unfold Oper.wp
  rw[hy]
  refine hc.mono fun e w' hR=>?_
  obtain⟨c,rfl,hh⟩:=h e w' hR
  exact hh
end
end
section
open Lib (hid)
open _root_.Go.Proofs.Tryz
set_option maxHeartbeats 4000000
set_option maxRecDepth 100000
open Go.RowKit
def opChk (l:Nat) (s:List UInt8):Bool :=
 match opAt l s with
 | none=>decide (opOfL ((l:Int)+1) (lessL s)=0)
 | some (o,sw)=>decide (opOfL ((l:Int)+1) (lessL s)=(o:Int)) && decide (7≤o∧o≤17) && decide (sw=decide (lessL s≠s))
theorem op_line {T:List Tk} (hG:GoodT T) {t:Tk} (ht:t ∈ T) (q:List Tk) {l:Nat} (hl:l<5) :
  (opH l (t :: q)=none∧opOfL ((l:Int)+1) (lessL (sgT t))=0)∨(∃ (o:Nat) (sw:Bool),opH l (t :: q)=some (o,sw)∧opOfL ((l:Int)+1) (lessL (sgT t))=(o:Int)∧(7≤o∧o≤17)∧sw=decide (lessL (sgT t)≠sgT t)∧t.k=4):=by
 have hL:l=0∨l=1∨l=2∨l=3∨l=4:=by omega
 by_cases hk:t.k=4
 ·have hs:=hG.sign t ht hk
  have e:sgT t=t.s:=by unfold sgT;rw[if_pos hk]
  have e2:opH l (t :: q)=opAt l t.s:=by unfold opH;dsimp only;rw[if_pos hk]
  rw[e,e2]
  have hall:∀ l ∈ [0,1,2,3,4],∀ s ∈ ([[43],[45],[42],[47],[37],[40],[41],[44],[61],[60],[62],[38],[124],[33],[60,61],[62,61],[33,61]]:List (List UInt8)),
   opChk l s=true:=by decide
  have:=hall l (by rcases hL with rfl | rfl | rfl | rfl | rfl<;>simp) t.s hs
  unfold opChk at this
  cases ho:opAt l t.s with
  | none=>rw[ho] at this;exact .inl ⟨rfl,by simpa using this⟩
  | some x =>
   obtain⟨o,sw⟩:=x
   rw[ho] at this
   simp only[Bool.and_eq_true,decide_eq_true_eq] at this
   exact .inr ⟨o,sw,rfl,this.1.1,this.1.2,this.2,hk⟩
 ·have e:sgT t=[]:=by unfold sgT;rw[if_neg hk]
  have e2:opH l (t :: q)=none:=by unfold opH;dsimp only;rw[if_neg hk]
  rw[e,e2]
  refine .inl ⟨rfl,?_⟩
  rcases hL with rfl | rfl | rfl | rfl | rfl<;>decide
def LRel (w0 w wr:World) (g:Nat) (T:List Tk) (h cap c i:Nat) (a:Ex):Prop :=
 Away g w wr∧PG w0 wr g T h cap i∧Four wr w.heap.size (.int .i64 0) (.int .i64 0) (.string ⟨#[]⟩) (.slice none 0 0)∧w.heap.size<c ∧
  ∃ op n s ao k,Four wr c (.int .i64 op) (.int .i64 n) (.string s) (.slice ao a.kids.length k)∧ExIn wr (fun b=>w.heap.size≤b∧b≠w.heap.size∧b≠c) a (EV op n s (.slice ao a.kids.length k))
theorem LRel.next {w0 w W:World} {g:Nat} {T:List Tk} {h cap c i b:Nat} {o:Int} {x y:Ex} {v0 v1 v2 v3:Value} (hA:Away g w W) (hP:PG w0 W g T h cap i) (hR:Four W w.heap.size (.int .i64 0) (.int .i64 0) (.string ⟨#[]⟩) (.slice none 0 0)) (hwC:w.heap.size<c) (hgw:g<w.heap.size) (hC:Four W c v0 v1 v2 v3) (ho:In64 o)
  (hb1:w.heap.size<b) (hb2:b≠c) (hbl:b<W.heap.size) (hrow:RowIn W (fun z=>w.heap.size≤z∧z≠w.heap.size∧z≠c) b 0 [x,y]) :
  LRel w0 w (set4 W c (.int .i64 o) (.int .i64 0) (.string ⟨#[]⟩) (.slice (some ⟨b,0,none⟩) 2 2)) g T h cap c i (.mk o 0 [] [x,y]):=by
 refine⟨hA.put4 (by omega) _ _ _ _,hP.put4 (by omega) _ _ _ _,(((hR.other (by omega)).other (by omega)).other (by omega)).other (by omega),hwC,o,0,⟨#[]⟩,some ⟨b,0,none⟩,2,hC.set _ _ _ _,?_⟩
 have hst:=Stays.set4 (S:=fun z=>w.heap.size≤z∧z≠w.heap.size∧z≠c) W (.int .i64 o) (.int .i64 0) (.string ⟨#[]⟩) (.slice (some ⟨b,0,none⟩) 2 2) (g:=c) (fun hc=>hc.2.2 rfl)
 exact ex_two ho ⟨by omega,by omega,hb2⟩ (by rw[set4_size];exact hbl) (RowIn.stays hst _ _ _ ⟨by omega,by omega,hb2⟩ hbl hrow)
theorem away_other {g b:Nat} {a w w':World} (h:Away g a w) (k:Away b w w') (hb:a.heap.size≤b):Away g a w' :=
 ⟨k.os.trans h.os,k.tape.trans h.tape,k.output.trans h.output,Nat.le_trans h.size k.size,fun i hi hn=>(k.block i (Nat.lt_of_lt_of_le hi h.size) (by omega)).trans (h.block i hi hn)⟩
theorem PG.away {w0 w w':World} {g b:Nat} {T:List Tk} {h cap i:Nat} (p:PG w0 w g T h cap i) (k:Away b w w') (hb:g<b):PG w0 w' g T h cap i :=
 ⟨p.env,p.base.trans (k.below (by have:=p.gz;omega) p.base.size),p.gz,p.good,p.lt,p.le,p.big,by rw[k.block g p.glt (by omega)];exact p.obj,p.hg,p.row.away (g:=b) k (by have:=p.hg;omega)⟩
theorem tree_next {w W:World} {c b:Nat} {o:Int} {x y:Ex} (ho:In64 o) (hb1:w.heap.size<b) (hb2:b≠c) (hbl:b<W.heap.size) (hrow:RowIn W (fun z=>w.heap.size≤z∧z≠w.heap.size∧z≠c) b 0 [x,y]) :
  ExIn (set4 (set4 W c (.int .i64 o) (.int .i64 0) (.string ⟨#[]⟩) (.slice (some ⟨b,0,none⟩) 2 2)) w.heap.size (.int .i64 o) (.int .i64 0) (.string ⟨#[]⟩) (.slice (some ⟨b,0,none⟩) 2 2)) (Up w.heap.size) (.mk o 0 [] [x,y]) (EV o 0 ⟨#[]⟩ (.slice (some ⟨b,0,none⟩) 2 2)):=by
 have hst:=Stays.set4 (S:=fun z=>w.heap.size≤z∧z≠w.heap.size∧z≠c) W (.int .i64 o) (.int .i64 0) (.string ⟨#[]⟩) (.slice (some ⟨b,0,none⟩) 2 2) (g:=c) (fun hc=>hc.2.2 rfl)
 have h1:=ex_two (op:=o) ho (S:=fun z=>w.heap.size≤z∧z≠w.heap.size∧z≠c) ⟨by omega,by omega,hb2⟩ (by rw[set4_size];exact hbl) (RowIn.stays hst _ _ _ ⟨by omega,by omega,hb2⟩ hbl hrow)
 exact (h1.keep (Stays.set4 _ _ _ _ _ (g:=w.heap.size) (fun hc=>hc.2.1 rfl))).wide (fun _ hz _=>hz.1)
section
variable {w0:World} {g:Nat} {T:List Tk} {h cap:Nat}
theorem line_walk (F:Nat) (I1:∀ k,k<F→OneC w0 g T h cap k) (I3:∀ k,k<F→LineC w0 g T h cap k):LineC w0 g T h cap F:=by
 intro l w i r hl5 p hr
 have hgl:=p.glt
 cases F with
 | zero=>rw[pE] at hr;cases hr
 | succ F =>
 rw[pE] at hr
 have hb0:=below_alloc w exprO
 have hF0:=four_new w (.int .i64 0) (.int .i64 0) (.string ⟨#[]⟩) (.slice none 0 0) 24
 have hsz0:=alloc_size w exprO
 obtain⟨wA,hwA⟩:∃ wA,w.alloc exprO=wA:=⟨_,rfl⟩
 rw[hwA] at hb0 hsz0
 unfold exprO at hwA
 rw[hwA] at hF0
 have gA:=p.later hb0
 by_cases hl:l<5
 ·rw[if_pos hl] at hr
  cases hE:pE F (l+1) (T.drop i) with
  | none=>rw[hE] at hr;cases hr
  | some r1 =>
   rw[hE] at hr
   have hN5:(((l:Int)+1) == 6)=false:=beq_eq_false_iff_ne.2 (by omega)
   have cI:=I3 F (Nat.lt_succ_self F) (l+1) wA i r1 (by omega) gA hE
   have HI:=hid (fun k (hk:k<F+1)=>I3 k hk)
   obtain⟨N,hN⟩:∃ N:Int,(l:Int)+1=N:=⟨_,rfl⟩
   have hN2:((l+1:Nat):Int)+1=N+1:=by omega
   have hNb:1≤N∧N≤5:=by omega
   obtain⟨hNb1,hNb2⟩:=hNb
   rw[hN] at hN5 ⊢
   rw[hN2] at cI
   have hwrap:IntKind.i64.wrap (N+1)=N+1:=IntWalk.i64_in _ (by omega)
   have HN:=hid hN
   have HN2:=hid hN2
   clear I1 I3 hE p hN hN2
   cases r1 with
   | error pp =>
    rw[bnd_err rfl] at hr
    injection hr with hr
    have HR:=hid hr
    clear hr hl hl5
    go_enter func90,ntmps90
    go_wp2_with fail
    refine cI.mono ?_
    rintro e w1 hP
    obtain⟨rfl,a1⟩:=hP.err
    go_wp2
    exact⟨rfl,PEnd.mk_err HR.out.symm ((Away.of hb0).trans a1)⟩
   | ok x =>
    obtain⟨a,q⟩:=x
    rw[bnd_ok rfl] at hr
    dsimp only at hr
    have HR:=hid hr
    clear hr
    go_enter func90,ntmps90
    go_wp2_with fail
    refine cI.mono ?_
    rintro e w1 hP
    obtain⟨op,n,s,ao,c,j,rfl,a1,x1,hj,p1⟩:=hP.ok
    have hs1:=a1.size
    have hb2:=below_alloc w1 (.cells #[.int .i64 op,.int .i64 n,.string s,.slice ao a.kids.length c] 24)
    have hL:LRel w0 w (w1.alloc (.cells #[.int .i64 op,.int .i64 n,.string s,.slice ao a.kids.length c] 24)) g T h cap w1.heap.size j a :=
     ⟨((Away.of hb0).trans a1).next hb2,p1.later hb2,(hF0.away a1 (by omega)).later hb2,by omega,op,n,s,ao,c,four_new w1 _ _ _ _ _,
      (x1.wide (fun b hb hlt=>⟨by have:wA.heap.size≤b:=hb;omega,by have:wA.heap.size≤b:=hb;omega,by omega⟩)).later hb2⟩
    obtain⟨C,hC⟩:∃ C,w1.heap.size=C:=⟨_,rfl⟩
    rw[hC] at hL
    have HL:=hid hL
    have HJ:=hid hj
    have HF0:Hid (∃ f,f=F∧pL f l a (T.drop j)=some r):=hid ⟨F,rfl,by rw[← hj];exact HR.out⟩
    clear cI hP p1 a1 x1 hb0 hF0 hwA gA hsz0 hs1 hb2 hL hj
    go_wp2_with fail
    go_loopg [] (F) (fun m wr=>∃ (k:Nat) (b:Ex),m≤F∧Hid (pL m l b (T.drop k)=some r)∧Hid (LRel w0 w wr g T h cap C k b))
    case atStart=>exact⟨j,a,Nat.le_refl _,hid (by rw[← HJ.out];exact HR.out),HL⟩
    case round =>
     obtain⟨k,b,hgk,HPL,HLR⟩:=hrel
     clear HL HR HJ HF0
     have hpl:=HPL.out
     obtain⟨f,rfl⟩:∃ f,gk=f+1:=by
      cases gk with
      | zero=>rw[pL] at hpl;cases hpl
      | succ f=>exact⟨f,rfl⟩
     rw[pL] at hpl
     obtain⟨hA,hP,hFr,hwC,op1,n1,s1,ao1,c1,hFC,hx⟩:=HLR.out
     obtain⟨t,ht,hd,-⟩:=hP.tok
     have hmem:=List.mem_of_getElem? ht
     have hsz:=hA.size
     have hsgn:sgT t=[]∨sgT t ∈ ([[43],[45],[42],[47],[37],[40],[41],[44],[61],[60],[62],[38],[124],[33],[60,61],[62,61],[33,61]]:List (List UInt8)):=by
      unfold sgT
      by_cases hk:t.k=4
      ·rw[if_pos hk];exact .inr (hP.good.sign t hmem hk)
      ·rw[if_neg hk];exact .inl rfl
     have cS:=psign_any w0 wr g T h cap k t hP ht
     have cR:=fun w'=>less_any (sgT t) w' hsgn
     have cO:=fun w' (hF:Forms w')=>opof_any N ⟨(lessL (sgT t)).toArray⟩ w' hF
     have hsd:(⟨(lessL (sgT t)).toArray⟩:ByteArray).data.toList=lessL (sgT t):=rfl
     rw[hsd,← HN.out] at cO
     have hop:=op_line hP.good hmem (T.drop (k+1)) hl
     rw[hd] at hpl
     rcases hop with ⟨ho,hof⟩ | ⟨o,sw,ho,hof,hor,hsw,hk4⟩
     ·rw[hof,HN.out] at cO
      rw[ho] at hpl
      dsimp only at hpl
      injection hpl with hpl
      have HRR:=hid hpl
      have HD:=hid hd
      clear hpl ho hof hsd hsgn hmem hd HPL
      generalize (⟨(sgT t).toArray⟩:ByteArray)=S1 at *
      generalize (⟨(lessL (sgT t)).toArray⟩:ByteArray)=S2 at *
      go_wp2_with fail
      refine cS.mono ?_
      rintro e w2 ⟨rfl,b2⟩
      clear cS
      go_wp2_with fail
      refine (cR w2).mono ?_
      rintro e w3 ⟨rfl,b3⟩
      have b3':=below_to b2 b3
      have c4:=cO w3 (hP.later b3').now.forms
      clear cR cO
      go_wp2_with fail
      refine c4.mono ?_
      rintro e w4 ⟨rfl,b4⟩
      have b4':=below_to b3' b4
      obtain⟨-,y0,y1,y2,y3,-⟩:=hFC.later b4'
      obtain⟨-,z0,z1,z2,z3,f0,f1',f2,f3⟩:=hFr.later b4'
      have p4:=hP.later b4'
      have a4:=hA.next b4'
      have hx4:=(((hx.later b4').keep (Stays.set4 w4 (.int .i64 op1) (.int .i64 n1) (.string s1) (.slice ao1 b.kids.length c1) (g:=w.heap.size) (fun hc=>hc.2.1 rfl))).wide (R:=Up w.heap.size) (fun x hxx _=>hxx.1))
      have HX4:=hid hx4
      clear c4 hx hFC hFr hP hA HLR hx4
      go_wp2_with fail
      exact bodyPost_ret (v:=EV op1 n1 s1 (.slice ao1 b.kids.length c1)) (by simp[results,results90,go_sem,z0,z1,z2,z3]) rfl
       (PEnd.mk_ok (by rw[← HRR.out,HD.out]) (a4.put4 (Nat.le_refl _) _ _ _ _) HX4.out (p4.put4 hgl _ _ _ _))
     ·rw[hof,HN.out] at cO
      rw[ho] at hpl
      dsimp only at hpl
      rw[List.tail_cons] at hpl
      have hoz:((o:Int) == 0)=false:=beq_eq_false_iff_ne.2 (by omega)
      have hoi:In64 (o:Int):=⟨by omega,by omega⟩
      have hl1:=hP.next ht (by omega)
      have hbig:=hP.big
      cases hE:pE f (l+1) (T.drop (k+1)) with
      | none=>rw[hE] at hpl;cases hpl
      | some r1 =>
       rw[hE] at hpl
       have cL:=fun w' (p':PG w0 w' g T h cap (k+1))=>HI.out f (by omega) (l+1) w' (k+1) r1 (by omega) p' hE
       rw[HN2.out] at cL
       have HSW:=hid hsw
       have HOI:=hid hoi
       cases r1 with
       | error pp =>
        rw[bnd_err rfl] at hpl
        injection hpl with hpl
        have HRR:=hid hpl
        clear hpl ho hof hsd hsgn hmem hd HPL hE hor hsw hoi
        generalize (⟨(sgT t).toArray⟩:ByteArray)=S1 at *
        generalize (⟨(lessL (sgT t)).toArray⟩:ByteArray)=S2 at *
        go_wp2_with fail
        refine cS.mono ?_
        rintro e w2 ⟨rfl,b2⟩
        clear cS
        go_wp2_with fail
        refine (cR w2).mono ?_
        rintro e w3 ⟨rfl,b3⟩
        have b3':=below_to b2 b3
        have c4:=cO w3 (hP.later b3').now.forms
        clear cR cO
        go_wp2_with fail
        refine c4.mono ?_
        rintro e w4 ⟨rfl,b4⟩
        have b4':=below_to b3' b4
        have hF4:=hFC.later b4'
        have p4:=hP.later b4'
        have a4:=hA.next b4'
        obtain⟨-,x1,f1⟩:=p4.cells
        have p5:=p4.goes (z:=(k:Int)+1) hl1 (by omega)
        have a5:=a4.set 1 (.int .i64 ((k:Int)+1))
        have hF5:=hF4.away ((Away.refl g w4).set 1 (.int .i64 ((k:Int)+1))) (by omega)
        clear c4 hx hFC hFr hP hA HLR hF4 p4 a4
        go_wp2_with fail
        generalize hw5:w4.setCell { block:=g,off:=1 } (.int .i64 ((k:Int)+1))=w5 at *
        refine wp_region_held_drew (S:=fun w'=>Below w5.heap.size w5 w') (by kernel_rfl) ((Below.refl _ _).drew) (fun hHeld=>?_)
        refine held_take (i:=0) (v:=?_) rfl (by kernel_rfl) (by kernel_rfl) (by kernel_rfl) (fun _ _ _ h=>h) (by rfl) hHeld ?_ ?_
        rotate_left
        ·intro wz hSz;obtain⟨-,q0,q1,q2,q3,-⟩:=hF5.later hSz;go_simp;try with_reducible rfl
        simp only[Act.put,List.setIfInBounds_toArray,List.set_cons_zero,List.set_cons_succ]
        refine held_take (i:=1) (v:=?_) rfl (by kernel_rfl) (by kernel_rfl) (by kernel_rfl) (fun _ _ _ h=>h) (by rfl) hHeld ?_ ?_
        rotate_left
        ·intro wz hSz;go_simp;try with_reducible rfl
        simp only[Act.put,List.setIfInBounds_toArray,List.set_cons_zero,List.set_cons_succ]
        refine held_take (i:=2) (v:=?_) rfl (by kernel_rfl) (by kernel_rfl) (by kernel_rfl) (fun _ _ _ h=>h) (by rfl) hHeld ?_ ?_
        rotate_left
        ·intro wz hSz;go_simp;try with_reducible rfl
        simp only[Act.put,List.setIfInBounds_toArray,List.set_cons_zero,List.set_cons_succ]
        refine held_take (i:=3) (v:=?_) rfl (by kernel_rfl) (by kernel_rfl) (by kernel_rfl) (fun _ _ _ h=>h) (by rfl) hHeld ?_ ?_
        rotate_left
        ·intro wz hSz;go_simp;try with_reducible rfl
        simp only[Act.put,List.setIfInBounds_toArray,List.set_cons_zero,List.set_cons_succ]
        refine held_fall (i:=4) (by kernel_rfl) rfl (by rfl) (by go_simp;try with_reducible rfl) (cL _ (p5.later hHeld)) ?_
        rintro e w' hPP
        obtain⟨rfl,a6⟩:=hPP.err
        exact⟨_,rfl,rfl,PEnd.mk_err HRR.out.symm ((a5.next hHeld).trans a6)⟩
       | ok x =>
        obtain⟨d,q2⟩:=x
        rw[bnd_ok rfl] at hpl
        dsimp only at hpl
        have HPL2:=hid hpl
        clear hpl ho hof hsd hsgn hmem hd HPL hE hor hsw hoi
        have hSS:(sw=true→(⟨(lessL (sgT t)).toArray⟩:ByteArray)≠⟨(sgT t).toArray⟩)∧(sw=false→(⟨(lessL (sgT t)).toArray⟩:ByteArray)=⟨(sgT t).toArray⟩):=by
         have:=HSW.out
         constructor
         ·rintro rfl e
          have e2:=congrArg (fun b:ByteArray=>b.data.toList) e
          exact (of_decide_eq_true this.symm) (by simpa using e2)
         ·rintro rfl
          have e2:lessL (sgT t)=sgT t:=by
           have:=of_decide_eq_false this.symm
           exact Decidable.not_not.1 this
          rw[e2]
        have HSS:=hid hSS
        clear hSS
        generalize (⟨(sgT t).toArray⟩:ByteArray)=S1 at *
        generalize (⟨(lessL (sgT t)).toArray⟩:ByteArray)=S2 at *
        go_wp2_with fail
        refine cS.mono ?_
        rintro e w2 ⟨rfl,b2⟩
        clear cS
        go_wp2_with fail
        refine (cR w2).mono ?_
        rintro e w3 ⟨rfl,b3⟩
        have b3':=below_to b2 b3
        have c4:=cO w3 (hP.later b3').now.forms
        clear cR cO
        go_wp2_with fail
        refine c4.mono ?_
        rintro e w4 ⟨rfl,b4⟩
        have b4':=below_to b3' b4
        have hF4:=hFC.later b4'
        have p4:=hP.later b4'
        have a4:=hA.next b4'
        have hx4:=hx.later b4'
        have hR4:=hFr.later b4'
        have hs4:=b4'.size
        have hCl:=hF4.lt
        obtain⟨-,x1,f1⟩:=p4.cells
        have p5:=p4.goes (z:=(k:Int)+1) hl1 (by omega)
        have a5:=a4.set 1 (.int .i64 ((k:Int)+1))
        have hF5:=hF4.away ((Away.refl g w4).set 1 (.int .i64 ((k:Int)+1))) (by omega)
        have hR5:=hR4.away ((Away.refl g w4).set 1 (.int .i64 ((k:Int)+1))) (by omega)
        have hx5:=hx4.keep (Stays.set w4 1 (.int .i64 ((k:Int)+1)) (g:=g) (fun hc=>by have:=hc.1;omega))
        have hs5:=set_size w4 ⟨g,1,none⟩ (.int .i64 ((k:Int)+1))
        clear c4 hx hFC hFr hP hA HLR hF4 p4 a4 hx4 hR4
        go_wp2_with fail
        generalize hw5:w4.setCell { block:=g,off:=1 } (.int .i64 ((k:Int)+1))=w5 at *
        refine wp_region_held_drew (S:=fun w'=>Four w' C (.int .i64 op1) (.int .i64 n1) (.string s1) (.slice ao1 b.kids.length c1)) (by kernel_rfl) (hF5.later (Below.refl _ _).drew) (fun hHeld=>?_)
        refine held_take (i:=0) (v:=?_) rfl (by kernel_rfl) (by kernel_rfl) (by kernel_rfl) (fun _ _ _ h=>h) (by rfl) hHeld ?_ ?_
        rotate_left
        ·intro wz hSz;obtain⟨-,q0,q1,q2,q3,-⟩:=hSz;go_simp;try with_reducible rfl
        simp only[Act.put,List.setIfInBounds_toArray,List.set_cons_zero,List.set_cons_succ]
        refine held_take (i:=1) (v:=?_) rfl (by kernel_rfl) (by kernel_rfl) (by kernel_rfl) (fun _ _ _ h=>h) (by rfl) hHeld ?_ ?_
        rotate_left
        ·intro wz hSz;go_simp;try with_reducible rfl
        simp only[Act.put,List.setIfInBounds_toArray,List.set_cons_zero,List.set_cons_succ]
        refine held_take (i:=2) (v:=?_) rfl (by kernel_rfl) (by kernel_rfl) (by kernel_rfl) (fun _ _ _ h=>h) (by rfl) hHeld ?_ ?_
        rotate_left
        ·intro wz hSz;go_simp;try with_reducible rfl
        simp only[Act.put,List.setIfInBounds_toArray,List.set_cons_zero,List.set_cons_succ]
        refine held_take (i:=3) (v:=?_) rfl (by kernel_rfl) (by kernel_rfl) (by kernel_rfl) (fun _ _ _ h=>h) (by rfl) hHeld ?_ ?_
        rotate_left
        ·intro wz hSz;go_simp;try with_reducible rfl
        simp only[Act.put,List.setIfInBounds_toArray,List.set_cons_zero,List.set_cons_succ]
        refine held_call (i:=4) (by kernel_rfl) rfl (by rfl) (by go_simp;try with_reducible rfl) ((cL w5.drew (p5.later (Below.refl _ _).drew)).mono (fun _ _ hP=>hP.ok)) ?_
        rintro e wy ⟨op2,n2,s2,ao2,c2,j2,rfl,a6,x6,hj6,p6⟩
        refine⟨_,rfl,hHeld.away a6 (by omega),?_⟩
        replace hHeld:=hHeld.away a6 (by omega)
        simp only[Act.put,List.setIfInBounds_toArray,List.set_cons_zero,List.set_cons_succ]
        refine held_make (i:=5) (v:=.slice (some ⟨wy.heap.size,0,none⟩) 2 2) (w':=wy.alloc (.cells #[.int .i64 op1,.int .i64 n1,.string s1,.slice ao1 b.kids.length c1,.int .i64 op2,.int .i64 n2,.string s2,.slice ao2 d.kids.length c2] 24)) (by kernel_rfl) rfl (by rfl) (by go_simp;try with_reducible rfl) (hHeld.later (below_alloc _ _)) ?_
        simp only[Act.put,List.setIfInBounds_toArray,List.set_cons_zero,List.set_cons_succ]
        replace hHeld:=hHeld.later (below_alloc wy (.cells #[.int .i64 op1,.int .i64 n1,.string s1,.slice ao1 b.kids.length c1,.int .i64 op2,.int .i64 n2,.string s2,.slice ao2 d.kids.length c2] 24))
        refine held_take (i:=6) (v:=?_) rfl (by kernel_rfl) (by kernel_rfl) (by kernel_rfl) (fun _ _ _ h=>h) (by rfl) hHeld ?_ ?_
        rotate_left
        ·intro wz hSz;go_simp;try with_reducible rfl
        simp only[Act.put,List.setIfInBounds_toArray,List.set_cons_zero,List.set_cons_succ]
        refine wpAnyH_done (by kernel_rfl) ?_ _
        have hd5:=(Below.refl w5.heap.size w5).drew
        have hsd5:w5.drew.heap.size=w5.heap.size:=rfl
        have hs6:=a6.size
        rw[hsd5] at hs6 x6
        have xb:=(((hx5.later hd5).keep (Stays.away a6 (fun hc=>by have:=hc.1;omega))).later (below_alloc wy (.cells #[.int .i64 op1,.int .i64 n1,.string s1,.slice ao1 b.kids.length c1,.int .i64 op2,.int .i64 n2,.string s2,.slice ao2 d.kids.length c2] 24)))
        have xd:=(x6.wide (R:=fun z=>w.heap.size≤z∧z≠w.heap.size∧z≠C) (fun z hz _=>by have:w5.heap.size≤z:=hz;exact⟨by omega,by omega,by omega⟩))
        have xb':=((hx5.later hd5).keep (Stays.away a6 (fun hc=>by have:=hc.1;omega)))
        have row8:=row_two (ty:=24) xb' xd
        have hnb8:=NB.new wy #[.int .i64 op1,.int .i64 n1,.string s1,.slice ao1 b.kids.length c1,.int .i64 op2,.int .i64 n2,.string s2,.slice ao2 d.kids.length c2] 24
        have xb7:=(xb'.wide (R:=fun z=>(w.heap.size≤z∧z≠w.heap.size∧z≠C)∧z≠wy.heap.size) (fun z hz hlt=>⟨hz,by omega⟩)).later (below_alloc wy (.cells #[.int .i64 op1,.int .i64 n1,.string s1,.slice ao1 b.kids.length c1,.int .i64 op2,.int .i64 n2,.string s2,.slice ao2 d.kids.length c2] 24))
        have xd7:=(xd.wide (R:=fun z=>(w.heap.size≤z∧z≠w.heap.size∧z≠C)∧z≠wy.heap.size) (fun z hz hlt=>⟨hz,by omega⟩)).later (below_alloc wy (.cells #[.int .i64 op1,.int .i64 n1,.string s1,.slice ao1 b.kids.length c1,.int .i64 op2,.int .i64 n2,.string s2,.slice ao2 d.kids.length c2] 24))
        have xd8:=xd.later (below_alloc wy (.cells #[.int .i64 op1,.int .i64 n1,.string s1,.slice ao1 b.kids.length c1,.int .i64 op2,.int .i64 n2,.string s2,.slice ao2 d.kids.length c2] 24))
        have p8:=p6.alloc (.cells #[.int .i64 op1,.int .i64 n1,.string s1,.slice ao1 b.kids.length c1,.int .i64 op2,.int .i64 n2,.string s2,.slice ao2 d.kids.length c2] 24)
        have a8:=((a5.next hd5).trans a6).alloc (.cells #[.int .i64 op1,.int .i64 n1,.string s1,.slice ao1 b.kids.length c1,.int .i64 op2,.int .i64 n2,.string s2,.slice ao2 d.kids.length c2] 24)
        have hR8:=((hR5.later hd5).away a6 (by omega)).later (below_alloc wy (.cells #[.int .i64 op1,.int .i64 n1,.string s1,.slice ao1 b.kids.length c1,.int .i64 op2,.int .i64 n2,.string s2,.slice ao2 d.kids.length c2] 24))
        have h88:=eight_new wy (.int .i64 op1) (.int .i64 n1) (.string s1) (.slice ao1 b.kids.length c1) (.int .i64 op2) (.int .i64 n2) (.string s2) (.slice ao2 d.kids.length c2) 24
        have hs8:=alloc_size wy (.cells #[.int .i64 op1,.int .i64 n1,.string s1,.slice ao1 b.kids.length c1,.int .i64 op2,.int .i64 n2,.string s2,.slice ao2 d.kids.length c2] 24)
        obtain⟨w8,hw8⟩:∃ w8,wy.alloc (.cells #[.int .i64 op1,.int .i64 n1,.string s1,.slice ao1 b.kids.length c1,.int .i64 op2,.int .i64 n2,.string s2,.slice ao2 d.kids.length c2] 24)=w8:=⟨_,rfl⟩
        rw[hw8] at hHeld xb row8 hnb8 xd8 xb7 xd7 p8 a8 hR8 h88 hs8 ⊢
        clear hw8 xb' xd x6 a6 p6 hx5 hR5 hF5 a5 p5 hw5 cL x1 f1
        cases sw with
        | false =>
         obtain rfl:=HSS.out.2 rfl
         have hss:(S2.toList == S2.toList)=true:=by simp
         have hLR:=LRel.next a8 p8 hR8 hwC hgl hHeld HOI.out (by omega) (by omega) (by omega) row8
         have hx9:=tree_next (c:=C) HOI.out (by omega) (by omega) (by omega) row8
         have HLR:=hid hLR
         have HX9:=hid hx9
         obtain⟨-,y0,y1,y2,y3,e0,e1,e2,e3⟩:=hHeld
         obtain⟨-,z0,z1,z2,z3,f0,f1',f2,f3⟩:=hR8
         have hn1:¬ w.heap.size=C:=by omega
         have hn2:¬ C=w.heap.size:=by omega
         clear hLR hx9 a8 p8 xb xd8 row8 hnb8 h88 xb7 xd7
         by_cases hl2:l=2
         ·have hN3:(N == 3)=true:=by have:=HN.out;rw[hl2] at this;rw[← this];rfl
          have hq:=HPL2.out
          rw[if_pos hl2] at hq
          injection hq with hq
          have HRR:=hid hq
          clear hq hl2
          go_wp2_with fail
          exact bodyPost_ret (v:=EV (o:Int) 0 ⟨#[]⟩ (.slice (some ⟨wy.heap.size,0,none⟩) 2 2)) (by simp[results,results90,go_sem,z0,z1,z2,z3]) rfl
           (PEnd.mk_ok (by rw[← HRR.out,hj6];rfl) (HLR.out.1.put4 (Nat.le_refl _) _ _ _ _) HX9.out (HLR.out.2.1.put4 hgl _ _ _ _))
         ·have hN3:(N == 3)=false:=beq_eq_false_iff_ne.2 (by have:=HN.out;omega)
          have hq:=HPL2.out
          rw[if_neg hl2] at hq
          have HRR:=hid hq
          clear hq hl2
          go_wp2_with fail
          go_roundg f
          case measure=>omega
          case rel=>exact⟨j2,_,by omega,hid (by rw[← hj6];exact HRR.out),HLR⟩
        | true =>
         have hss:=txt_ne (HSS.out.1 rfl)
         have cV:=rev_any w8 wy.heap.size op1 n1 op2 n2 s1 s2 ao1 ao2 b.kids.length c1 d.kids.length c2 h88
         go_wp2_with fail
         refine cV.mono ?_
         rintro e w9 ⟨rfl,a9',hnb9,r0,r1,r2,r3,r4,r5,r6,r7⟩
         have hs9:=a9'.size
         have a9:=away_other a8 a9' (by omega)
         have p9:=p8.away a9' (by omega)
         have hR9:=hR8.away a9' (by omega)
         have hC9:=hHeld.away a9' (by omega)
         have row9:=RowIn.one (hnb9 hnb8) r0 r1 r2 r3 ((xd7.keep (Stays.away a9' (fun hc=>hc.2 rfl))).wide (R:=fun z=>w.heap.size≤z∧z≠w.heap.size∧z≠C) (fun _ hz _=>hz.1)) (RowIn.one (hnb9 hnb8) r4 r5 r6 r7 ((xb7.keep (Stays.away a9' (fun hc=>hc.2 rfl))).wide (R:=fun z=>w.heap.size≤z∧z≠w.heap.size∧z≠C) (fun _ hz _=>hz.1)) .none)
         clear cV a8 p8 hR8 hHeld a9' xb xd8 xb7 xd7 row8 hnb8 h88 r0 r1 r2 r3 r4 r5 r6 r7
         have hLR:=LRel.next a9 p9 hR9 hwC hgl hC9 HOI.out (by omega) (by omega) (by omega) row9
         have hx9:=tree_next (c:=C) HOI.out (by omega) (by omega) (by omega) row9
         have HLR:=hid hLR
         have HX9:=hid hx9
         obtain⟨-,y0,y1,y2,y3,e0,e1,e2,e3⟩:=hC9
         obtain⟨-,z0,z1,z2,z3,f0,f1',f2,f3⟩:=hR9
         have hn1:¬ w.heap.size=C:=by omega
         have hn2:¬ C=w.heap.size:=by omega
         clear hLR hx9 a9 p9 row9
         by_cases hl2:l=2
         ·have hN3:(N == 3)=true:=by have:=HN.out;rw[hl2] at this;rw[← this];rfl
          have hq:=HPL2.out
          rw[if_pos hl2] at hq
          injection hq with hq
          have HRR:=hid hq
          clear hq hl2
          go_wp2_with fail
          exact bodyPost_ret (v:=EV (o:Int) 0 ⟨#[]⟩ (.slice (some ⟨wy.heap.size,0,none⟩) 2 2)) (by simp[results,results90,go_sem,z0,z1,z2,z3]) rfl
           (PEnd.mk_ok (by rw[← HRR.out,hj6];rfl) (HLR.out.1.put4 (Nat.le_refl _) _ _ _ _) HX9.out (HLR.out.2.1.put4 hgl _ _ _ _))
         ·have hN3:(N == 3)=false:=beq_eq_false_iff_ne.2 (by have:=HN.out;omega)
          have hq:=HPL2.out
          rw[if_neg hl2] at hq
          have HRR:=hid hq
          clear hq hl2
          go_wp2_with fail
          go_roundg f
          case measure=>omega
          case rel=>exact⟨j2,_,by omega,hid (by rw[← hj6];exact HRR.out),HLR⟩
 ·have hl5':l=5:=by omega
  subst hl5'
  rw[if_neg hl] at hr
  have cI:=I1 F (Nat.lt_succ_self F) wA i r gA hr
  have hN6:((5:Nat):Int)+1=6:=rfl
  rw[hN6]
  clear I1 I3 hl5 hl hr p hN6
  cases r with
  | error pp =>
   go_enter func90,ntmps90
   go_wp2_with fail
   refine cI.mono ?_
   rintro e w1 hP
   obtain⟨rfl,a1⟩:=hP.err
   go_wp2
   exact⟨rfl,PEnd.mk_err rfl ((Away.of hb0).trans a1)⟩
  | ok x =>
   obtain⟨a,q⟩:=x
   go_enter func90,ntmps90
   go_wp2_with fail
   refine cI.mono ?_
   rintro e w1 hP
   obtain⟨op,n,s,ao,c,j,rfl,a1,x1,hj,p1⟩:=hP.ok
   have hs1:=a1.size
   obtain⟨-,z0,z1,z2,z3,f0,f1',f2,f3⟩:=hF0.away a1 (by omega)
   have hx:=ex_set4 (R:=w.heap.size) (g:=w.heap.size) x1 (by omega) (by omega) (.int .i64 op) (.int .i64 n) (.string s) (.slice ao a.kids.length c)
   clear cI hP x1 hF0 hwA gA
   go_wp2
   exact bodyPost_ret (v:=EV op n s (.slice ao a.kids.length c)) (by simp[results,results90,go_sem,z0,z1,z2,z3]) rfl
    (PEnd.mk_ok (by rw[hj]) (((Away.of hb0).trans a1).put4 (Nat.le_refl _) _ _ _ _) hx (p1.put4 hgl _ _ _ _))
end
end
section
open _root_.Go.Proofs.Tryz
set_option maxHeartbeats 400000
open Go.RowKit
theorem parser_all (w0:World) (g:Nat) (T:List Tk) (h cap:Nat):∀ F,LineC w0 g T h cap F∧OneC w0 g T h cap F∧WordC w0 g T h cap F∧KidsC w0 g T h cap F:=by
 intro F
 induction F using Nat.strongRecOn with
 | ind F ih =>
  have hL:=line_walk (w0:=w0) (g:=g) (T:=T) (h:=h) (cap:=cap) F (fun k hk=>(ih k hk).2.1) (fun k hk=>(ih k hk).1)
  have hK:=kids_walk (w0:=w0) (g:=g) (T:=T) (h:=h) (cap:=cap) F (fun k hk=>(ih k hk).1)
  have hW:=word_walk (w0:=w0) (g:=g) (T:=T) (h:=h) (cap:=cap) F (fun k hk=>(ih k hk).2.2.2)
  refine⟨hL,?_,hW,hK⟩
  cases F with
  | zero=>intro w i r _ hr;rw[pU] at hr;cases hr
  | succ f=>exact one_walk f (ih f (Nat.lt_succ_self f)).2.1 (fun k hk=>(ih k (Nat.lt_succ_of_lt hk)).2.2.1) (fun k hk=>(ih k (Nat.lt_succ_of_lt hk)).1)
theorem pline_any (w0 w:World) (g:Nat) (T:List Tk) (h cap i:Nat) (r:Except Nat (Ex × List Tk)) (p:PG w0 w g T h cap i) (hr:PE 0 (T.drop i) r) :
  Calls prog 90 #[.pointer (some ⟨g,0,none⟩),.int .i64 1] w (PEnd w0 w g T h cap r):=by
 obtain⟨f,hf⟩:=hr
 have:=(parser_all w0 g T h cap f).1 0 w i r (by decide) p hf
 simpa using this
theorem not_nilI (w:World) (u:TypeId) (v:Value):(binOp .eql 20 (.iface u v) .nilIface).run prog w=.ok (.bool false) w:=by kernel_rfl
theorem is_nilI (w:World):(binOp .eql 20 .nilIface .nilIface).run prog w=.ok (.bool true) w:=by kernel_rfl
theorem as_wrong (w:World) (v:Value):(Instr.typeAssert (.iface 147 v) 20 147 true).run prog w=.ok (.tuple #[v,.bool true]) w:=by kernel_rfl
def CatchW (x:Exit) (w1:World) (e:Exit) (a:Act) (w':World):Prop:=e=x∧a.defers=[]∧w'=w1
theorem catchw_idle (p q s:Addr) (w:World) :
  CallsD prog 89 #[.pointer (some p),.pointer (some q),.pointer (some s)] .returning w fun e u' w'=>e=.returned (.tuple #[])∧u'=.returning∧w'=w:=by
 have hn:=is_nilI
 refine callsD_of_wpS func89 rfl fun c₀ cs hu=>?_
 apply wpS_seq
 apply wpS_region
 simp[wpOpsS,go_sem,recoverD,hu,ntmps89,Exit.thenS]
 refine wpS_of_wp ?_
 refine Code.wp_mono (Q:=CatchW .ret w) ?_ ?_
 ·rintro e a w' ⟨rfl,hd,rfl⟩
  refine⟨hd,_,?_,.tuple #[],?_,rfl,hu,rfl⟩
  ·cases c₀;simp_all
  ·simp[results,results89,go_sem]
 rw[show (#[.pointer (some p),.pointer (some q),.pointer (some s)]++((Array.replicate 16 undef).setIfInBounds 3 (.nilIface)).setIfInBounds 0 (.nilIface):Array Value)=#[.pointer (some p),.pointer (some q),.pointer (some s),.nilIface,undef,undef,.nilIface,undef,undef,undef,undef,undef,undef,undef,undef,undef,undef,undef,undef] by kernel_rfl]
 clear hu
 go_wp2
 exact⟨rfl,rfl,rfl⟩
theorem catchw_falls (p:Nat) (A B D:Nat) (v0 v1 v2 v3 x y:Value) (w:World) (hA:Four w A v0 v1 v2 v3) (hB:w.cell? ⟨B,0,none⟩=some x) (hD:w.cell? ⟨D,0,none⟩=some y) (fB:w.frozen? ⟨B,0,none⟩=false) (fD:w.frozen? ⟨D,0,none⟩=false) (h1:A<B) (h2:B<D) :
  CallsD prog 89 #[.pointer (some ⟨A,0,none⟩),.pointer (some ⟨B,0,none⟩),.pointer (some ⟨D,0,none⟩)] (.panicking [{ v:=.iface 147 (.int .i64 (p:Int)),recovered:=false }]) w fun e u' w' =>
   e=.returned (.tuple #[])∧u'=.panicking [{ v:=.iface 147 (.int .i64 (p:Int)),recovered:=true }] ∧
    w'=((set4 w A (.int .i64 0) (.int .i64 0) (.string ⟨#[]⟩) (.slice none 0 0)).setCell ⟨B,0,none⟩ (.int .i64 (p:Int))).setCell ⟨D,0,none⟩ (.int .i64 6):=by
 have hn:=fun w=>not_nilI w 147 (.int .i64 (p:Int))
 have ha:=fun w=>as_wrong w (.int .i64 (p:Int))
 obtain⟨-,z0,z1,z2,z3,f0,f1,f2,f3⟩:=hA
 have n1:¬ A=B:=by omega
 have n2:¬ B=A:=by omega
 have n3:¬ A=D:=by omega
 have n4:¬ D=A:=by omega
 have n5:¬ B=D:=by omega
 have n6:¬ D=B:=by omega
 refine callsD_of_wpS func89 rfl fun c₀ cs hu=>?_
 apply wpS_seq
 apply wpS_region
 simp[wpOpsS,go_sem,recoverD,hu,ntmps89,Exit.thenS]
 refine wpS_of_wp ?_
 refine Code.wp_mono (Q:=CatchW .normal (((set4 w A (.int .i64 0) (.int .i64 0) (.string ⟨#[]⟩) (.slice none 0 0)).setCell ⟨B,0,none⟩ (.int .i64 (p:Int))).setCell ⟨D,0,none⟩ (.int .i64 6))) ?_ ?_
 ·rintro e a w' ⟨rfl,hd,rfl⟩
  refine⟨hd,_,rfl,.tuple #[],?_,rfl,rfl,rfl⟩
  simp[results,results89,go_sem]
 rw[show (#[.pointer (some ⟨A,0,none⟩),.pointer (some ⟨B,0,none⟩),.pointer (some ⟨D,0,none⟩)]++((Array.replicate 16 undef).setIfInBounds 3 (.iface 147 (.int .i64 (p:Int)))).setIfInBounds 0 (.iface 147 (.int .i64 (p:Int))):Array Value)=#[.pointer (some ⟨A,0,none⟩),.pointer (some ⟨B,0,none⟩),.pointer (some ⟨D,0,none⟩),.iface 147 (.int .i64 (p:Int)),undef,undef,.iface 147 (.int .i64 (p:Int)),undef,undef,undef,undef,undef,undef,undef,undef,undef,undef,undef,undef] by kernel_rfl]
 clear hu
 go_wp2
 exact⟨rfl,rfl,rfl⟩
end
section
open Lib (hid)
open _root_.Go.Proofs.Tryz
set_option maxHeartbeats 2000000
set_option maxRecDepth 100000
open Go.RowKit
def wholeR (r:Except Nat (Ex × List Tk)):Except Nat Ex :=
 match r with
 | .error p=>.error p
 | .ok (a,q)=>match q with
  | t :: _=>if t.k=0 then .ok a else .error t.a
  | []=>.error 0
def WEnd (w:World) (R:Except Nat Ex) (e:Ending) (w':World):Prop :=
 Below w.heap.size w w'∧match R with
 | .ok a=>∃ op n s ao c,e=.returned (.tuple #[EV op n s (.slice ao a.kids.length c),.int .i64 0,.int .i64 0])∧ExIn w' (Up w.heap.size) a (EV op n s (.slice ao a.kids.length c))
 | .error p=>e=.returned (.tuple #[EV 0 0 ⟨#[]⟩ (.slice none 0 0),.int .i64 (p:Int),.int .i64 6])
structure Res3 (w:World) (A:Nat) (v0 v1 v2 v3 x y:Value):Prop where
 a:Four w A v0 v1 v2 v3
 lt:A+2<w.heap.size
 cb:w.cell? ⟨A+1,0,none⟩=some x
 cd:w.cell? ⟨A+2,0,none⟩=some y
 fb:w.frozen? ⟨A+1,0,none⟩=false
 fd:w.frozen? ⟨A+2,0,none⟩=false
theorem Res3.away {w w':World} {g A:Nat} {v0 v1 v2 v3 x y:Value} (h:Res3 w A v0 v1 v2 v3 x y) (k:Away g w w') (hg:A+2<g):Res3 w' A v0 v1 v2 v3 x y :=
 ⟨h.a.away k (by omega),Nat.lt_of_lt_of_le h.lt k.size,(k.cell (p:=⟨A+1,0,none⟩) (by have:=h.lt;dsimp only;omega) (by dsimp only;omega)).trans h.cb,(k.cell (p:=⟨A+2,0,none⟩) h.lt (by dsimp only;omega)).trans h.cd,
  (k.frozen (p:=⟨A+1,0,none⟩) (by have:=h.lt;dsimp only;omega) (by dsimp only;omega)).trans h.fb,(k.frozen (p:=⟨A+2,0,none⟩) h.lt (by dsimp only;omega)).trans h.fd⟩
theorem Res3.later {w w':World} {A:Nat} {v0 v1 v2 v3 x y:Value} (h:Res3 w A v0 v1 v2 v3 x y) (hb:Below w.heap.size w w'):Res3 w' A v0 v1 v2 v3 x y :=
 ⟨h.a.later hb,Nat.lt_of_lt_of_le h.lt hb.size,(hb.cell (p:=⟨A+1,0,none⟩) (by have:=h.lt;dsimp only;omega)).trans h.cb,(hb.cell (p:=⟨A+2,0,none⟩) h.lt).trans h.cd,
  (hb.frozen (p:=⟨A+1,0,none⟩) (by have:=h.lt;dsimp only;omega)).trans h.fb,(hb.frozen (p:=⟨A+2,0,none⟩) h.lt).trans h.fd⟩
theorem res3_new (w:World) (t1 t2 t3:TypeId) (v0 v1 v2 v3 x y:Value):Res3 (((w.alloc (.cells #[v0,v1,v2,v3] t1)).alloc (.cells #[x] t2)).alloc (.cells #[y] t3)) w.heap.size v0 v1 v2 v3 x y:=by
 have e1:=alloc_size w (.cells #[v0,v1,v2,v3] t1)
 have e2:=alloc_size (w.alloc (.cells #[v0,v1,v2,v3] t1)) (.cells #[x] t2)
 have e3:=alloc_size ((w.alloc (.cells #[v0,v1,v2,v3] t1)).alloc (.cells #[x] t2)) (.cells #[y] t3)
 have b2:=below_alloc (w.alloc (.cells #[v0,v1,v2,v3] t1)) (.cells #[x] t2)
 have b3:=below_alloc ((w.alloc (.cells #[v0,v1,v2,v3] t1)).alloc (.cells #[x] t2)) (.cells #[y] t3)
 have c2:=cells_of_alloc (w.alloc (.cells #[v0,v1,v2,v3] t1)) #[x] t2 0
 have c3:=cells_of_alloc ((w.alloc (.cells #[v0,v1,v2,v3] t1)).alloc (.cells #[x] t2)) #[y] t3 0
 rw[e1] at c2
 rw[e2,e1] at c3
 refine⟨((four_new w v0 v1 v2 v3 t1).later b2).later b3,by omega,?_,?_,?_,?_⟩
 ·rw[b3.cell (p:=⟨w.heap.size+1,0,none⟩) (by dsimp only;omega),c2];rfl
 ·rw[c3];rfl
 ·rw[b3.frozen (p:=⟨w.heap.size+1,0,none⟩) (by dsimp only;omega)]
  have:w.heap.size+1=(w.alloc (.cells #[v0,v1,v2,v3] t1)).heap.size:=e1.symm
  rw[this];simp
 ·have f:=(show ∀ v:World,(v.alloc (.cells #[y] t3)).frozen? ⟨v.heap.size,0,none⟩=false by intro v;simp) ((w.alloc (.cells #[v0,v1,v2,v3] t1)).alloc (.cells #[x] t2))
  rw[e2,e1] at f
  exact f
theorem PG.putx {w0 w:World} {g:Nat} {T:List Tk} {h cap i:Nat} (p:PG w0 w g T h cap i) {b:Nat} (hb:w0.heap.size≤b) (hg:b≠g) (hh:b≠h) (k:Nat) (u:Value):PG w0 (w.setCell ⟨b,k,none⟩ u) g T h cap i :=
 ⟨p.env,p.base.setCell (p:=⟨b,k,none⟩) hb _,p.gz,p.good,p.lt,p.le,p.big,by rw[Below.heap_setCell _ _ _ _ (by dsimp only;omega)];exact p.obj,p.hg,p.row.away (g:=b) ((Away.refl b w).set k _) (by omega)⟩
theorem PG.putx4 {w0 w:World} {g:Nat} {T:List Tk} {h cap i:Nat} (p:PG w0 w g T h cap i) {b:Nat} (hb:w0.heap.size≤b) (hg:b≠g) (hh:b≠h) (x0 x1 x2 x3:Value):PG w0 (set4 w b x0 x1 x2 x3) g T h cap i :=
 (((p.putx hb hg hh 0 x0).putx hb hg hh 1 x1).putx hb hg hh 2 x2).putx hb hg hh 3 x3
theorem Res3.put4 {w:World} {A:Nat} {v0 v1 v2 v3 x y:Value} (h:Res3 w A v0 v1 v2 v3 x y) (u0 u1 u2 u3:Value):Res3 (set4 w A u0 u1 u2 u3) A u0 u1 u2 u3 x y:=by
 have ho:∀ (q:Addr),q.block≠A→(set4 w A u0 u1 u2 u3).cell? q=w.cell? q:=fun q hq=>by
  refine World.cell?_of_block (w:=w) ?_
  simp only[set4]
  rw[Below.heap_setCell _ _ _ _ hq,Below.heap_setCell _ _ _ _ hq,Below.heap_setCell _ _ _ _ hq,Below.heap_setCell _ _ _ _ hq]
 have hf:∀ (q:Addr),q.block≠A→(set4 w A u0 u1 u2 u3).frozen? q=w.frozen? q:=fun q hq=>by
  refine World.frozen?_of_block (w:=w) ?_
  simp only[set4]
  rw[Below.heap_setCell _ _ _ _ hq,Below.heap_setCell _ _ _ _ hq,Below.heap_setCell _ _ _ _ hq,Below.heap_setCell _ _ _ _ hq]
 exact⟨h.a.set u0 u1 u2 u3,by rw[set4_size];exact h.lt,(ho _ (by dsimp only;omega)).trans h.cb,(ho _ (by dsimp only;omega)).trans h.cd,(hf _ (by dsimp only;omega)).trans h.fb,(hf _ (by dsimp only;omega)).trans h.fd⟩
theorem below_put4 {B A:Nat} {w w':World} (h:Below B w w') (hA:B≤A) (u0 u1 u2 u3:Value):Below B w (set4 w' A u0 u1 u2 u3) :=
 (((h.setCell (p:=⟨A,0,none⟩) hA _).setCell (p:=⟨A,1,none⟩) hA _).setCell (p:=⟨A,2,none⟩) hA _).setCell (p:=⟨A,3,none⟩) hA _
theorem whole_any (w:World) (T:List Tk) (h cap:Nat) (r:Except Nat (Ex × List Tk)) (hE:EnvP w) (hG:GoodT T) (h0:0<T.length) (hle:T.length≤cap) (hbig:T.length≤1000) (hrow:TRow w h T) (hr:PE 0 T r) :
  Calls prog 43 #[.slice (some ⟨h,0,none⟩) T.length cap] w (WEnd w (wholeR r)):=by
 have hmf:∀ (fn:Fn) (first cap:Array Value) (w:World),(Instr.makeFunc fn first cap).run prog w=.ok (.func fn first cap) w:=fun _ _ _ _=>rfl
 have hR:=res3_new w 24 3 33 (.int .i64 0) (.int .i64 0) (.string ⟨#[]⟩) (.slice none 0 0) (.int .i64 0) (.int .i64 0)
 have hb3:Below w.heap.size w (((w.alloc (.cells #[.int .i64 0,.int .i64 0,.string ⟨#[]⟩,.slice none 0 0] 24)).alloc (.cells #[.int .i64 0] 3)).alloc (.cells #[.int .i64 0] 33)):=((below_alloc w _).alloc (by simp) _).alloc (by simp;omega) _
 have hs3:(((w.alloc (.cells #[.int .i64 0,.int .i64 0,.string ⟨#[]⟩,.slice none 0 0] 24)).alloc (.cells #[.int .i64 0] 3)).alloc (.cells #[.int .i64 0] 33)).heap.size=w.heap.size+3:=by simp only[alloc_size]
 obtain⟨w3,hw3⟩:∃ w3,(((w.alloc (.cells #[.int .i64 0,.int .i64 0,.string ⟨#[]⟩,.slice none 0 0] 24)).alloc (.cells #[.int .i64 0] 3)).alloc (.cells #[.int .i64 0] 33))=w3:=⟨_,rfl⟩
 rw[hw3] at hR hb3 hs3
 have hb4:=below_alloc w3 (.cells #[.slice (some ⟨h,0,none⟩) T.length cap,.int .i64 0] 151)
 have hR4:=hR.later hb4
 have p4:PG w (w3.alloc (.cells #[.slice (some ⟨h,0,none⟩) T.length cap,.int .i64 ((0:Nat):Int)] 151)) w3.heap.size T h cap 0 :=
  ⟨hE,below_to hb3 hb4,by omega,hG,h0,hle,hbig,alloc_at w3 _,by have:=hrow.1;omega,(hrow.away (g:=w3.heap.size) ((Away.of hb3).next hb4) (by have:=hrow.1;omega))⟩
 rw[show ((0:Nat):Int)=0 from rfl] at p4
 have cL:=pline_any w _ w3.heap.size T h cap 0 r p4 (by rw[List.drop_zero];exact hr)
 rw[hs3] at p4 cL
 have hA4:=below_to hb3 hb4
 have hs4:=alloc_size w3 (.cells #[.slice (some ⟨h,0,none⟩) T.length cap,.int .i64 0] 151)
 have hset:∀ p:Nat,settle (.panicking [{ v:=.iface 147 (.int .i64 (p:Int)),recovered:=true }])=.returning:=fun p=>rfl
 have hhl:=hrow.1
 clear hr hE hrow
 cases r with
 | error p =>
  go_enter_defers func43,ntmps43
  go_wp2_with fail
  refine cL.mono ?_
  rintro e w5 hP
  obtain⟨rfl,a5⟩:=hP.err
  have hR5:=hR4.away a5 (by omega)
  have hB5:Below w.heap.size w w5:=hA4.trans (a5.below (by omega) (by omega))
  clear cL hP a5
  go_wp2
  refine leaves_cons (f:=89) (args:=#[.pointer (some ⟨w.heap.size,0,none⟩),.pointer (some ⟨w.heap.size+1,0,none⟩),.pointer (some ⟨w.heap.size+1+1,0,none⟩)]) (by simp) (by simp[go_sem]) ?_
  refine (catchw_falls p w.heap.size (w.heap.size+1) (w.heap.size+1+1) _ _ _ _ _ _ w5 hR5.a hR5.cb hR5.cd hR5.fb hR5.fd (by omega) (by omega)).mono ?_
  rintro e u' w'' ⟨rfl,rfl,rfl⟩
  show Leaves _ _ _ _ [] (settle _) _
  rw[hset]
  obtain⟨⟨-,z0,z1,z2,z3,-⟩,-,q1,q2,-⟩:=hR5
  refine⟨.tuple #[EV 0 0 ⟨#[]⟩ (.slice none 0 0),.int .i64 (p:Int),.int .i64 6],?_,?_⟩
  ·simp[results,results43,go_sem,z0,z1,z2,z3,q1,q2]
  ·exact⟨(((((hB5.setCell (p:=⟨w.heap.size,0,none⟩) (Nat.le_refl _) _).setCell (p:=⟨w.heap.size,1,none⟩) (Nat.le_refl _) _).setCell (p:=⟨w.heap.size,2,none⟩) (Nat.le_refl _) _).setCell (p:=⟨w.heap.size,3,none⟩) (Nat.le_refl _) _).setCell (p:=⟨w.heap.size+1,0,none⟩) (Nat.le_succ _) _).setCell (p:=⟨w.heap.size+1+1,0,none⟩) (by dsimp only;omega) _,rfl⟩
 | ok x =>
  obtain⟨a,q⟩:=x
  go_enter_defers func43,ntmps43
  go_wp2_with fail
  refine cL.mono ?_
  rintro e w5 hP
  obtain⟨op,n,s,ao,c,j,rfl,a5,x5,hj,p5⟩:=hP.ok
  have hR5:=hR4.away a5 (by omega)
  have hB5:Below w.heap.size w w5:=hA4.trans (a5.below (by omega) (by omega))
  have hs5:=a5.size
  have p6:=p5.putx4 (b:=w.heap.size) (Nat.le_refl _) (by omega) (by omega) (.int .i64 op) (.int .i64 n) (.string s) (.slice ao a.kids.length c)
  have hR6:=hR5.put4 (.int .i64 op) (.int .i64 n) (.string s) (.slice ao a.kids.length c)
  have hB6:=below_put4 hB5 (Nat.le_refl _) (.int .i64 op) (.int .i64 n) (.string s) (.slice ao a.kids.length c)
  have x6:=x5.keep (Stays.set4 w5 (.int .i64 op) (.int .i64 n) (.string s) (.slice ao a.kids.length c) (g:=w.heap.size) (by show ¬ _≤w.heap.size;omega))
  have hs6:=set4_size w5 w.heap.size (.int .i64 op) (.int .i64 n) (.string s) (.slice ao a.kids.length c)
  obtain⟨⟨-,z0,z1,z2,z3,f0,f1,f2,f3⟩,-⟩:=hR5
  obtain⟨t,ht,hd,-⟩:=p6.tok
  have c6:=token_any w _ (w.heap.size+3) T h cap j t p6 ht
  have cF:=fun w' (hb:Below _ _ w')=>fail_any w w' (w.heap.size+3) T h cap j t (p6.later hb) ht
  have hq:wholeR (.ok (a,q))=if t.k=0 then .ok a else .error t.a:=by unfold wholeR;rw[hj,hd]
  have HQ:=hid hq
  simp only[set4] at p6 hR6 hB6 x6 hs6 c6 cF
  have hfd:=fun w=>fld_0 (t.k:Int) ⟨t.s.toArray⟩ (t.n:Int) (t.a:Int) w
  clear cL hP x5 p5 a5 hB5 hj hq hd ht
  generalize (⟨t.s.toArray⟩:ByteArray)=S at *
  generalize (t.n:Int)=N at *
  by_cases hk:t.k=0
  ·have hkI:((t.k:Nat):Int)=0:=by rw[hk];rfl
   rw[hkI] at c6 hfd
   have HK:=hid hk
   clear hk hkI cF
   go_wp2_with fail
   generalize hw6:((((w5.setCell { block:=w.heap.size,off:=0 } (.int .i64 op)).setCell { block:=w.heap.size,off:=1 } (.int .i64 n)).setCell { block:=w.heap.size,off:=2 } (.string s)).setCell { block:=w.heap.size,off:=3 } (.slice ao a.kids.length c))=w6 at *
   refine c6.mono ?_
   rintro e w7 ⟨rfl,b7⟩
   have hR7:=hR6.later b7
   have x7:=x6.later b7
   have hB7:=below_to hB6 b7
   have hs7:=b7.size
   clear c6 hR6 x6 hB6 p6 hw6 z0 z1 z2 z3 f0 f1 f2 f3
   obtain⟨⟨-,z0,z1,z2,z3,f0,f1,f2,f3⟩,hlt,q1,q2,g1,g2⟩:=hR7
   have n1:¬ w.heap.size=w.heap.size+1:=by omega
   have n2:¬ w.heap.size+1=w.heap.size:=by omega
   have n3:¬ w.heap.size=w.heap.size+2:=by omega
   have n4:¬ w.heap.size+2=w.heap.size:=by omega
   have n5:¬ w.heap.size+1=w.heap.size+2:=by omega
   have n6:¬ w.heap.size+2=w.heap.size+1:=by omega
   go_wp2
   refine leaves_cons (f:=89) (args:=#[.pointer (some ⟨w.heap.size,0,none⟩),.pointer (some ⟨w.heap.size+1,0,none⟩),.pointer (some ⟨w.heap.size+1+1,0,none⟩)]) (by simp) (by simp[go_sem]) ?_
   refine (catchw_idle _ _ _ _).mono ?_
   rintro e u' w'' ⟨rfl,rfl,rfl⟩
   rw[HQ.out,if_pos HK.out]
   have hns:∀ b,b≤w.heap.size+2→¬ Up (w3.alloc (.cells #[.slice (some ⟨h,0,none⟩) T.length cap,.int .i64 0] 151)).heap.size b:=fun b hb hc=>by
    have:(w3.alloc (.cells #[.slice (some ⟨h,0,none⟩) T.length cap,.int .i64 0] 151)).heap.size≤b:=hc
    omega
   refine⟨.tuple #[EV op n s (.slice ao a.kids.length c),.int .i64 0,.int .i64 0],?_,?_⟩
   ·simp[results,results43,go_sem,z0,z1,z2,z3,q1,q2]
   ·refine⟨(((below_put4 hB7 (Nat.le_refl _) _ _ _ _).setCell (p:=⟨w.heap.size+1,0,none⟩) (Nat.le_succ _) _).setCell (p:=⟨w.heap.size+1+1,0,none⟩) (by dsimp only;omega) _),_,_,_,_,_,rfl,?_⟩
    exact (((x7.keep (Stays.set4 _ _ _ _ _ (hns _ (by omega)))).keep (Stays.set _ 0 _ (hns (w.heap.size+1) (by omega)))).keep (Stays.set _ 0 _ (hns (w.heap.size+1+1) (by omega)))).wide (fun b hb _=>by
     have:(w3.alloc (.cells #[.slice (some ⟨h,0,none⟩) T.length cap,.int .i64 0] 151)).heap.size≤b:=hb
     show w.heap.size≤b
     omega)
  ·have HK:=hid hk
   have hkz:((t.k:Int) == 0)=false:=beq_eq_false_iff_ne.2 (by omega)
   clear hk
   generalize (t.k:Int)=K at *
   go_wp2_with fail
   generalize hw6:((((w5.setCell { block:=w.heap.size,off:=0 } (.int .i64 op)).setCell { block:=w.heap.size,off:=1 } (.int .i64 n)).setCell { block:=w.heap.size,off:=2 } (.string s)).setCell { block:=w.heap.size,off:=3 } (.slice ao a.kids.length c))=w6 at *
   refine c6.mono ?_
   rintro e w7 ⟨rfl,b7⟩
   have c8:=cF w7 b7
   have hR7:=hR6.later b7
   have hB7:=below_to hB6 b7
   clear c6 hR6 x6 hB6 p6 hw6 z0 z1 z2 z3 f0 f1 f2 f3 cF
   go_wp2_with fail
   refine c8.mono ?_
   rintro e w8 ⟨rfl,b8⟩
   have hR8:=hR7.later b8
   have hB8:=below_to hB7 b8
   clear c8 hR7 hB7
   go_wp2
   refine leaves_cons (f:=89) (args:=#[.pointer (some ⟨w.heap.size,0,none⟩),.pointer (some ⟨w.heap.size+1,0,none⟩),.pointer (some ⟨w.heap.size+1+1,0,none⟩)]) (by simp) (by simp[go_sem]) ?_
   refine (catchw_falls t.a w.heap.size (w.heap.size+1) (w.heap.size+1+1) _ _ _ _ _ _ w8 hR8.a hR8.cb hR8.cd hR8.fb hR8.fd (by omega) (by omega)).mono ?_
   rintro e u' w'' ⟨rfl,rfl,rfl⟩
   show Leaves _ _ _ _ [] (settle _) _
   rw[hset,HQ.out,if_neg HK.out]
   obtain⟨⟨-,z0,z1,z2,z3,-⟩,-,q1,q2,-⟩:=hR8
   refine⟨.tuple #[EV 0 0 ⟨#[]⟩ (.slice none 0 0),.int .i64 (t.a:Int),.int .i64 6],?_,?_⟩
   ·simp[results,results43,go_sem,z0,z1,z2,z3,q1,q2]
   ·exact⟨(((below_put4 hB8 (Nat.le_refl _) _ _ _ _).setCell (p:=⟨w.heap.size+1,0,none⟩) (Nat.le_succ _) _).setCell (p:=⟨w.heap.size+1+1,0,none⟩) (by dsimp only;omega) _),rfl⟩
end
end Go.Proofs.YtbbblmedoagncaaGreatDoor
