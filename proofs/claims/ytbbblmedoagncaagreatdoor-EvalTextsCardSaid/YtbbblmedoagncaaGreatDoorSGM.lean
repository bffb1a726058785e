/- ParJ, ParW -/
import Derived.Test.YtbbblmedoagncaaGreatDoorSGL
import Derived.Test.YtbbblmedoagncaaGreatDoorSGJ
import Derived.Deep.LoopGhost
namespace Go.Proofs.YtbbblmedoagncaaGreatDoor
section
open Lib (hid)
open _root_.Go.Proofs.Tryz
set_option maxHeartbeats 2000000
set_option maxRecDepth 100000
open Go.RowKit
def finK (op:Nat) (es:List Ex) (rr:Except Nat (List Ex × List Tk)):Except Nat (Ex × List Tk) :=
 match rr with
 | .error p=>.error p
 | .ok (ks,z)=>if isS z [41] then .ok (.mk op 0 [] (es++ks),z.tail) else .error (at0 z)
def KS (F op n:Nat) (r:Except Nat (Ex × List Tk)) (j:Nat) (s:List UInt8) (es:List Ex) (ts:List Tk):Prop :=
 es.length=j∧((j=0∧s=[40]∧pX F op n ts=some r)∨(1≤j∧s=[44]∧∃ f,f<F∧∃ rr,pK f (n - j) false ts=some rr∧finK op es rr=r))
theorem KS.start {F op n:Nat} {r:Except Nat (Ex × List Tk)} {ts:List Tk} (h:pX F op n ts=some r):KS F op n r 0 [40] [] ts:=⟨rfl,.inl ⟨rfl,rfl,h⟩⟩
theorem KS.sign {F op n:Nat} {r:Except Nat (Ex × List Tk)} {j:Nat} {s:List UInt8} {es:List Ex} {ts:List Tk} (h:KS F op n r j s es ts):(j=0∧s=[40])∨(1≤j∧s=[44]):=by
 rcases h.2 with ⟨h1,h2,-⟩ | ⟨h1,h2,-⟩
 ·exact .inl ⟨h1,h2⟩
 ·exact .inr ⟨h1,h2⟩
theorem KS.step {F op n:Nat} {r:Except Nat (Ex × List Tk)} {j:Nat} {s:List UInt8} {es:List Ex} {t:Tk} {q:List Tk} (h:KS F op n r j s es (t :: q)) (hj:j<n) :
  (sgT t≠s∧r=.error t.a)∨(sgT t=s∧∃ f,f<F∧∃ re,pE f 0 q=some re∧(∀ p,re=.error p→r=.error p)∧∀ a q2,re=.ok (a,q2)→KS F op n r (j+1) [44] (es++[a]) q2):=by
 obtain⟨hl,⟨rfl,rfl,h⟩ | ⟨h1,rfl,f,hf,rr,h,hr⟩⟩:=h
 ·cases F with
  | zero=>rw[pX] at h;cases h
  | succ F =>
   rw[pX] at h
   by_cases hs:sgT t=[40]
   ·refine .inr ⟨hs,?_⟩
    rw[mustS_yes (by decide) hs,bnd_ok rfl] at h
    obtain rfl:=List.length_eq_zero_iff.1 hl
    obtain⟨m,rfl⟩:∃ m,n=m+1:=⟨n - 1,by omega⟩
    cases F with
    | zero=>rw[pK] at h;cases h
    | succ F =>
     rw[pK] at h
     simp only[if_true] at h
     rw[bnd_ok (x:=some (.ok q)) rfl] at h
     cases hE:pE F 0 q with
     | none=>rw[hE] at h;cases h
     | some re =>
      rw[hE] at h
      refine⟨F,by omega,re,hE,?_,?_⟩
      ·rintro p rfl
       rw[bnd_err rfl,bnd_err rfl] at h
       injection h with h;exact h.symm
      ·rintro a q2 rfl
       rw[bnd_ok rfl] at h
       dsimp only at h
       cases hK:pK F m false q2 with
       | none=>rw[hK] at h;cases h
       | some rr =>
        rw[hK] at h
        refine⟨by simp,.inr ⟨by omega,rfl,F,by omega,rr,by rw[show m+1 - (0+1)=m by omega];exact hK,?_⟩⟩
        cases rr with
        | error p=>rw[bnd_err rfl,bnd_err rfl] at h;injection h
        | ok x =>
         obtain⟨ks,z⟩:=x
         rw[bnd_ok rfl,bnd_ok rfl] at h
         dsimp only at h
         unfold finK
         dsimp only
         unfold mustS at h
         by_cases hc:isS z [41]=true
         ·rw[if_pos hc,bnd_ok rfl] at h
          rw[if_pos hc]
          injection h
         ·rw[if_neg hc,bnd_err rfl] at h
          rw[if_neg hc]
          injection h with h
   ·refine .inl ⟨hs,?_⟩
    rw[mustS_no (by decide) hs,bnd_err rfl] at h
    injection h with h;exact h.symm
 ·obtain⟨m,hm⟩:∃ m,n - j=m+1:=⟨n - j - 1,by omega⟩
  rw[hm] at h
  cases f with
  | zero=>rw[pK] at h;cases h
  | succ f =>
   rw[pK] at h
   simp only[Bool.false_eq_true,if_false] at h
   by_cases hs:sgT t=[44]
   ·refine .inr ⟨hs,?_⟩
    rw[mustS_yes (by decide) hs,bnd_ok rfl] at h
    cases hE:pE f 0 q with
    | none=>rw[hE] at h;cases h
    | some re =>
     rw[hE] at h
     refine⟨f,by omega,re,hE,?_,?_⟩
     ·rintro p rfl
      rw[bnd_err rfl] at h
      injection h with h
      subst h;exact hr.symm
     ·rintro a q2 rfl
      rw[bnd_ok rfl] at h
      dsimp only at h
      cases hK:pK f m false q2 with
      | none=>rw[hK] at h;cases h
      | some r2 =>
       rw[hK] at h
       refine⟨by simp[hl],.inr ⟨by omega,rfl,f,by omega,r2,by rw[show n - (j+1)=m by omega];exact hK,?_⟩⟩
       cases r2 with
       | error p =>
        rw[bnd_err rfl] at h
        injection h with h
        subst h;exact hr
       | ok x =>
        obtain⟨ks,z⟩:=x
        rw[bnd_ok rfl] at h
        injection h with h
        subst h
        rw[← hr]
        unfold finK
        simp
   ·refine .inl ⟨hs,?_⟩
    rw[mustS_no (by decide) hs,bnd_err rfl] at h
    injection h with h
    subst h;exact hr.symm
theorem KS.over {F op n:Nat} {r:Except Nat (Ex × List Tk)} {s:List UInt8} {es:List Ex} {t:Tk} {q:List Tk} (h:KS F op n r n s es (t :: q)) (hn:1≤n) :
  (sgT t=[41]∧r=.ok (.mk op 0 [] es,q))∨(sgT t≠[41]∧r=.error t.a):=by
 obtain⟨hl,⟨rfl,rfl,h⟩ | ⟨h1,rfl,f,hf,rr,h,hr⟩⟩:=h
 ·omega
 ·rw[Nat.sub_self] at h
  cases f with
  | zero=>rw[pK] at h;cases h
  | succ f =>
   rw[pK] at h
   injection h with h
   subst h
   unfold finK at hr
   dsimp only at hr
   rw[isS_sg (by decide),List.append_nil] at hr
   by_cases hs:sgT t=[41]
   ·rw[decide_eq_true hs,if_pos rfl] at hr
    exact .inl ⟨hs,hr.symm⟩
   ·rw[decide_eq_false hs,if_neg (by decide)] at hr
    exact .inr ⟨hs,hr.symm⟩
section
variable {w0:World} {g:Nat} {T:List Tk} {h cap:Nat}
theorem kids_walk (F:Nat) (I3:∀ k,k<F→LineC w0 g T h cap k):KidsC w0 g T h cap F:=by
 intro w i n op r hn1 hn3 p hr
 have hgl:=p.glt
 obtain⟨i0,hi,hz0,hz1,hz2⟩:=info_parts (show (prog.info? 24).map (fun i=>(i.zero,i.size,i.bytes))=some (some (.agg #[.int .i64 0,.int .i64 0,.string ⟨#[]⟩,.slice none 0 0]),4,56) by kernel_rfl)
 have hKS:=KS.start hr
 have HI:=hid I3
 have HKS:=hid hKS
 have HP:=hid p
 clear I3 hKS hr p
 go_enter func291,ntmps291
 go_wp2_with fail
 go_loopg [5,6,8] (n) (fun m s5 s6 s8 wr=>∃ (j ij:Nat) (s:List UInt8) (es:List Ex),j+m=n∧s8=.int .i64 (j:Int)∧s6=.string ⟨s.toArray⟩∧Hid (KS F op n r j s es (T.drop ij))∧Hid (Away g w wr)∧Hid (PG w0 wr g T h cap ij)∧Hid (Grow wr w.heap.size s5 es))
 case atStart=>exact⟨0,i,[40],[],Nat.zero_add _,rfl,rfl,HKS,hid (Away.refl _ _),HP,hid (Grow.nil _ _)⟩
 case round =>
  obtain⟨j,ij,s,es,hjm,rfl,rfl,HK,HA,HPR,HG⟩:=hrel
  clear HKS HP
  have hlen:=HK.out.1
  obtain⟨t,ht,hd,-⟩:=HPR.out.tok
  have hK:=HK.out
  rw[hd] at hK
  have hsg:=hK.sign
  have hsne:s≠[]:=by rcases hsg with ⟨-,rfl⟩ | ⟨-,rfl⟩<;>simp
  have HJM:=hid hjm
  by_cases hj:j<n
  ·have hjz:(j:Int)<(n:Int):=by omega
   have c1:=take_any w0 wr g T h cap ij s t HPR.out ht hsne
   rcases hK.step hj with ⟨hs,hre⟩ | ⟨hs,f,hf,re,hE,hre1,hre2⟩
   ·have HS:=hid hs
    have HR:=hid hre
    clear hK hs hre ht hd hsg hsne hlen hjm
    go_wp2_with fail
    refine c1.mono ?_
    rintro e w1 hT
    obtain⟨rfl,a1⟩:=hT.no HS.out
    go_wp2
    exact⟨rfl,KEnd.mk_err HR.out (HA.out.trans a1)⟩
   ·have HS:=hid hs
    have cL:=fun w' (p':PG w0 w' g T h cap (ij+1))=>HI.out f hf 0 w' (ij+1) re (by decide) p' hE
    simp only[Int.natCast_zero,Int.zero_add] at cL
    cases re with
    | error pp =>
     have HR:=hid (hre1 pp rfl)
     clear hK hs hre1 hre2 ht hd hsg hsne hlen hjm hE
     go_wp2_with fail
     refine c1.mono ?_
     rintro e w1 hT
     obtain⟨rfl,a1,p1⟩:=hT.yes HS.out
     have c2:=cL w1 p1
     clear c1 cL hT
     go_wp2_with fail
     refine c2.mono ?_
     rintro e w2 hP
     obtain⟨rfl,a2⟩:=hP.err
     go_wp2
     exact⟨rfl,KEnd.mk_err HR.out ((HA.out.trans a1).trans a2)⟩
    | ok x =>
     obtain⟨a,q2⟩:=x
     have HN:=hid (hre2 a q2 rfl)
     have HLEN:=hid hlen
     clear hK hs hre1 hre2 ht hd hsg hsne hlen hjm hE
     go_wp2_with fail
     refine c1.mono ?_
     rintro e w1 hT
     obtain⟨rfl,a1,p1⟩:=hT.yes HS.out
     have c2:=cL w1 p1
     have hG1:=HG.out.away a1 (by omega)
     have hA1:=HA.out.trans a1
     clear c1 cL hT
     go_wp2_with fail
     refine c2.mono ?_
     rintro e w2 hP
     obtain⟨op2,n2,s2,ao,c,k2,rfl,a2,x2,hk2,p2⟩:=hP.ok
     have hG2:=hG1.away a2 (by omega)
     have hA2:=hA1.trans a2
     have hb3:=below_alloc w2 (.cells #[.int .i64 op2,.int .i64 n2,.string s2,.slice ao a.kids.length c] 24)
     have hG3:=hG2.later hb3
     have hA3:=hA2.next hb3
     have p3:=p2.later hb3
     have x3:=x2.later hb3
     obtain⟨xs,hown,hcs⟩:=hG3
     obtain⟨xs1,hown1,-⟩:=hG1
     have hx3:ExIn (w2.alloc (.cells #[.int .i64 op2,.int .i64 n2,.string s2,.slice ao a.kids.length c] 24)) (But w.heap.size u5) a (EV op2 n2 s2 (.slice ao a.kids.length c)) :=
      x3.wide (fun b hb _=>⟨Nat.le_trans (Nat.le_trans HA.out.size a1.size) hb,fun e=>by have:=(own_blk hown1 b e).2;have:w1.heap.size≤b:=hb;omega⟩)
     have hlw:=hA2.size
     have HOWN:=hid hown
     have HCS:=hid hcs
     have HX3:=hid hx3
     have HA3:=hid hA3
     have HP3:=hid p3
     have HK2:=hid hk2
     have hlj:=HLEN.out
     clear hown hcs hown1 hx3 hA3 p3 hA2 hA1 x2 x3 p2 a2 a1 p1 c2 hP hG2 hb3 hk2
     go_wp2_with (at_builtin;refine wpList_append_own_at _ rfl _ _ 22 rfl w.heap.size 24 i0 _ 4 56 underlying22 hi hz0 hz1 hz2 rfl (by decide) _ _ _ rfl HOWN.out ⟨w2.heap.size,0,none⟩ 1 1 [.int .i64 op2,.int .i64 n2,.string s2,.slice ao a.kids.length c] rfl rfl ?c1 ?c2 ?c3 ?c4 ?c5 ?_)
     case c1=>exact four_news _ _ _ _ _ _
     case c2=>intro u hu;simp only[List.mem_cons,List.not_mem_nil,or_false] at hu;rcases hu with rfl | rfl | rfl | rfl<;>rfl
     case c3=>unfold maxLen;omega
     case c4=>omega
     case c5=>rw[alloc_size];omega
     intro v' w4 hown' hgrow hnil hat
     have hA4:=away_grown HA3.out hgrow (fun b hb=>(own_blk HOWN.out b hb).1)
     have hG4:=Grow.snoc HCS.out HX3.out (by rw[hlj];exact hown') hgrow (by rw[alloc_size];exact hat)
     have p4:PG w0 w4 g T h cap k2:=by
      have q:=HP3.out
      have hne:∀ b,b<w.heap.size→some b≠u5.ownBlock:=fun b hb e=>by have:=(own_blk HOWN.out b e.symm).1;omega
      exact⟨q.env,⟨hgrow.os.trans q.base.os,hgrow.tape.trans q.base.tape,hgrow.output.trans q.base.output,Nat.le_trans q.base.size hgrow.size,fun b hb=>(hgrow.block b (Nat.lt_of_lt_of_le hb q.base.size) (hne b (by have:=q.gz;omega))).trans (q.base.block b hb)⟩,
       q.gz,q.good,q.lt,q.le,q.big,by rw[hgrow.block g q.glt (hne g hgl)];exact q.obj,q.hg,⟨Nat.lt_of_lt_of_le q.row.1 hgrow.size,fun b t ht=>by
        have hh:h<w.heap.size:=by have:=q.hg;omega
        have e:=hgrow.block h q.row.1 (hne h hh)
        obtain⟨e0,e1,e2,e3⟩:=q.row.2 b t ht
        exact⟨(World.cell?_of_block e).trans e0,(World.cell?_of_block e).trans e1,(World.cell?_of_block e).trans e2,(World.cell?_of_block e).trans e3⟩⟩⟩
     have HA4:=hid hA4
     have HG4:=hid hG4
     have HP4:=hid p4
     clear hA4 hG4 p4 hown' hgrow hat hnil HOWN HCS HX3 HA3 HP3
     go_wp2_with fail
     go_roundg (n - (j+1))
     case measure=>have:=HJM.out;omega
     case rel=>exact⟨j+1,k2,[44],es++[a],by have:=HJM.out;omega,by go_num,rfl,hid (by rw[← HK2.out];exact HN.out),HA4,HP4,HG4⟩
  ·have hjz:¬ (j:Int)<(n:Int):=by omega
   obtain rfl:j=n:=by omega
   have c1:=take_any w0 wr g T h cap ij [41] t HPR.out ht (by decide)
   have hov:=hK.over hn1
   rcases hov with ⟨hs,hre⟩ | ⟨hs,hre⟩
   ·have HS:=hid hs
    have HR:=hid hre
    clear hK hs hre ht hd hsg hsne hjm hj
    obtain⟨ao,c,rfl,hc,hrow⟩:=HG.out.done
    have HROW:=hid hrow
    have HLEN:=hid hlen
    clear hrow hlen
    go_wp2_with fail
    refine c1.mono ?_
    rintro e w1 hT
    obtain⟨rfl,a1,p1⟩:=hT.yes HS.out
    clear c1 hT
    go_wp2
    go_ret
    refine KEnd.mk_ok HR.out rfl (HA.out.trans a1) hc (by show es.length≤3;rw[HLEN.out];exact hn3) (fun h0=>?_) p1
    obtain⟨b,e1,e2,e3,e4⟩:=HROW.out h0
    exact⟨b,e1,e2,Nat.lt_of_lt_of_le e3 a1.size,RowIn.stays (stays_up a1 hgl) _ _ _ e2 e3 e4⟩
   ·have HS:=hid hs
    have HR:=hid hre
    clear hK hs hre ht hd hsg hsne hlen hjm hj
    go_wp2_with fail
    refine c1.mono ?_
    rintro e w1 hT
    obtain⟨rfl,a1⟩:=hT.no HS.out
    go_wp2
    exact⟨rfl,KEnd.mk_err HR.out (HA.out.trans a1)⟩
end
end
section
open Lib (hid)
open _root_.Go.Proofs.Tryz
set_option maxHeartbeats 2000000
set_option maxRecDepth 100000
open Go.RowKit
theorem pW_cases {f:Nat} {s:List UInt8} {q:List Tk} {r:Except Nat (Ex × List Tk)} (h:pW f s q=some r) :
  (∃ n:Int,((s=wTrue∧n=1)∨(s=wFalse∧n=0))∧r=.ok (.mk 3 n [] [],q))∨(∃ o n k,k<f∧callW s=some (o,n)∧pX k o n q=some r)∨(s=wHas∧pHas q=some r)∨(isWordL s=false∧r=.ok (.mk 4 0 s [],q)):=by
 cases f with
 | zero=>rw[pW] at h;cases h
 | succ f =>
 rw[pW] at h
 by_cases c1:s=wTrue
 ·rw[if_pos c1] at h;injection h with h;exact .inl ⟨1,.inl ⟨c1,rfl⟩,h.symm⟩
 rw[if_neg c1] at h
 by_cases c2:s=wFalse
 ·rw[if_pos c2] at h;injection h with h;exact .inl ⟨0,.inr ⟨c2,rfl⟩,h.symm⟩
 rw[if_neg c2] at h
 by_cases c3:s=wIf
 ·rw[if_pos c3] at h;exact .inr (.inl ⟨18,3,f,Nat.lt_succ_self f,by rw[c3];rfl,h⟩)
 rw[if_neg c3] at h
 by_cases c4:s=wLen
 ·rw[if_pos c4] at h;exact .inr (.inl ⟨19,1,f,Nat.lt_succ_self f,by rw[c4];rfl,h⟩)
 rw[if_neg c4] at h
 by_cases c5:s=wCat
 ·rw[if_pos c5] at h;exact .inr (.inl ⟨20,2,f,Nat.lt_succ_self f,by rw[c5];rfl,h⟩)
 rw[if_neg c5] at h
 by_cases c6:s=wCut
 ·rw[if_pos c6] at h;exact .inr (.inl ⟨21,2,f,Nat.lt_succ_self f,by rw[c6];rfl,h⟩)
 rw[if_neg c6] at h
 by_cases c7:s=wUp
 ·rw[if_pos c7] at h;exact .inr (.inl ⟨23,1,f,Nat.lt_succ_self f,by rw[c7];rfl,h⟩)
 rw[if_neg c7] at h
 by_cases c8:s=wHas
 ·rw[if_pos c8] at h;exact .inr (.inr (.inl ⟨c8,h⟩))
 rw[if_neg c8] at h
 injection h with h
 refine .inr (.inr (.inr ⟨?_,h.symm⟩))
 unfold isWordL
 simp[c1,c2,c3,c4,c5,c6,c7,c8]
theorem callW_in {s:List UInt8} {o n:Nat} (h:callW s=some (o,n)):opOfL 0 s=(o:Int)∧formOfL (o:Int)=((o:Int),s,(n:Int),0)∧(18≤o∧o≤23∧o≠22)∧1≤n∧n≤3:=by
 unfold callW at h
 by_cases c1:s=wIf
 ·subst c1;cases h;decide
 rw[if_neg c1] at h
 by_cases c2:s=wLen
 ·subst c2;cases h;decide
 rw[if_neg c2] at h
 by_cases c3:s=wCat
 ·subst c3;cases h;decide
 rw[if_neg c3] at h
 by_cases c4:s=wCut
 ·subst c4;cases h;decide
 rw[if_neg c4] at h
 by_cases c5:s=wUp
 ·subst c5;cases h;decide
 rw[if_neg c5] at h
 cases h
theorem op_none {s:List UInt8} (h:isWordL s=false):opOfL 0 s=0:=by
 obtain⟨h1,h2,h3,h4,h5,h6,h7,h8⟩:=word_not h
 unfold opOfL
 have e:formsT.find? (fun f=>f.2.2.2 == 0 && f.2.1 == s)=none:=by
  rw[List.find?_eq_none]
  intro f hf
  have hall:∀ f ∈ formsT,f.2.2.2=0→f.2.1=wIf∨f.2.1=wLen∨f.2.1=wCat∨f.2.1=wCut∨f.2.1=wHas∨f.2.1=wUp:=by decide
  intro hb
  simp only[Bool.and_eq_true,beq_iff_eq] at hb
  obtain⟨hb1,hb2⟩:=hb
  rcases hall f hf hb1 with e | e | e | e | e | e
  ·exact h3 (hb2 ▸ e)
  ·exact h4 (hb2 ▸ e)
  ·exact h5 (hb2 ▸ e)
  ·exact h6 (hb2 ▸ e)
  ·exact h7 (hb2 ▸ e)
  ·exact h8 (hb2 ▸ e)
 rw[e];rfl
theorem pHas_op {ts q:List Tk} {a:Ex} (h:pHas ts=some (.ok (a,q))):a=.mk 22 0 [] a.kids:=by
 unfold pHas at h
 cases hm:mustS ts [40] with
 | none=>rw[hm] at h;cases h
 | some x =>
  rw[hm] at h
  cases x with
  | error p=>rw[bnd_err rfl] at h;cases h
  | ok r =>
   rw[bnd_ok rfl] at h
   cases r with
   | nil=>cases h
   | cons t q2 =>
    dsimp only at h
    split at h
    ·cases hn:mustS q2 [41] with
     | none=>rw[hn] at h;cases h
     | some y =>
      rw[hn] at h
      cases y with
      | error p=>rw[bnd_err rfl] at h;cases h
      | ok z =>
       rw[bnd_ok rfl] at h
       injection h with h;injection h with h;injection h with h1 h2
       subst h1;rfl
    ·cases h
theorem pX_op {f op n:Nat} {ts q:List Tk} {a:Ex} (h:pX f op n ts=some (.ok (a,q))):a=.mk op 0 [] a.kids:=by
 cases f with
 | zero=>rw[pX] at h;cases h
 | succ f =>
  rw[pX] at h
  cases hm:mustS ts [40] with
  | none=>rw[hm] at h;cases h
  | some x =>
   rw[hm] at h
   cases x with
   | error p=>rw[bnd_err rfl] at h;cases h
   | ok r =>
    rw[bnd_ok rfl] at h
    cases hk:pK f n true r with
    | none=>rw[hk] at h;cases h
    | some y =>
     rw[hk] at h
     cases y with
     | error p=>rw[bnd_err rfl] at h;cases h
     | ok z =>
      rw[bnd_ok rfl] at h
      cases hc:mustS z.2 [41] with
      | none=>rw[hc] at h;cases h
      | some u =>
       rw[hc] at h
       cases u with
       | error p=>rw[bnd_err rfl] at h;cases h
       | ok v =>
        rw[bnd_ok rfl] at h
        injection h with h;injection h with h;injection h with h1 h2
        subst h1;rfl
theorem word_texts {s:List UInt8} (h:isWordL s=false):(⟨s.toArray⟩:ByteArray)≠⟨#[116,114,117,101]⟩∧(⟨s.toArray⟩:ByteArray)≠⟨#[102,97,108,115,101]⟩:=by
 obtain⟨h1,h2,-⟩:=word_not h
 constructor
 ·intro e
  have:=congrArg (fun b:ByteArray=>b.data.toList) e
  exact h1 (by simpa using this)
 ·intro e
  have:=congrArg (fun b:ByteArray=>b.data.toList) e
  exact h2 (by simpa using this)
theorem form_2 (o n l:Int) (s:List UInt8) (w:World):(Instr.field 131 (formV (o,s,n,l)) 2).run prog w=.ok (.int .i64 n) w:=by kernel_rfl
theorem ex_kids {w:World} {S:Nat→Prop} {op:Int} {a:Ex} {ao:Option Addr} {c:Nat} (ha:a=.mk op 0 [] a.kids) (ho:In64 op) (hc:a.kids.length≤c) (h3:a.kids.length≤3) (hk:0<a.kids.length→∃ b,ao=some ⟨b,0,none⟩∧S b∧b<w.heap.size∧RowIn w S b 0 a.kids) :
  ExIn w S a (EV op 0 ⟨#[]⟩ (.slice ao a.kids.length c)):=by
 have:=ExIn.mk (w:=w) (S:=S) (op:=op) (n:=0) (s:=[]) (ks:=a.kids) (ao:=ao) (cap:=c) ⟨ho,in64_0,by decide⟩ hc (by omega) (fun h0=>by
  obtain⟨b,h1,h2,h3,h4⟩:=hk h0
  exact⟨b,0,h1,h2,h3,h4⟩)
 rw[← ha] at this
 exact this
section
variable {w0:World} {g:Nat} {T:List Tk} {h cap:Nat}
theorem word_walk (F:Nat) (I4:∀ k,k<F→KidsC w0 g T h cap k):WordC w0 g T h cap F:=by
 intro w i t r p ht hk hr
 have hgl:=p.glt
 have hmem:=List.mem_of_getElem? ht
 have hsz:=p.good.size t hmem
 have hl1:=p.next ht (by omega)
 have hbig:=p.big
 have hb0:=below_alloc w exprO
 have hF0:=four_new w (.int .i64 0) (.int .i64 0) (.string ⟨#[]⟩) (.slice none 0 0) 24
 have hsz0:=alloc_size w exprO
 obtain⟨wA,hwA⟩:∃ wA,w.alloc exprO=wA:=⟨_,rfl⟩
 rw[hwA] at hb0 hsz0
 unfold exprO at hwA
 rw[hwA] at hF0
 have gA:=p.later hb0
 have c1:=token_any w0 wA g T h cap i t gA ht
 have cO:=fun w' (hF:Forms w')=>opof_any 0 ⟨t.s.toArray⟩ w' hF
 have hsd:(⟨t.s.toArray⟩:ByteArray).data.toList=t.s:=rfl
 rw[hsd] at cO
 have hfd:=fun w=>fld_1 (t.k:Int) ⟨t.s.toArray⟩ (t.n:Int) (t.a:Int) w
 rcases pW_cases hr with ⟨n,hs,rfl⟩ | ⟨o,n,k,hkF,hcw,hX⟩ | ⟨hs,hX⟩ | ⟨hs,rfl⟩
 ·have hop:opOfL 0 t.s=0:=by rcases hs with ⟨h1,-⟩ | ⟨h1,-⟩<;>rw[h1]<;>decide
  rw[hop] at cO
  have hleaf:∀ (w:World) (R:Nat→Prop),ExIn w R (.mk 3 n [] []) (EV 3 n ⟨#[]⟩ (.slice none 0 0)):=fun w R=>.leaf (rng_lit (by decide) (by rcases hs with ⟨-,rfl⟩ | ⟨-,rfl⟩<;>exact⟨by decide,by decide⟩) (by decide))
  have HL:=hid hleaf
  have hcase:(⟨t.s.toArray⟩:ByteArray)=⟨#[116,114,117,101]⟩∧n=1∨(⟨t.s.toArray⟩:ByteArray)=⟨#[102,97,108,115,101]⟩∧n=0:=by
   rcases hs with ⟨h1,h2⟩ | ⟨h1,h2⟩
   ·exact .inl ⟨by rw[h1],h2⟩
   ·exact .inr ⟨by rw[h1],h2⟩
  clear hr hs hop hmem hsz hsd hleaf I4 hk p ht
  rcases hcase with ⟨e,rfl⟩ | ⟨e,rfl⟩
  all_goals
   rw[e] at c1 cO hfd
   clear e
   go_enter func252,ntmps252
   go_wp2_with fail
   refine c1.mono ?_
   rintro e w1 ⟨rfl,b1⟩
   have hb1:=below_to hb0 b1
   have hF1:=hF0.later b1
   have p1:=gA.later b1
   have c2:=cO w1 p1.now.forms
   have hs1:=b1.size
   clear c1 hF0 b1 gA hb0 hwA cO
   go_wp2_with fail
   refine c2.mono ?_
   rintro e w2 ⟨rfl,b2⟩
   have hb2:=below_to hb1 b2
   have p2:=p1.later b2
   obtain⟨-,z0,z1,z2,z3,f0,f1',f2,f3⟩:=hF1.later b2
   have hs2:=b2.size
   obtain⟨-,x1,f1⟩:=p2.cells
   have hn1:¬ g=w.heap.size:=by omega
   have hn2:¬ w.heap.size=g:=by omega
   have hn3:w.heap.size<w2.heap.size:=by omega
   have hn4:¬ w.heap.size=w2.heap.size:=by omega
   have hn5:¬ w2.heap.size=w.heap.size:=by omega
   clear c2 p1 hb1 b2 hF1
   go_wp2
   exact bodyPost_ret (v:=EV 3 _ ⟨#[]⟩ (.slice none 0 0)) (by simp[results,results252,go_sem,z0,z1,z2,z3,hn3]) rfl
    (PEnd.mk_ok rfl ((((Away.of hb2).set 1 _).put4 (Nat.le_refl _) _ _ _ _).alloc _) (HL.out _ _) (((p2.goes hl1 (by omega)).put4 hgl _ _ _ _).alloc _))
 ·obtain⟨hop,hform,ho,hn1,hn3⟩:=callW_in hcw
  rw[hop] at cO
  have hoz:((o:Int) == 0)=false:=beq_eq_false_iff_ne.2 (by omega)
  have hoh:((o:Int) == 22)=false:=beq_eq_false_iff_ne.2 (by omega)
  have hoi:In64 (o:Int):=⟨by omega,by omega⟩
  have cF:=fun w' (hF:Forms w')=>formof_any (o:Int) w' hF
  have cK:=fun w' (p':PG w0 w' g T h cap (i+1))=>I4 k hkF w' (i+1) n o r hn1 hn3 p' hX
  have hfn:=fun w=>form_2 (o:Int) (n:Int) 0 t.s w
  rw[hform] at cF
  have HOI:=hid hoi
  have HX:=hid hX
  clear hr hcw hop hform ho hmem hsz hsd I4 hk p ht hX hoi hn1 hn3
  generalize (⟨t.s.toArray⟩:ByteArray)=S at *
  cases r with
  | error pp =>
   go_enter func252,ntmps252
   go_wp2_with fail
   refine c1.mono ?_
   rintro e w1 ⟨rfl,b1⟩
   have hb1:=below_to hb0 b1
   have hF1:=hF0.later b1
   have p1:=gA.later b1
   have c2:=cO w1 p1.now.forms
   have hs1:=b1.size
   clear c1 hF0 b1 gA hb0 hwA cO
   go_wp2_with fail
   refine c2.mono ?_
   rintro e w2 ⟨rfl,b2⟩
   have hb2:=below_to hb1 b2
   have p2:=p1.later b2
   have hF2:=hF1.later b2
   have hs2:=b2.size
   clear c2 p1 hb1 b2 hF1
   obtain⟨-,x1,f1⟩:=p2.cells
   have p3:=p2.goes (z:=(i:Int)+1) hl1 (by omega)
   have a3:=(Away.of (g:=g) hb2).set 1 (.int .i64 ((i:Int)+1))
   have c3:=cF _ p3.now.forms
   clear p2 hb2 cF hF2
   go_wp2_with fail
   refine c3.mono ?_
   rintro e w4 ⟨rfl,b4⟩
   have c5:=cK w4 (p3.later b4)
   have a4:=a3.next b4
   clear c3 cK p3 b4 a3
   go_wp2_with fail
   refine c5.mono ?_
   rintro e w5 hP
   obtain⟨rfl,a5⟩:=hP.err
   go_wp2
   exact⟨rfl,PEnd.mk_err rfl (a4.trans a5)⟩
  | ok x =>
   obtain⟨a,q⟩:=x
   go_enter func252,ntmps252
   go_wp2_with fail
   refine c1.mono ?_
   rintro e w1 ⟨rfl,b1⟩
   have hb1:=below_to hb0 b1
   have hF1:=hF0.later b1
   have p1:=gA.later b1
   have c2:=cO w1 p1.now.forms
   have hs1:=b1.size
   clear c1 hF0 b1 gA hb0 hwA cO
   go_wp2_with fail
   refine c2.mono ?_
   rintro e w2 ⟨rfl,b2⟩
   have hb2:=below_to hb1 b2
   have p2:=p1.later b2
   have hF2:=hF1.later b2
   have hs2:=b2.size
   clear c2 p1 hb1 b2 hF1
   obtain⟨-,x1,f1⟩:=p2.cells
   have p3:=p2.goes (z:=(i:Int)+1) hl1 (by omega)
   have a3:=(Away.of (g:=g) hb2).set 1 (.int .i64 ((i:Int)+1))
   have hF3:=hF2.away ((Away.refl g w2).set 1 (.int .i64 ((i:Int)+1))) (by omega)
   have c3:=cF _ p3.now.forms
   clear p2 hb2 cF hF2
   go_wp2_with fail
   refine c3.mono ?_
   rintro e w4 ⟨rfl,b4⟩
   have hs4:=b4.size
   rw[set_size] at hs4
   have c5:=cK w4 (p3.later b4)
   have a4:=a3.next b4
   have hF4:=hF3.later b4
   clear c3 cK p3 b4 a3 hF3
   go_wp2_with fail
   refine c5.mono ?_
   rintro e w5 hP
   obtain⟨ao,c,j,rfl,a5,hc,h3,hrow,hj,p5⟩:=hP.ok
   have hs5:=a5.size
   obtain⟨-,z0,z1,z2,z3,f0,f1',f2,f3⟩:=hF4.away a5 (by omega)
   have HROW:=hid hrow
   have hx:=ex_kids (w:=set4 w5 w.heap.size (.int .i64 (o:Int)) (.int .i64 0) (.string ⟨#[]⟩) (.slice ao a.kids.length c)) (S:=Up w.heap.size) (pX_op HX.out) HOI.out hc h3 (fun h0=>by
    obtain⟨b,e1,e2,e3,e4⟩:=HROW.out h0
    exact⟨b,e1,by show w.heap.size≤b;omega,by rw[set4_size];exact e3,row_set4 e4 (by omega) (by omega) e2 e3 _ _ _ _⟩)
   have HXX:=hid hx
   clear c5 hP hF4 hrow hx
   go_wp2
   exact bodyPost_ret (v:=EV (o:Int) 0 ⟨#[]⟩ (.slice ao a.kids.length c)) (by simp[results,results252,go_sem,z0,z1,z2,z3]) rfl
    (PEnd.mk_ok (by rw[hj]) ((a4.trans a5).put4 (Nat.le_refl _) _ _ _ _) HXX.out (p5.put4 hgl _ _ _ _))
 ·have hop:opOfL 0 t.s=22:=by rw[hs];decide
  rw[hop] at cO
  have cH:=fun w' (p':PG w0 w' g T h cap (i+1))=>held_any w0 w' g T h cap (i+1) r p' hX
  have HX:=hid hX
  clear hr hop hmem hsz hsd I4 hk p ht hX hs
  generalize (⟨t.s.toArray⟩:ByteArray)=S at *
  cases r with
  | error pp =>
   go_enter func252,ntmps252
   go_wp2_with fail
   refine c1.mono ?_
   rintro e w1 ⟨rfl,b1⟩
   have hb1:=below_to hb0 b1
   have hF1:=hF0.later b1
   have p1:=gA.later b1
   have c2:=cO w1 p1.now.forms
   have hs1:=b1.size
   clear c1 hF0 b1 gA hb0 hwA cO
   go_wp2_with fail
   refine c2.mono ?_
   rintro e w2 ⟨rfl,b2⟩
   have hb2:=below_to hb1 b2
   have p2:=p1.later b2
   have hF2:=hF1.later b2
   have hs2:=b2.size
   clear c2 p1 hb1 b2 hF1
   obtain⟨-,x1,f1⟩:=p2.cells
   have p3:=p2.goes (z:=(i:Int)+1) hl1 (by omega)
   have a3:=(Away.of (g:=g) hb2).set 1 (.int .i64 ((i:Int)+1))
   have c3:=cH _ p3
   clear p2 hb2 cH hF2
   go_wp2_with fail
   refine c3.mono ?_
   rintro e w5 hP
   obtain⟨rfl,a5⟩:=hP.err
   go_wp2
   exact⟨rfl,PEnd.mk_err rfl (a3.trans a5)⟩
  | ok x =>
   obtain⟨a,q⟩:=x
   go_enter func252,ntmps252
   go_wp2_with fail
   refine c1.mono ?_
   rintro e w1 ⟨rfl,b1⟩
   have hb1:=below_to hb0 b1
   have hF1:=hF0.later b1
   have p1:=gA.later b1
   have c2:=cO w1 p1.now.forms
   have hs1:=b1.size
   clear c1 hF0 b1 gA hb0 hwA cO
   go_wp2_with fail
   refine c2.mono ?_
   rintro e w2 ⟨rfl,b2⟩
   have hb2:=below_to hb1 b2
   have p2:=p1.later b2
   have hF2:=hF1.later b2
   have hs2:=b2.size
   clear c2 p1 hb1 b2 hF1
   obtain⟨-,x1,f1⟩:=p2.cells
   have p3:=p2.goes (z:=(i:Int)+1) hl1 (by omega)
   have a3:=(Away.of (g:=g) hb2).set 1 (.int .i64 ((i:Int)+1))
   have hF3:=hF2.away ((Away.refl g w2).set 1 (.int .i64 ((i:Int)+1))) (by omega)
   have c3:=cH _ p3
   clear p2 hb2 cH hF2
   go_wp2_with fail
   refine c3.mono ?_
   rintro e w5 hP
   obtain⟨ao,c,j,rfl,a5,hc,h3,hrow,hj,p5⟩:=hP.ok
   have hs5:=a5.size
   rw[set_size] at hs5 hrow
   obtain⟨-,z0,z1,z2,z3,f0,f1',f2,f3⟩:=hF3.away a5 (by omega)
   have HROW:=hid hrow
   have hx:=ex_kids (w:=set4 w5 w.heap.size (.int .i64 22) (.int .i64 0) (.string ⟨#[]⟩) (.slice ao a.kids.length c)) (S:=Up w.heap.size) (pHas_op HX.out) ⟨by decide,by decide⟩ hc h3 (fun h0=>by
    obtain⟨b,e1,e2,e3,e4⟩:=HROW.out h0
    exact⟨b,e1,by show w.heap.size≤b;omega,by rw[set4_size];exact e3,row_set4 e4 (by omega) (by omega) e2 e3 _ _ _ _⟩)
   have HXX:=hid hx
   clear c3 hP hF3 hrow hx p3
   go_wp2
   exact bodyPost_ret (v:=EV 22 0 ⟨#[]⟩ (.slice ao a.kids.length c)) (by simp[results,results252,go_sem,z0,z1,z2,z3]) rfl
    (PEnd.mk_ok (by rw[hj]) ((a3.trans a5).put4 (Nat.le_refl _) _ _ _ _) HXX.out (p5.put4 hgl _ _ _ _))
 ·have hop:opOfL 0 t.s=0:=op_none hs
  rw[hop] at cO
  obtain⟨hw1,hw2⟩:=word_texts hs
  have hq1:=txt_ne hw1
  have hq2:=txt_ne hw2
  have hl1':ByteArray.toList ⟨#[116,114,117,101]⟩=[116,114,117,101]:=by decide +kernel
  have hl2':ByteArray.toList ⟨#[102,97,108,115,101]⟩=[102,97,108,115,101]:=by decide +kernel
  have hq3:=hq1
  have hq4:=hq2
  rw[hl1'] at hq3
  rw[hl2'] at hq4
  have cN:=fun w' (p':PG w0 w' g T h cap i)=>pnam_any w0 w' g T h cap i t p' ht
  have hnr:nameR t (T.drop (i+1))=.ok (.mk 4 0 t.s [],T.drop (i+1)):=by unfold nameR;rw[if_pos ⟨hk,hs⟩]
  rw[hnr] at cN
  clear hr hop hmem hsz hsd I4 hk p ht hs hw1 hw2 hl1' hl2' hnr
  generalize (⟨t.s.toArray⟩:ByteArray)=S at *
  go_enter func252,ntmps252
  go_wp2_with fail
  refine c1.mono ?_
  rintro e w1 ⟨rfl,b1⟩
  have hb1:=below_to hb0 b1
  have hF1:=hF0.later b1
  have p1:=gA.later b1
  have c2:=cO w1 p1.now.forms
  have hs1:=b1.size
  clear c1 hF0 b1 gA hb0 hwA cO
  go_wp2_with fail
  refine c2.mono ?_
  rintro e w2 ⟨rfl,b2⟩
  have hb2:=below_to hb1 b2
  have p2:=p1.later b2
  have hF2:=hF1.later b2
  have hs2:=b2.size
  clear c2 p1 hb1 b2 hF1
  have c3:=cN _ p2
  clear cN
  go_wp2_with fail
  refine c3.mono ?_
  rintro e w5 hP
  obtain⟨op,n,s,ao,c,j,rfl,a5,x5,hj,p5⟩:=hP.ok
  have hs5:=a5.size
  obtain⟨-,z0,z1,z2,z3,f0,f1',f2,f3⟩:=hF2.away a5 (by omega)
  have hx:=ex_set4 (R:=w.heap.size) (g:=w.heap.size) x5 (by omega) (by omega) (.int .i64 op) (.int .i64 n) (.string s) (.slice ao (Ex.mk 4 0 t.s []).kids.length c)
  clear c3 hP x5 p2 hF2
  go_wp2
  exact bodyPost_ret (v:=EV op n s (.slice ao (Ex.mk 4 0 t.s []).kids.length c)) (by simp[results,results252,go_sem,z0,z1,z2,z3]) rfl
   (PEnd.mk_ok (by rw[hj]) (((Away.of hb2).trans a5).put4 (Nat.le_refl _) _ _ _ _) hx (p5.put4 hgl _ _ _ _))
end
end
end Go.Proofs.YtbbblmedoagncaaGreatDoor
