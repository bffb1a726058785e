/- ParH, ParI, ParV -/
import Derived.Test.YtbbblmedoagncaaGreatDoorSGJ
import Derived.Test.YtbbblmedoagncaaGreatDoorSGK
import Derived.Test.YtbbblmedoagncaaGreatDoorSGG
import Derived.Deep.LoopGhost
namespace Go.Proofs.YtbbblmedoagncaaGreatDoor
section
open Lib (hid)
open _root_.Go.Proofs.Tryz
set_option maxHeartbeats 1000000
set_option maxRecDepth 100000
open Go.RowKit
def PEnd (w0 w:World) (g:Nat) (T:List Tk) (h cap:Nat) (r:Except Nat (Ex × List Tk)) (e:Ending) (w':World):Prop :=
 Away g w w'∧match r with
 | .ok (a,q)=>∃ v j,e=.returned v∧ExIn w' (Up w.heap.size) a v∧q=T.drop j∧PG w0 w' g T h cap j
 | .error p=>e=Panic p
def KEnd (w0 w:World) (g:Nat) (T:List Tk) (h cap:Nat) (r:Except Nat (Ex × List Tk)) (e:Ending) (w':World):Prop :=
 Away g w w'∧match r with
 | .ok (a,q)=>∃ ao c j,e=.returned (.slice ao a.kids.length c)∧a.kids.length≤c∧a.kids.length≤3∧(0<a.kids.length→∃ b,ao=some ⟨b,0,none⟩∧w.heap.size≤b∧b<w'.heap.size∧RowIn w' (Up w.heap.size) b 0 a.kids)∧q=T.drop j∧PG w0 w' g T h cap j
 | .error p=>e=Panic p
section
variable {w0 w w':World} {g:Nat} {T:List Tk} {h cap:Nat}
theorem PEnd.ok {a:Ex} {q:List Tk} {e:Ending} (hE:PEnd w0 w g T h cap (.ok (a,q)) e w'):∃ op n s ao c j,e=.returned (EV op n s (.slice ao a.kids.length c))∧Away g w w'∧ExIn w' (Up w.heap.size) a (EV op n s (.slice ao a.kids.length c))∧q=T.drop j∧PG w0 w' g T h cap j:=by
 obtain⟨h1,v,j,rfl,h2,h3,h4⟩:=hE
 obtain⟨ao,c,rfl,-⟩:=h2.get
 exact⟨_,_,_,ao,c,j,rfl,h1,h2,h3,h4⟩
theorem PEnd.err {p:Nat} {e:Ending} (hE:PEnd w0 w g T h cap (.error p) e w'):e=Panic p∧Away g w w':=⟨hE.2,hE.1⟩
theorem PEnd.mk_ok {r:Except Nat (Ex × List Tk)} {a:Ex} {v:Value} {j:Nat} (hr:r=.ok (a,T.drop j)) (h1:Away g w w') (h2:ExIn w' (Up w.heap.size) a v) (h3:PG w0 w' g T h cap j):PEnd w0 w g T h cap r (.returned v) w':=by
 subst hr;exact⟨h1,v,j,rfl,h2,rfl,h3⟩
theorem PEnd.mk_err {r:Except Nat (Ex × List Tk)} {p:Nat} (hr:r=.error p) (h1:Away g w w'):PEnd w0 w g T h cap r (Panic p) w':=by subst hr;exact⟨h1,rfl⟩
theorem KEnd.ok {a:Ex} {q:List Tk} {e:Ending} (hE:KEnd w0 w g T h cap (.ok (a,q)) e w'):∃ ao c j,e=.returned (.slice ao a.kids.length c)∧Away g w w'∧a.kids.length≤c∧a.kids.length≤3∧(0<a.kids.length→∃ b,ao=some ⟨b,0,none⟩∧w.heap.size≤b∧b<w'.heap.size∧RowIn w' (Up w.heap.size) b 0 a.kids)∧q=T.drop j∧PG w0 w' g T h cap j:=by
 obtain⟨h1,ao,c,j,rfl,h2,h3,h4,h5,h6⟩:=hE
 exact⟨ao,c,j,rfl,h1,h2,h3,h4,h5,h6⟩
theorem KEnd.err {p:Nat} {e:Ending} (hE:KEnd w0 w g T h cap (.error p) e w'):e=Panic p∧Away g w w':=⟨hE.2,hE.1⟩
theorem KEnd.mk_ok {r:Except Nat (Ex × List Tk)} {a:Ex} {ao:Option Addr} {n c j:Nat} (hr:r=.ok (a,T.drop j)) (hn:n=a.kids.length) (h1:Away g w w') (hc:a.kids.length≤c) (h3':a.kids.length≤3) (h2:0<a.kids.length→∃ b,ao=some ⟨b,0,none⟩∧w.heap.size≤b∧b<w'.heap.size∧RowIn w' (Up w.heap.size) b 0 a.kids) (h3:PG w0 w' g T h cap j):KEnd w0 w g T h cap r (.returned (.slice ao n c)) w':=by
 subst hr hn;exact⟨h1,ao,c,j,rfl,hc,h3',h2,rfl,h3⟩
theorem KEnd.mk_err {r:Except Nat (Ex × List Tk)} {p:Nat} (hr:r=.error p) (h1:Away g w w'):KEnd w0 w g T h cap r (Panic p) w':=by subst hr;exact⟨h1,rfl⟩
theorem isS_sg {t:Tk} {q:List Tk} {s:List UInt8} (hs:s≠[]):isS (t :: q) s=decide (sgT t=s):=by
 unfold isS sgT
 by_cases h4:t.k=4
 ·rw[if_pos h4]
  by_cases h5:t.s=s
  ·simp[h4,h5]
  ·simp[h5]
 ·rw[if_neg h4]
  simp[h4,Ne.symm hs]
end
theorem row_one {w:World} {S:Nat→Prop} {a:Ex} {op n:Int} {s:ByteArray} {kv:Value} {ty:TypeId} (he:ExIn w S a (EV op n s kv)):RowIn (w.alloc (.cells #[.int .i64 op,.int .i64 n,.string s,kv] ty)) S w.heap.size 0 [a]:=by
 refine RowIn.one (NB.new _ _ _) (v0:=.int .i64 op) (v1:=.int .i64 n) (v2:=.string s) (v3:=kv) ?_ ?_ ?_ ?_ (he.later (below_alloc _ _)) .none
 all_goals rw[cells_of_alloc];rfl
theorem row_two {w:World} {S:Nat→Prop} {a b:Ex} {op n op2 n2:Int} {s s2:ByteArray} {kv kv2:Value} {ty:TypeId} (he:ExIn w S a (EV op n s kv)) (he2:ExIn w S b (EV op2 n2 s2 kv2)) :
  RowIn (w.alloc (.cells #[.int .i64 op,.int .i64 n,.string s,kv,.int .i64 op2,.int .i64 n2,.string s2,kv2] ty)) S w.heap.size 0 [a,b]:=by
 refine RowIn.one (NB.new _ _ _) (v0:=.int .i64 op) (v1:=.int .i64 n) (v2:=.string s) (v3:=kv) ?_ ?_ ?_ ?_ (he.later (below_alloc _ _)) (RowIn.one (NB.new _ _ _) (v0:=.int .i64 op2) (v1:=.int .i64 n2) (v2:=.string s2) (v3:=kv2) ?_ ?_ ?_ ?_ (he2.later (below_alloc _ _)) .none)
 all_goals rw[cells_of_alloc];rfl
theorem rng_lit {op n:Int} {s:List UInt8} (h1:-100≤op∧op≤100) (h2:In64 n) (h3:s.length≤1000):Rng op n s:=⟨⟨by omega,by omega⟩,h2,by omega⟩
theorem in64_0:In64 0:=⟨by decide,by decide⟩
def nameR (t:Tk) (q:List Tk):Except Nat (Ex × List Tk):=if t.k=3∧isWordL t.s=false then .ok (.mk 4 0 t.s [],q) else .error t.a
theorem pnam_any (w0 w:World) (g:Nat) (T:List Tk) (h cap i:Nat) (t:Tk) (p:PG w0 w g T h cap i) (ht:T[i]?=some t) :
  Calls prog 292 #[.pointer (some ⟨g,0,none⟩)] w (PEnd w0 w g T h cap (nameR t (T.drop (i+1)))):=by
 have hb0:=below_alloc w (.cells #[.int .i64 0,.int .i64 0,.string ⟨#[]⟩,.slice none 0 0] 24)
 have hF0:=four_new w (.int .i64 0) (.int .i64 0) (.string ⟨#[]⟩) (.slice none 0 0) 24
 obtain⟨wA,hwA⟩:∃ wA,w.alloc (.cells #[.int .i64 0,.int .i64 0,.string ⟨#[]⟩,.slice none 0 0] 24)=wA:=⟨_,rfl⟩
 rw[hwA] at hb0 hF0
 have pA:=p.later hb0
 have c1:=token_any w0 wA g T h cap i t pA ht
 have hmem:=List.mem_of_getElem? ht
 have hsz:=p.good.size t hmem
 by_cases hk:t.k=3
 ·have hkI:((t.k:Nat):Int)=3:=by rw[hk];rfl
  rw[hkI] at c1
  have hnm:=p.good.name t hmem hk
  have hnext:=p.next ht (by omega)
  have hbig:=p.big
  have hss:(⟨t.s.toArray⟩:ByteArray).size≤9223372036854775807:=by rw[← size_list];show t.s.length≤_;omega
  have cN:=fun w' (hE:Env7 w')=>pname_any ⟨t.s.toArray⟩ w' hss hE
  have hd:(⟨t.s.toArray⟩:ByteArray).data.toList=t.s:=rfl
  rw[hd,hnm] at cN
  cases hw:isWordL t.s with
  | false =>
   have hr:nameR t (T.drop (i+1))=.ok (.mk 4 0 t.s [],T.drop (i+1)):=by unfold nameR;rw[if_pos ⟨hk,hw⟩]
   have hleaf:∀ (w:World) (S:Nat→Prop),ExIn w S (.mk 4 0 t.s []) (EV 4 0 ⟨t.s.toArray⟩ (.slice none 0 0)):=fun w S=>.leaf (rng_lit (by decide) in64_0 hsz)
   rw[hw] at cN
   have HR:=hid hr
   have HL:=hid hleaf
   have hgl:=p.glt
   clear hk hkI hnm hw hd hr hleaf hsz hmem ht p
   generalize (⟨t.s.toArray⟩:ByteArray)=S at *
   generalize nameR t (T.drop (i+1))=R at *
   go_enter func292,ntmps292
   go_wp2_with fail
   refine c1.mono ?_
   rintro e w1 ⟨rfl,b1⟩
   have hb1:=below_to hb0 b1
   have hF1:=hF0.later b1
   have p1:=pA.later b1
   have hE1:=p1.now.env.later (below_alloc w1 (.cells #[.int .i64 3,.string S,.int .i64 t.n,.int .i64 t.a] 82))
   clear c1 hF0 b1 pA hb0 hwA
   go_wp2_with fail
   refine (cN _ hE1).mono ?_
   rintro e w2 ⟨rfl,b2⟩
   have b2':=below_to (below_alloc w1 _) b2
   have b2s:=(below_alloc w1 (.cells #[.int .i64 3,.string S,.int .i64 t.n,.int .i64 t.a] 82)).size
   have hX:=(four_new w1 (.int .i64 3) (.string S) (.int .i64 t.n) (.int .i64 t.a) 82).later b2
   have hb2:=below_to hb1 b2'
   have hF2:=hF1.later b2'
   have p2:=p1.later b2'
   obtain⟨-,x1,f1⟩:=p2.cells
   obtain⟨-,z0,z1,z2,z3,f0,f1',f2,f3⟩:=hF2
   obtain⟨-,y0,y1,y2,y3,-⟩:=hX
   have hng:¬ w.heap.size=g:=by omega
   have hn1:¬ g=w.heap.size:=by omega
   have hn2:¬ w1.heap.size=g:=by have:=hb1.size;omega
   have hn3:¬ g=w1.heap.size:=by have:=hb1.size;omega
   clear cN p1 hF1 hb1 b2 b2'
   go_wp2
   exact bodyPost_ret (v:=EV 4 0 S (.slice none 0 0)) (by simp[results,results292,go_sem,z0,z1,z2,z3]) rfl
    (PEnd.mk_ok HR.out (((Away.of hb2).set 1 _).put4 (Nat.le_refl _) _ _ _ _) (HL.out _ _) ((p2.goes hnext (by omega)).put4 hgl _ _ _ _))
  | true =>
   have hr:nameR t (T.drop (i+1))=.error t.a:=by unfold nameR;rw[if_neg (by rw[hw];simp)]
   rw[hw] at cN
   have cF:=fun w' (hb:Below wA.heap.size wA w')=>fail_any w0 w' g T h cap i t (pA.later hb) ht
   have HR:=hid hr
   have hgl:=p.glt
   clear hk hkI hnm hw hd hr hsz hmem ht p
   generalize (⟨t.s.toArray⟩:ByteArray)=S at *
   generalize nameR t (T.drop (i+1))=R at *
   go_enter func292,ntmps292
   go_wp2_with fail
   refine c1.mono ?_
   rintro e w1 ⟨rfl,b1⟩
   have hb1:=below_to hb0 b1
   have p1:=pA.later b1
   have hE1:=p1.now.env.later (below_alloc w1 (.cells #[.int .i64 3,.string S,.int .i64 t.n,.int .i64 t.a] 82))
   clear c1 hwA hF0
   go_wp2_with fail
   refine (cN _ hE1).mono ?_
   rintro e w2 ⟨rfl,b2⟩
   have b2':=below_to (below_alloc w1 _) b2
   have hb2:=below_to hb1 b2'
   have c3:=cF w2 (below_to b1 b2')
   clear cN cF p1 hb1 b2 b2' b1 pA hb0
   go_wp2_with fail
   refine c3.mono ?_
   rintro e w3 ⟨rfl,b3⟩
   go_wp2
   exact⟨rfl,PEnd.mk_err HR.out (.of (below_to hb2 b3))⟩
 ·have hkz:((t.k:Int) != 3)=true:=bne_iff_ne.2 (by omega)
  have hkn:¬ (t.k:Int)=3:=by omega
  have hr:nameR t (T.drop (i+1))=.error t.a:=by unfold nameR;rw[if_neg (fun h=>hk h.1)]
  have cF:=fun w' (hb:Below wA.heap.size wA w')=>fail_any w0 w' g T h cap i t (pA.later hb) ht
  have HR:=hid hr
  clear hk hr hsz hmem ht p
  generalize (⟨t.s.toArray⟩:ByteArray)=S at *
  generalize (t.k:Int)=K at *
  generalize nameR t (T.drop (i+1))=R at *
  go_enter func292,ntmps292
  go_wp2_with fail
  refine c1.mono ?_
  rintro e w1 ⟨rfl,b1⟩
  have hb1:=below_to hb0 b1
  have c3:=cF _ (b1.alloc b1.size (.cells #[.int .i64 K,.string S,.int .i64 t.n,.int .i64 t.a] 82))
  have hb2:=hb1.alloc hb1.size (.cells #[.int .i64 K,.string S,.int .i64 t.n,.int .i64 t.a] 82)
  clear c1 hwA hF0 pA hb0 b1 hb1 cF
  go_wp2_with fail
  refine c3.mono ?_
  rintro e w3 ⟨rfl,b3⟩
  go_wp2
  exact⟨rfl,PEnd.mk_err HR.out (.of (below_to hb2 b3))⟩
theorem TakeEnd.yes {w0 w w':World} {g:Nat} {T:List Tk} {h cap i:Nat} {s:List UInt8} {t:Tk} {e:Ending} (hT:TakeEnd w0 w g T h cap i s t e w') (hs:sgT t=s):e=.returned (.tuple #[])∧Away g w w'∧PG w0 w' g T h cap (i+1):=by
 rcases hT with ⟨-,a,b,c⟩ | ⟨h1,-,-⟩
 ·exact⟨a,b,c⟩
 ·exact absurd hs h1
theorem TakeEnd.no {w0 w w':World} {g:Nat} {T:List Tk} {h cap i:Nat} {s:List UInt8} {t:Tk} {e:Ending} (hT:TakeEnd w0 w g T h cap i s t e w') (hs:sgT t≠s):e=Panic t.a∧Away g w w':=by
 rcases hT with ⟨h1,-,-,-⟩ | ⟨-,a,b⟩
 ·exact absurd h1 hs
 ·exact⟨a,b⟩
theorem mustS_yes {t:Tk} {q:List Tk} {s:List UInt8} (hs:s≠[]) (h:sgT t=s):mustS (t :: q) s=some (.ok q):=by unfold mustS;rw[isS_sg hs,decide_eq_true h];rfl
theorem mustS_no {t:Tk} {q:List Tk} {s:List UInt8} (hs:s≠[]) (h:sgT t≠s):mustS (t :: q) s=some (.error t.a):=by unfold mustS;rw[isS_sg hs,decide_eq_false h];rfl
theorem pHas_eq {t u:Tk} {q:List Tk} (h:sgT t=[40]):pHas (t :: u :: q)=bnd (some (nameR u q)) (fun x=>bnd (mustS x.2 [41]) fun z=>some (.ok (oneE 22 x.1,z))):=by
 unfold pHas nameR
 rw[mustS_yes (by decide) h]
 show (if _ then _ else _)=_
 by_cases hc:u.k=3∧isWordL u.s=false
 ·rw[if_pos hc,if_pos hc];rfl
 ·rw[if_neg hc,if_neg hc];rfl
theorem tk_drop {T:List Tk} {k:Nat} {x:Tk} (h:T[k]?=some x):T.drop k=x :: T.drop (k+1):=by
 obtain⟨h1,h2⟩:=List.getElem?_eq_some_iff.1 h
 rw[← h2];exact List.drop_eq_getElem_cons h1
theorem stays_up {w w':World} {g B:Nat} (h:Away g w w') (hg:g<B):Stays (Up B) w w':=Stays.away h (by show ¬ B≤g;omega)
theorem held_any (w0 w:World) (g:Nat) (T:List Tk) (h cap i:Nat) (r:Except Nat (Ex × List Tk)) (p:PG w0 w g T h cap i) (hr:pHas (T.drop i)=some r) :
  Calls prog 290 #[.pointer (some ⟨g,0,none⟩)] w (KEnd w0 w g T h cap r):=by
 have hgl:=p.glt
 obtain⟨t,ht,hd,-⟩:=p.tok
 have c1:=take_any w0 w g T h cap i [40] t p ht (by decide)
 by_cases h1:sgT t=[40]
 ·have hk1:t.k≠0:=by intro e0;unfold sgT at h1;rw[if_neg (by omega)] at h1;cases h1
  have hl1:=p.next ht hk1
  obtain⟨u,hu⟩:∃ u,T[i+1]?=some u:=⟨_,List.getElem?_eq_getElem hl1⟩
  have hd1:=tk_drop hu
  have cN:=fun w' (p':PG w0 w' g T h cap (i+1))=>pnam_any w0 w' g T h cap (i+1) u p' hu
  rw[hd,hd1,pHas_eq h1] at hr
  cases hn:nameR u (T.drop (i+1+1)) with
  | error pp =>
   rw[hn,bnd_err rfl] at hr
   injection hr with hr
   rw[hn] at cN
   have H1:=hid h1
   clear hn ht hu hd hd1 h1 hk1 hl1 p
   go_enter func290,ntmps290
   go_wp2_with fail
   refine c1.mono ?_
   rintro e w1 hT
   obtain⟨rfl,a1,p1⟩:=hT.yes H1.out
   have c2:=cN w1 p1
   clear c1 cN hT
   go_wp2_with fail
   refine c2.mono ?_
   rintro e w2 hP
   obtain⟨rfl,a2⟩:=hP.err
   go_wp2
   exact⟨rfl,KEnd.mk_err hr.symm (a1.trans a2)⟩
  | ok x =>
   obtain⟨a,q⟩:=x
   have ha:q=T.drop (i+1+1)∧a=.mk 4 0 u.s []∧u.k=3:=by
    unfold nameR at hn
    split at hn
    ·rename_i hc
     injection hn with hn;injection hn with e1 e2;exact⟨e2.symm,e1.symm,hc.1⟩
    ·cases hn
   obtain⟨rfl,-,hk3⟩:=ha
   have hl2:=p.good.last _ _ hu (by omega)
   obtain⟨v,hv⟩:∃ v,T[i+1+1]?=some v:=⟨_,List.getElem?_eq_getElem hl2⟩
   rw[hn,bnd_ok rfl] at hr
   dsimp only at hr
   rw[tk_drop hv] at hr
   have cC:=fun w' (p':PG w0 w' g T h cap (i+1+1))=>take_any w0 w' g T h cap (i+1+1) [41] v p' hv (by decide)
   rw[hn] at cN
   have H1:=hid h1
   have hdl:∀ w' j,T.drop (i+1+1)=T.drop j→PG w0 w' g T h cap j→j=i+1+1:=fun w' j he p'=>by
    have e1:=congrArg List.length he
    rw[List.length_drop,List.length_drop] at e1
    have:=p'.lt
    omega
   by_cases h2:sgT v=[41]
   ·rw[mustS_yes (by decide) h2,bnd_ok rfl] at hr
    injection hr with hr
    have H2:=hid h2
    have HR:=hid hr
    have HD:=hid hdl
    clear hn ht hu hd hd1 h1 hk1 hl1 p hr hv h2 hk3 hdl
    go_enter func290,ntmps290
    go_wp2_with fail
    refine c1.mono ?_
    rintro e w1 hT
    obtain⟨rfl,a1,p1⟩:=hT.yes H1.out
    have c2:=cN w1 p1
    clear c1 cN hT
    go_wp2_with fail
    refine c2.mono ?_
    rintro e w2 hP
    obtain⟨op,n,s,ao,c,j,rfl,a2,x2,hj,p2⟩:=hP.ok
    obtain rfl:=HD.out _ _ hj p2
    have p3:=p2.alloc (.cells #[.int .i64 op,.int .i64 n,.string s,.slice ao a.kids.length c] 24)
    have r3:=row_one (ty:=24) (x2.wide (R:=Up w.heap.size) (fun b hb _=>Nat.le_trans a1.size hb))
    have a3:=(a1.trans a2).alloc (.cells #[.int .i64 op,.int .i64 n,.string s,.slice ao a.kids.length c] 24)
    have c4:=cC _ p3
    have hwl:=(a1.trans a2).size
    clear c2 hP hj p2 x2 p1 cC
    go_wp2_with fail
    refine c4.mono ?_
    rintro e w4 hT
    obtain⟨rfl,a4,p4⟩:=hT.yes H2.out
    have R4:=hid (RowIn.stays (stays_up a4 (B:=w.heap.size) hgl) _ _ _ hwl (by rw[alloc_size];omega) r3)
    have hsz:=a4.size
    rw[alloc_size] at hsz
    clear c4 hT r3
    go_wp2
    go_ret
    exact KEnd.mk_ok (n:=1) HR.out.symm rfl (a3.trans a4) (Nat.le_refl 1) (show 1≤3 by decide) (fun _=>⟨_,rfl,hwl,by omega,R4.out⟩) p4
   ·rw[mustS_no (by decide) h2,bnd_err rfl] at hr
    injection hr with hr
    have H2:=hid h2
    have HR:=hid hr
    have HD:=hid hdl
    clear hn ht hu hd hd1 h1 hk1 hl1 p hr hv h2 hk3 hdl
    go_enter func290,ntmps290
    go_wp2_with fail
    refine c1.mono ?_
    rintro e w1 hT
    obtain⟨rfl,a1,p1⟩:=hT.yes H1.out
    have c2:=cN w1 p1
    clear c1 cN hT
    go_wp2_with fail
    refine c2.mono ?_
    rintro e w2 hP
    obtain⟨op,n,s,ao,c,j,rfl,a2,x2,hj,p2⟩:=hP.ok
    obtain rfl:=HD.out _ _ hj p2
    have p3:=p2.alloc (.cells #[.int .i64 op,.int .i64 n,.string s,.slice ao a.kids.length c] 24)
    have a3:=(a1.trans a2).alloc (.cells #[.int .i64 op,.int .i64 n,.string s,.slice ao a.kids.length c] 24)
    have c4:=cC _ p3
    clear c2 hP hj p2 x2 p1 cC
    go_wp2_with fail
    refine c4.mono ?_
    rintro e w4 hT
    obtain⟨rfl,a4⟩:=hT.no H2.out
    go_wp2
    exact⟨rfl,KEnd.mk_err HR.out.symm (a3.trans a4)⟩
 ·rw[hd] at hr
  unfold pHas at hr
  rw[mustS_no (by decide) h1,bnd_err rfl] at hr
  injection hr with hr
  have H1:=hid h1
  clear ht hd h1 p
  go_enter func290,ntmps290
  go_wp2_with fail
  refine c1.mono ?_
  rintro e w1 hT
  obtain⟨rfl,a1⟩:=hT.no H1.out
  go_wp2
  exact⟨rfl,KEnd.mk_err hr.symm a1⟩
end
section
open Lib (hid)
open _root_.Go.Proofs.Tryz
set_option maxHeartbeats 2000000
set_option maxRecDepth 100000
open Go.RowKit
section
variable (w0:World) (g:Nat) (T:List Tk) (h cap:Nat)
def LineC (f:Nat):Prop:=∀ (l:Nat) (w:World) (i:Nat) (r:Except Nat (Ex × List Tk)),l≤5→PG w0 w g T h cap i→pE f l (T.drop i)=some r →
 Calls prog 90 #[.pointer (some ⟨g,0,none⟩),.int .i64 ((l:Int)+1)] w (PEnd w0 w g T h cap r)
def OneC (f:Nat):Prop:=∀ (w:World) (i:Nat) (r:Except Nat (Ex × List Tk)),PG w0 w g T h cap i→pU f (T.drop i)=some r →
 Calls prog 178 #[.pointer (some ⟨g,0,none⟩)] w (PEnd w0 w g T h cap r)
def WordC (f:Nat):Prop:=∀ (w:World) (i:Nat) (t:Tk) (r:Except Nat (Ex × List Tk)),PG w0 w g T h cap i→T[i]?=some t→t.k=3→pW f t.s (T.drop (i+1))=some r →
 Calls prog 252 #[.pointer (some ⟨g,0,none⟩)] w (PEnd w0 w g T h cap r)
def KidsC (f:Nat):Prop:=∀ (w:World) (i n op:Nat) (r:Except Nat (Ex × List Tk)),1≤n→n≤3→PG w0 w g T h cap i→pX f op n (T.drop i)=some r →
 Calls prog 291 #[.pointer (some ⟨g,0,none⟩),.int .i64 (n:Int)] w (KEnd w0 w g T h cap r)
end
theorem pU_cases {f:Nat} {t:Tk} {q:List Tk} {r:Except Nat (Ex × List Tk)} (h:pU (f+1) (t :: q)=some r) :
  (∃ o:Nat,((sgT t=[45]∧o=5)∨(sgT t=[33]∧o=6))∧bnd (pU f q) (fun x=>some (.ok (oneE o x.1,x.2)))=some r)∨(sgT t≠[45]∧sgT t≠[33]∧pA f (t :: q)=some r):=by
 rw[pU,isS_sg (by decide),isS_sg (by decide)] at h
 by_cases h1:sgT t=[45]
 ·rw[decide_eq_true h1,if_pos rfl] at h
  exact .inl ⟨5,.inl ⟨h1,rfl⟩,h⟩
 ·rw[decide_eq_false h1,if_neg (by decide)] at h
  by_cases h2:sgT t=[33]
  ·rw[decide_eq_true h2,if_pos rfl] at h
   exact .inl ⟨6,.inr ⟨h2,rfl⟩,h⟩
  ·rw[decide_eq_false h2,if_neg (by decide)] at h
   exact .inr ⟨h1,h2,h⟩
theorem op_six {T:List Tk} (hG:GoodT T) {t:Tk} (ht:t ∈ T) (h1:sgT t≠[45]) (h2:sgT t≠[33]):opOfL 6 (sgT t)=0:=by
 by_cases hk:t.k=4
 ·have hs:=hG.sign t ht hk
  have e:sgT t=t.s:=by unfold sgT;rw[if_pos hk]
  rw[e] at h1 h2 ⊢
  have hall:∀ s ∈ ([[43],[45],[42],[47],[37],[40],[41],[44],[61],[60],[62],[38],[124],[33],[60,61],[62,61],[33,61]]:List (List UInt8)),s≠[45]→s≠[33]→opOfL 6 s=0:=by decide
  exact hall _ hs h1 h2
 ·have e:sgT t=[]:=by unfold sgT;rw[if_neg hk]
  rw[e];decide
theorem sg_kind {t:Tk} {s:List UInt8} (hs:s≠[]) (h:sgT t=s):t.k=4:=by
 unfold sgT at h
 by_cases hk:t.k=4
 ·exact hk
 ·rw[if_neg hk] at h;exact absurd h.symm hs
theorem ex_one {w:World} {S:Nat→Prop} {op:Int} {a:Ex} {b:Nat} (ho:In64 op) (hS:S b) (hb:b<w.heap.size) (hr:RowIn w S b 0 [a]):ExIn w S (.mk op 0 [] [a]) (EV op 0 ⟨#[]⟩ (.slice (some ⟨b,0,none⟩) 1 1)) :=
 ExIn.mk (ks:=[a]) ⟨ho,in64_0,by decide⟩ (Nat.le_refl _) (by simp) (fun _=>⟨b,0,rfl,hS,hb,hr⟩)
theorem ex_two {w:World} {S:Nat→Prop} {op:Int} {a c:Ex} {b:Nat} (ho:In64 op) (hS:S b) (hb:b<w.heap.size) (hr:RowIn w S b 0 [a,c]):ExIn w S (.mk op 0 [] [a,c]) (EV op 0 ⟨#[]⟩ (.slice (some ⟨b,0,none⟩) 2 2)) :=
 ExIn.mk (ks:=[a,c]) ⟨ho,in64_0,by decide⟩ (Nat.le_refl _) (by simp) (fun _=>⟨b,0,rfl,hS,hb,hr⟩)
theorem set_size (w:World) (p:Addr) (v:Value):(w.setCell p v).heap.size=w.heap.size:=by simp[World.setCell]
abbrev set4 (w:World) (b:Nat) (x0 x1 x2 x3:Value):World:=(((w.setCell ⟨b,0,none⟩ x0).setCell ⟨b,1,none⟩ x1).setCell ⟨b,2,none⟩ x2).setCell ⟨b,3,none⟩ x3
theorem set4_size (w:World) (b:Nat) (x0 x1 x2 x3:Value):(set4 w b x0 x1 x2 x3).heap.size=w.heap.size:=by simp only[set4,set_size]
theorem row_set4 {w:World} {B R b g:Nat} {es:List Ex} (hr:RowIn w (Up B) b 0 es) (hR:g<B) (hB:R≤B) (hbB:B≤b) (hb:b<w.heap.size) (x0 x1 x2 x3:Value):RowIn (set4 w g x0 x1 x2 x3) (Up R) b 0 es :=
 RowIn.from (fun _ h _=>Nat.le_trans hB h) _ _ _ (RowIn.stays (Stays.set4 w x0 x1 x2 x3 (by show ¬ B≤g;omega)) _ _ _ hbB hb hr)
theorem ex_set4 {w:World} {B R g:Nat} {e:Ex} {v:Value} (he:ExIn w (Up B) e v) (hR:g<B) (hB:R≤B) (x0 x1 x2 x3:Value):ExIn (set4 w g x0 x1 x2 x3) (Up R) e v :=
 (he.keep (Stays.set4 w x0 x1 x2 x3 (by show ¬ B≤g;omega))).wide (fun _ h _=>Nat.le_trans hB h)
abbrev exprO:Obj:=.cells #[.int .i64 0,.int .i64 0,.string ⟨#[]⟩,.slice none 0 0] 24
section
variable {w0:World} {g:Nat} {T:List Tk} {h cap:Nat}
theorem one_walk (f:Nat) (I1:OneC w0 g T h cap f) (I2:∀ k,k<f→WordC w0 g T h cap k) (I3:∀ k,k<f→LineC w0 g T h cap k):OneC w0 g T h cap (f+1):=by
 intro w i r p hr
 have hgl:=p.glt
 obtain⟨t,ht,hd,-⟩:=p.tok
 have hmem:=List.mem_of_getElem? ht
 rw[hd] at hr
 have hb0:=below_alloc w exprO
 have hF0:=four_new w (.int .i64 0) (.int .i64 0) (.string ⟨#[]⟩) (.slice none 0 0) 24
 have hsz0:=alloc_size w exprO
 obtain⟨wA,hwA⟩:∃ wA,w.alloc exprO=wA:=⟨_,rfl⟩
 rw[hwA] at hb0 hsz0
 unfold exprO at hwA
 rw[hwA] at hF0
 have gA:=p.later hb0
 have c1:=psign_any w0 wA g T h cap i t gA ht
 have cO:=fun w' (hF:Forms w')=>opof_any 6 ⟨(sgT t).toArray⟩ w' hF
 have hsd:(⟨(sgT t).toArray⟩:ByteArray).data.toList=sgT t:=rfl
 rw[hsd] at cO
 rcases pU_cases hr with ⟨o,ho,hq⟩ | ⟨h1,h2,hq⟩
 · -- a sign ahead
  have hop:opOfL 6 (sgT t)=(o:Int):=by rcases ho with ⟨h1,rfl⟩ | ⟨h1,rfl⟩<;>rw[h1]<;>decide
  have hk:t.k≠0:=by rcases ho with ⟨h1,rfl⟩ | ⟨h1,rfl⟩<;>(have:=sg_kind (by decide) h1;omega)
  have hoz:((o:Int) == 0)=false:=by rcases ho with ⟨h1,rfl⟩ | ⟨h1,rfl⟩<;>decide
  have hoi:In64 (o:Int):=by rcases ho with ⟨h1,rfl⟩ | ⟨h1,rfl⟩<;>exact⟨by decide,by decide⟩
  have hl1:=p.next ht hk
  rw[hop] at cO
  have hbig:=p.big
  generalize hSS:(⟨(sgT t).toArray⟩:ByteArray)=SS at *
  cases hu:pU f (T.drop (i+1)) with
  | none=>rw[hu] at hq;cases hq
  | some r1 =>
   rw[hu] at hq
   have cI:=fun w' (p':PG w0 w' g T h cap (i+1))=>I1 w' (i+1) r1 p' hu
   have HO:=hid ho
   have HOI:=hid hoi
   clear hr hu hd ht hmem hk ho hop hsd I1 I2 I3 hSS hoi p
   cases r1 with
   | error pp =>
    rw[bnd_err rfl] at hq
    injection hq with hq
    have HR:=hid hq
    clear hq
    go_enter func178,ntmps178
    go_wp2_with fail
    refine c1.mono ?_
    rintro e w1 ⟨rfl,b1⟩
    have hb1:=below_to hb0 b1
    have hF1:=hF0.later b1
    have p1:=gA.later b1
    have c2:=cO w1 p1.now.forms
    clear c1 hF0 b1 gA hb0 hwA cO
    go_wp2_with fail
    refine c2.mono ?_
    rintro e w2 ⟨rfl,b2⟩
    have hb2:=below_to hb1 b2
    have p2:=p1.later b2
    obtain⟨-,x1,f1⟩:=p2.cells
    have c3:=cI _ (p2.goes (z:=(i:Int)+1) hl1 (by omega))
    have a2:=(Away.of (g:=g) hb2).set 1 (.int .i64 ((i:Int)+1))
    clear c2 p1 hb1 b2 cI hF1
    go_wp2_with fail
    refine c3.mono ?_
    rintro e w3 hP
    obtain⟨rfl,a3⟩:=hP.err
    go_wp2
    exact⟨rfl,PEnd.mk_err HR.out.symm (a2.trans a3)⟩
   | ok x =>
    obtain⟨a,q⟩:=x
    rw[bnd_ok rfl] at hq
    injection hq with hq
    have HR:=hid hq
    clear hq
    go_enter func178,ntmps178
    go_wp2_with fail
    refine c1.mono ?_
    rintro e w1 ⟨rfl,b1⟩
    have hb1:=below_to hb0 b1
    have hF1:=hF0.later b1
    have p1:=gA.later b1
    have c2:=cO w1 p1.now.forms
    have hs1:=b1.size
    clear c1 hF0 b1 gA hb0 hwA cO
    go_wp2_with fail
    refine c2.mono ?_
    rintro e w2 ⟨rfl,b2⟩
    have hb2:=below_to hb1 b2
    have p2:=p1.later b2
    have hF2:=hF1.later b2
    have hs2:=b2.size
    obtain⟨-,x1,f1⟩:=p2.cells
    have p2':=p2.goes (z:=(i:Int)+1) hl1 (by omega)
    have hF2':=hF2.away ((Away.refl g w2).set 1 (.int .i64 ((i:Int)+1))) (by omega)
    have c3:=cI _ p2'
    have a2:=(Away.of (g:=g) hb2).set 1 (.int .i64 ((i:Int)+1))
    clear c2 p1 hb1 b2 cI hF1 hF2
    go_wp2_with fail
    refine c3.mono ?_
    rintro e w3 hP
    obtain⟨op,n,s,ao,c,j,rfl,a3,x3,hj,p3⟩:=hP.ok
    have hb4:=below_alloc w3 (.cells #[.int .i64 op,.int .i64 n,.string s,.slice ao a.kids.length c] 24)
    have hF4:=(hF2'.away a3 (by omega)).later hb4
    have r4:=row_one (ty:=24) x3
    have p4:=p3.later hb4
    have a4:=(a2.trans a3).next hb4
    have hs3:=a3.size
    rw[set_size] at hs3
    obtain⟨-,z0,z1,z2,z3,f0,f1',f2,f3⟩:=hF4
    clear c3 hP p3 a3 a2 x3 hF2' p2' p2
    go_wp2
    rw[set_size] at r4
    have r5:=row_set4 (R:=w.heap.size) (g:=w.heap.size) r4 (by omega) (by omega) hs3 (by rw[alloc_size];omega) (.int .i64 (o:Int)) (.int .i64 0) (.string ⟨#[]⟩) (.slice (some ⟨w3.heap.size,0,none⟩) 1 1)
    have hx:=ex_one (b:=w3.heap.size) HOI.out (by show w.heap.size≤_;omega) (by rw[set4_size,alloc_size];omega) r5
    exact bodyPost_ret (v:=EV (o:Int) 0 ⟨#[]⟩ (.slice (some ⟨w3.heap.size,0,none⟩) 1 1)) (by simp[results,results178,go_sem,z0,z1,z2,z3]) rfl
     (PEnd.mk_ok (by rw[← HR.out,hj];rfl) (a4.put4 (Nat.le_refl _) _ _ _ _) hx (p4.put4 hgl _ _ _ _))
 · -- none ahead
  have hop:opOfL 6 (sgT t)=0:=op_six p.good hmem h1 h2
  rw[hop] at cO
  have hbig:=p.big
  have hsz:=p.good.size t hmem
  have hnum:=p.good.num t hmem
  have cT:=fun w' (p':PG w0 w' g T h cap i)=>token_any w0 w' g T h cap i t p' ht
  generalize hSS:(⟨(sgT t).toArray⟩:ByteArray)=SS at *
  cases f with
  | zero=>rw[pA] at hq;cases hq
  | succ f =>
  rw[pA] at hq
  by_cases hk1:t.k=1
  ·have hkI:((t.k:Nat):Int)=1:=by rw[hk1];rfl
   rw[hkI] at cT
   rw[if_pos hk1] at hq
   injection hq with hq
   have hl1:=p.next ht (by omega)
   have HR:=hid hq
   have hleaf:∀ (w:World) (R:Nat→Prop),ExIn w R (.mk 1 (t.n:Int) [] []) (EV 1 (t.n:Int) ⟨#[]⟩ (.slice none 0 0)):=fun w R=>.leaf (rng_lit (by decide) ⟨by omega,by omega⟩ (by decide))
   have HL:=hid hleaf
   clear hq hr hd ht hmem hkI hk1 hop hsd h1 h2 I1 I2 I3 hSS hnum hsz hleaf p
   generalize (⟨t.s.toArray⟩:ByteArray)=S at *
   generalize (t.n:Int)=N at *
   go_enter func178,ntmps178
   go_wp2_with fail
   refine c1.mono ?_
   rintro e w1 ⟨rfl,b1⟩
   have hb1:=below_to hb0 b1
   have hF1:=hF0.later b1
   have p1:=gA.later b1
   have c2:=cO w1 p1.now.forms
   have hs1:=b1.size
   clear c1 hF0 b1 gA hb0 hwA cO
   go_wp2_with fail
   refine c2.mono ?_
   rintro e w2 ⟨rfl,b2⟩
   have hb2:=below_to hb1 b2
   have p2:=p1.later b2
   have hF2:=hF1.later b2
   have hs2:=b2.size
   have c3:=cT w2 p2
   clear c2 p1 hb1 b2 hF1 cT
   go_wp2_with fail
   refine c3.mono ?_
   rintro e w3 ⟨rfl,b3⟩
   have hs3:=b3.size
   have hb4:=below_to b3 (below_alloc w3 (.cells #[.int .i64 1,.string S,.int .i64 N,.int .i64 t.a] 82))
   have hbw:=below_to hb2 hb4
   have p4:=p2.later hb4
   have hF4:=hF2.later hb4
   clear c3 p2 hb2 b3 hF2 hb4
   obtain⟨-,x1,f1⟩:=p4.cells
   obtain⟨-,z0,z1,z2,z3,f0,f1',f2,f3⟩:=hF4
   have hn1:¬ g=w3.heap.size:=by omega
   have hn2:¬ w3.heap.size=g:=by omega
   have hn3:¬ w.heap.size=g:=by omega
   have hn4:¬ g=w.heap.size:=by omega
   go_wp2
   exact bodyPost_ret (v:=EV 1 N ⟨#[]⟩ (.slice none 0 0)) (by simp[results,results178,go_sem,z0,z1,z2,z3]) rfl
    (PEnd.mk_ok HR.out.symm (((Away.of hbw).set 1 _).put4 (Nat.le_refl _) _ _ _ _) (HL.out _ _) ((p4.goes hl1 (by omega)).put4 hgl _ _ _ _))
  rw[if_neg hk1] at hq
  by_cases hk2:t.k=2
  ·have hkI:((t.k:Nat):Int)=2:=by rw[hk2];rfl
   rw[hkI] at cT
   rw[if_pos hk2] at hq
   injection hq with hq
   have hl1:=p.next ht (by omega)
   have HR:=hid hq
   have hleaf:∀ (w:World) (R:Nat→Prop),ExIn w R (.mk 2 0 t.s []) (EV 2 0 ⟨t.s.toArray⟩ (.slice none 0 0)):=fun w R=>.leaf (rng_lit (by decide) in64_0 hsz)
   have HL:=hid hleaf
   clear hq hr hd ht hmem hkI hk1 hk2 hop hsd h1 h2 I1 I2 I3 hSS hnum hsz hleaf p
   generalize (⟨t.s.toArray⟩:ByteArray)=S at *
   generalize (t.n:Int)=N at *
   go_enter func178,ntmps178
   go_wp2_with fail
   refine c1.mono ?_
   rintro e w1 ⟨rfl,b1⟩
   have hb1:=below_to hb0 b1
   have hF1:=hF0.later b1
   have p1:=gA.later b1
   have c2:=cO w1 p1.now.forms
   have hs1:=b1.size
   clear c1 hF0 b1 gA hb0 hwA cO
   go_wp2_with fail
   refine c2.mono ?_
   rintro e w2 ⟨rfl,b2⟩
   have hb2:=below_to hb1 b2
   have p2:=p1.later b2
   have hF2:=hF1.later b2
   have hs2:=b2.size
   have c3:=cT w2 p2
   clear c2 p1 hb1 b2 hF1 cT
   go_wp2_with fail
   refine c3.mono ?_
   rintro e w3 ⟨rfl,b3⟩
   have hs3:=b3.size
   have hb4:=below_to b3 (below_alloc w3 (.cells #[.int .i64 2,.string S,.int .i64 N,.int .i64 t.a] 82))
   have hbw:=below_to hb2 hb4
   have p4:=p2.later hb4
   have hF4:=hF2.later hb4
   clear c3 p2 hb2 b3 hF2 hb4
   obtain⟨-,x1,f1⟩:=p4.cells
   obtain⟨-,z0,z1,z2,z3,f0,f1',f2,f3⟩:=hF4
   have hn1:¬ g=w3.heap.size:=by omega
   have hn2:¬ w3.heap.size=g:=by omega
   have hn3:¬ w.heap.size=g:=by omega
   have hn4:¬ g=w.heap.size:=by omega
   go_wp2
   exact bodyPost_ret (v:=EV 2 0 S (.slice none 0 0)) (by simp[results,results178,go_sem,z0,z1,z2,z3]) rfl
    (PEnd.mk_ok HR.out.symm (((Away.of hbw).set 1 _).put4 (Nat.le_refl _) _ _ _ _) (HL.out _ _) ((p4.goes hl1 (by omega)).put4 hgl _ _ _ _))
  rw[if_neg hk2] at hq
  by_cases hk3:t.k=3
  ·have hkI:((t.k:Nat):Int)=3:=by rw[hk3];rfl
   rw[hkI] at cT
   rw[if_pos hk3] at hq
   have cW:=fun w' (p':PG w0 w' g T h cap i)=>I2 f (Nat.lt_succ_self f) w' i t r p' ht hk3 hq
   clear hq hr hd ht hmem hkI hk1 hk2 hk3 hop hsd h1 h2 I1 I2 I3 hSS hnum hsz p
   generalize (⟨t.s.toArray⟩:ByteArray)=S at *
   generalize (t.n:Int)=N at *
   go_enter func178,ntmps178
   go_wp2_with fail
   refine c1.mono ?_
   rintro e w1 ⟨rfl,b1⟩
   have hb1:=below_to hb0 b1
   have hF1:=hF0.later b1
   have p1:=gA.later b1
   have c2:=cO w1 p1.now.forms
   have hs1:=b1.size
   clear c1 hF0 b1 gA hb0 hwA cO
   go_wp2_with fail
   refine c2.mono ?_
   rintro e w2 ⟨rfl,b2⟩
   have hb2:=below_to hb1 b2
   have p2:=p1.later b2
   have hF2:=hF1.later b2
   have hs2:=b2.size
   have c3:=cT w2 p2
   clear c2 p1 hb1 b2 hF1 cT
   go_wp2_with fail
   refine c3.mono ?_
   rintro e w3 ⟨rfl,b3⟩
   have hs3:=b3.size
   have hb4:=below_to b3 (below_alloc w3 (.cells #[.int .i64 3,.string S,.int .i64 N,.int .i64 t.a] 82))
   have hbw:=below_to hb2 hb4
   have p4:=p2.later hb4
   have hF4:=hF2.later hb4
   clear c3 p2 hb2 b3 hF2 hb4
   obtain⟨w4,hw4⟩:∃ w4,w3.alloc (.cells #[.int .i64 3,.string S,.int .i64 N,.int .i64 t.a] 82)=w4:=⟨_,rfl⟩
   have hs4:=alloc_size w3 (.cells #[.int .i64 3,.string S,.int .i64 N,.int .i64 t.a] 82)
   have hY:=four_new w3 (.int .i64 3) (.string S) (.int .i64 N) (.int .i64 t.a) 82
   rw[hw4] at hY p4 hF4 hbw hs4
   obtain⟨-,y0,y1,y2,y3,-⟩:=hY
   have c5:=cW w4 p4
   clear cW
   cases r with
   | error pp =>
    go_wp2_with fail
    refine c5.mono ?_
    rintro e w5 hP
    obtain⟨rfl,a5⟩:=hP.err
    go_wp2
    exact⟨rfl,PEnd.mk_err rfl ((Away.of hbw).trans a5)⟩
   | ok x =>
    obtain⟨a,q⟩:=x
    go_wp2_with fail
    refine c5.mono ?_
    rintro e w5 hP
    obtain⟨op,n,s,ao,c,j,rfl,a5,x5,hj,p5⟩:=hP.ok
    obtain⟨-,z0,z1,z2,z3,f0,f1',f2,f3⟩:=hF4.away a5 (by omega)
    have hx:=ex_set4 (R:=w.heap.size) (g:=w.heap.size) x5 (by omega) (by omega) (.int .i64 op) (.int .i64 n) (.string s) (.slice ao a.kids.length c)
    clear c5 hP x5 p4 hF4 hw4
    go_wp2
    exact bodyPost_ret (v:=EV op n s (.slice ao a.kids.length c)) (by simp[results,results178,go_sem,z0,z1,z2,z3]) rfl
     (PEnd.mk_ok (by rw[hj]) (((Away.of hbw).trans a5).put4 (Nat.le_refl _) _ _ _ _) hx (p5.put4 hgl _ _ _ _))
  rw[if_neg hk3,isS_sg (by decide)] at hq
  have hkn:((t.k:Int) == 1)=false∧((t.k:Int) == 2)=false∧((t.k:Int) == 3)=false:=⟨beq_eq_false_iff_ne.2 (by omega),beq_eq_false_iff_ne.2 (by omega),beq_eq_false_iff_ne.2 (by omega)⟩
  obtain⟨hkz1,hkz2,hkz3⟩:=hkn
  have cK:=fun w' (p':PG w0 w' g T h cap i)=>take_any w0 w' g T h cap i [40] t p' ht (by decide)
  by_cases hp:sgT t=[40]
  ·rw[decide_eq_true hp,if_pos rfl] at hq
   have hk:t.k≠0:=by have:=sg_kind (by decide) hp;omega
   have hl1:=p.next ht hk
   have H1:=hid hp
   cases hE:pE f 0 (T.drop (i+1)) with
   | none=>rw[hE] at hq;cases hq
   | some r1 =>
    rw[hE] at hq
    have cL:=fun w' (p':PG w0 w' g T h cap (i+1))=>I3 f (Nat.lt_succ_self f) 0 w' (i+1) r1 (by decide) p' hE
    simp only[Int.natCast_zero,Int.zero_add] at cL
    clear hr hd ht hmem hk1 hk2 hk3 hk hop hsd h1 h2 I1 I2 I3 hSS hnum hsz hE hp
    generalize (⟨t.s.toArray⟩:ByteArray)=S at *
    generalize (t.n:Int)=N at *
    generalize (t.k:Int)=K at *
    cases r1 with
    | error pp =>
     rw[bnd_err rfl] at hq
     injection hq with hq
     have HR:=hid hq
     clear hq p
     go_enter func178,ntmps178
     go_wp2_with fail
     refine c1.mono ?_
     rintro e w1 ⟨rfl,b1⟩
     have hb1:=below_to hb0 b1
     have hF1:=hF0.later b1
     have p1:=gA.later b1
     have c2:=cO w1 p1.now.forms
     have hs1:=b1.size
     clear c1 hF0 b1 gA hb0 hwA cO
     go_wp2_with fail
     refine c2.mono ?_
     rintro e w2 ⟨rfl,b2⟩
     have hb2:=below_to hb1 b2
     have p2:=p1.later b2
     have hF2:=hF1.later b2
     have hs2:=b2.size
     have c3:=cT w2 p2
     clear c2 p1 hb1 b2 hF1 cT
     go_wp2_with fail
     refine c3.mono ?_
     rintro e w3 ⟨rfl,b3⟩
     have hs3:=b3.size
     have hb4:=below_to b3 (below_alloc w3 (.cells #[.int .i64 K,.string S,.int .i64 N,.int .i64 t.a] 82))
     have hbw:=below_to hb2 hb4
     have p4:=p2.later hb4
     have hF4:=hF2.later hb4
     clear c3 p2 hb2 b3 hF2 hb4
     obtain⟨w4,hw4⟩:∃ w4,w3.alloc (.cells #[.int .i64 K,.string S,.int .i64 N,.int .i64 t.a] 82)=w4:=⟨_,rfl⟩
     have hY:=four_new w3 (.int .i64 K) (.string S) (.int .i64 N) (.int .i64 t.a) 82
     rw[hw4] at hY p4 hF4 hbw
     obtain⟨-,y0,y1,y2,y3,-⟩:=hY
     have c5:=cK w4 p4
     clear cK
     go_wp2_with fail
     refine c5.mono ?_
     rintro e w5 hT
     obtain⟨rfl,a5,p5⟩:=hT.yes H1.out
     have c6:=cL w5 p5
     clear c5 cL hT
     go_wp2_with fail
     refine c6.mono ?_
     rintro e w6 hP
     obtain⟨rfl,a6⟩:=hP.err
     go_wp2
     exact⟨rfl,PEnd.mk_err HR.out.symm (((Away.of hbw).trans a5).trans a6)⟩
    | ok x =>
     obtain⟨a,q⟩:=x
     rw[bnd_ok rfl] at hq
     dsimp only at hq
     have HQ:=hid hq
     have HG:=hid p.good
     clear hq p
     go_enter func178,ntmps178
     go_wp2_with fail
     refine c1.mono ?_
     rintro e w1 ⟨rfl,b1⟩
     have hb1:=below_to hb0 b1
     have hF1:=hF0.later b1
     have p1:=gA.later b1
     have c2:=cO w1 p1.now.forms
     have hs1:=b1.size
     clear c1 hF0 b1 gA hb0 hwA cO
     go_wp2_with fail
     refine c2.mono ?_
     rintro e w2 ⟨rfl,b2⟩
     have hb2:=below_to hb1 b2
     have p2:=p1.later b2
     have hF2:=hF1.later b2
     have hs2:=b2.size
     have c3:=cT w2 p2
     clear c2 p1 hb1 b2 hF1 cT
     go_wp2_with fail
     refine c3.mono ?_
     rintro e w3 ⟨rfl,b3⟩
     have hs3:=b3.size
     have hb4:=below_to b3 (below_alloc w3 (.cells #[.int .i64 K,.string S,.int .i64 N,.int .i64 t.a] 82))
     have hbw:=below_to hb2 hb4
     have p4:=p2.later hb4
     have hF4:=hF2.later hb4
     clear c3 p2 hb2 b3 hF2 hb4
     obtain⟨w4,hw4⟩:∃ w4,w3.alloc (.cells #[.int .i64 K,.string S,.int .i64 N,.int .i64 t.a] 82)=w4:=⟨_,rfl⟩
     have hs4:=alloc_size w3 (.cells #[.int .i64 K,.string S,.int .i64 N,.int .i64 t.a] 82)
     have hY:=four_new w3 (.int .i64 K) (.string S) (.int .i64 N) (.int .i64 t.a) 82
     rw[hw4] at hY p4 hF4 hbw hs4
     obtain⟨-,y0,y1,y2,y3,-⟩:=hY
     have c5:=cK w4 p4
     clear cK
     go_wp2_with fail
     refine c5.mono ?_
     rintro e w5 hT
     obtain⟨rfl,a5,p5⟩:=hT.yes H1.out
     have c6:=cL w5 p5
     have hs5:=a5.size
     have hF5:=hF4.away a5 (by omega)
     have a5':=(Away.of hbw).trans a5
     clear c5 cL hT p4 hF4 hw4 a5 hbw
     go_wp2_with fail
     refine c6.mono ?_
     rintro e w6 hP
     obtain⟨op,n,s,ao,c,j,rfl,a6,x6,hj,p6⟩:=hP.ok
     have hs6:=a6.size
     have hb7:=below_alloc w6 (.cells #[.int .i64 op,.int .i64 n,.string s,.slice ao a.kids.length c] 24)
     have hG7:=four_new w6 (.int .i64 op) (.int .i64 n) (.string s) (.slice ao a.kids.length c) 24
     have hF7:=(hF5.away a6 (by omega)).later hb7
     have p7:=p6.later hb7
     have x7:=x6.later hb7
     have a7:=(a5'.trans a6).next hb7
     obtain⟨w7,hw7⟩:∃ w7,w6.alloc (.cells #[.int .i64 op,.int .i64 n,.string s,.slice ao a.kids.length c] 24)=w7:=⟨_,rfl⟩
     have hs7:=alloc_size w6 (.cells #[.int .i64 op,.int .i64 n,.string s,.slice ao a.kids.length c] 24)
     rw[hw7] at hG7 hF7 p7 x7 a7 hs7
     obtain⟨u,hu,hdu,-⟩:=p7.tok
     have c8:=take_any w0 w7 g T h cap j [41] u p7 hu (by decide)
     have hq:=HQ.out
     rw[hj,hdu] at hq
     clear c6 hP p6 x6 a6 a5' hF5 p5 hb7
     by_cases hc:sgT u=[41]
     ·rw[mustS_yes (by decide) hc,bnd_ok rfl] at hq
      injection hq with hq
      have HR:=hid hq
      have HC:=hid hc
      clear hq hc hdu hu HQ hj
      go_wp2_with fail
      refine c8.mono ?_
      rintro e w8 hT
      obtain⟨rfl,a8,p8⟩:=hT.yes HC.out
      obtain⟨-,y0,y1,y2,y3,-⟩:=hG7.away a8 (by omega)
      obtain⟨-,z0,z1,z2,z3,f0,f1',f2,f3⟩:=hF7.away a8 (by omega)
      have hx:=ex_set4 (R:=w.heap.size) (g:=w.heap.size) (x7.keep (stays_up a8 (by omega))) (by omega) (by omega) (.int .i64 op) (.int .i64 n) (.string s) (.slice ao a.kids.length c)
      clear c8 hT x7 p7 hF7 hG7 hw7
      go_wp2
      exact bodyPost_ret (v:=EV op n s (.slice ao a.kids.length c)) (by simp[results,results178,go_sem,z0,z1,z2,z3]) rfl
       (PEnd.mk_ok HR.out.symm ((a7.trans a8).put4 (Nat.le_refl _) _ _ _ _) hx (p8.put4 hgl _ _ _ _))
     ·rw[mustS_no (by decide) hc,bnd_err rfl] at hq
      injection hq with hq
      have HR:=hid hq
      have HC:=hid hc
      clear hq hc hdu hu HQ hj
      go_wp2_with fail
      refine c8.mono ?_
      rintro e w8 hT
      obtain⟨rfl,a8⟩:=hT.no HC.out
      go_wp2
      exact⟨rfl,PEnd.mk_err HR.out.symm (a7.trans a8)⟩
  ·rw[decide_eq_false hp,if_neg (by decide)] at hq
   injection hq with hq
   have H1:=hid hp
   have HR:=hid hq
   clear hq hr hd ht hmem hk1 hk2 hk3 hop hsd h1 h2 I1 I2 I3 hSS hnum hsz hp p
   generalize (⟨t.s.toArray⟩:ByteArray)=S at *
   generalize (t.n:Int)=N at *
   generalize (t.k:Int)=K at *
   go_enter func178,ntmps178
   go_wp2_with fail
   refine c1.mono ?_
   rintro e w1 ⟨rfl,b1⟩
   have hb1:=below_to hb0 b1
   have hF1:=hF0.later b1
   have p1:=gA.later b1
   have c2:=cO w1 p1.now.forms
   have hs1:=b1.size
   clear c1 hF0 b1 gA hb0 hwA cO
   go_wp2_with fail
   refine c2.mono ?_
   rintro e w2 ⟨rfl,b2⟩
   have hb2:=below_to hb1 b2
   have p2:=p1.later b2
   have hF2:=hF1.later b2
   have hs2:=b2.size
   have c3:=cT w2 p2
   clear c2 p1 hb1 b2 hF1 cT
   go_wp2_with fail
   refine c3.mono ?_
   rintro e w3 ⟨rfl,b3⟩
   have hs3:=b3.size
   have hb4:=below_to b3 (below_alloc w3 (.cells #[.int .i64 K,.string S,.int .i64 N,.int .i64 t.a] 82))
   have hbw:=below_to hb2 hb4
   have p4:=p2.later hb4
   have hF4:=hF2.later hb4
   clear c3 p2 hb2 b3 hF2 hb4
   obtain⟨w4,hw4⟩:∃ w4,w3.alloc (.cells #[.int .i64 K,.string S,.int .i64 N,.int .i64 t.a] 82)=w4:=⟨_,rfl⟩
   have hY:=four_new w3 (.int .i64 K) (.string S) (.int .i64 N) (.int .i64 t.a) 82
   rw[hw4] at hY p4 hF4 hbw
   obtain⟨-,y0,y1,y2,y3,-⟩:=hY
   have c5:=cK w4 p4
   clear cK
   go_wp2_with fail
   refine c5.mono ?_
   rintro e w5 hT
   obtain⟨rfl,a5⟩:=hT.no H1.out
   go_wp2
   exact⟨rfl,PEnd.mk_err HR.out.symm ((Away.of hbw).trans a5)⟩
end
end
section
open _root_.Go.Proofs.Tryz
set_option maxHeartbeats 2000000
set_option maxRecDepth 100000
open Go.RowKit
structure Eight (w:World) (b:Nat) (x0 x1 x2 x3 y0 y1 y2 y3:Value):Prop where
 lt:b<w.heap.size
 c0:w.cell? ⟨b,0,none⟩=some x0
 c1:w.cell? ⟨b,1,none⟩=some x1
 c2:w.cell? ⟨b,2,none⟩=some x2
 c3:w.cell? ⟨b,3,none⟩=some x3
 c4:w.cell? ⟨b,4,none⟩=some y0
 c5:w.cell? ⟨b,5,none⟩=some y1
 c6:w.cell? ⟨b,6,none⟩=some y2
 c7:w.cell? ⟨b,7,none⟩=some y3
 fr:∀ i,w.frozen? ⟨b,i,none⟩=false
theorem eight_new (w:World) (x0 x1 x2 x3 y0 y1 y2 y3:Value) (ty:TypeId):Eight (w.alloc (.cells #[x0,x1,x2,x3,y0,y1,y2,y3] ty)) w.heap.size x0 x1 x2 x3 y0 y1 y2 y3:=by
 have hk:w.heap.size<(w.alloc (.cells #[x0,x1,x2,x3,y0,y1,y2,y3] ty)).heap.size:=by rw[alloc_size];omega
 refine⟨hk,?_,?_,?_,?_,?_,?_,?_,?_,?_⟩
 all_goals first | (rw[cells_of_alloc];rfl) | (intro i;simp)
theorem rev_any (w:World) (b:Nat) (o1 n1 o2 n2:Int) (s1 s2:ByteArray) (a1 a2:Option Addr) (l1 c1 l2 c2:Nat) (h:Eight w b (.int .i64 o1) (.int .i64 n1) (.string s1) (.slice a1 l1 c1) (.int .i64 o2) (.int .i64 n2) (.string s2) (.slice a2 l2 c2)) :
  Calls prog 182 #[.slice (some ⟨b,0,none⟩) 2 2] w fun e w'=>e=.returned (.tuple #[])∧Away b w w'∧(NB w b→NB w' b) ∧
   w'.cell? ⟨b,0,none⟩=some (.int .i64 o2)∧w'.cell? ⟨b,1,none⟩=some (.int .i64 n2)∧w'.cell? ⟨b,2,none⟩=some (.string s2)∧w'.cell? ⟨b,3,none⟩=some (.slice a2 l2 c2) ∧
   w'.cell? ⟨b,4,none⟩=some (.int .i64 o1)∧w'.cell? ⟨b,5,none⟩=some (.int .i64 n1)∧w'.cell? ⟨b,6,none⟩=some (.string s1)∧w'.cell? ⟨b,7,none⟩=some (.slice a1 l1 c1):=by
 obtain⟨hl,k0,k1,k2,k3,k4,k5,k6,k7,hf⟩:=h
 have f0:=hf 0
 have f1:=hf 1
 have f2:=hf 2
 have f3:=hf 3
 have f4:=hf 4
 have f5:=hf 5
 have f6:=hf 6
 have f7:=hf 7
 clear hf
 go_enter func182,ntmps182
 go_wp2_with fail
 refine wp_loop_rounds 2 ?_
 rw[rounds_succ]
 go_wp2_with fail
 go_region
 go_wp2_with fail
 rw[rounds_succ]
 go_wp2_with fail
 go_end0
 refine⟨rfl,((((((((Away.refl b w).set 0 _).set 1 _).set 2 _).set 3 _).set 4 _).set 5 _).set 6 _).set 7 _ |>.next ((Below.refl _ _).drew),?_,?_,?_,?_,?_,?_,?_,?_,?_⟩
 ·intro hb
  refine NB.drew ?_
  iterate 8 refine NB.set ?_ _ _ _
  exact hb
 all_goals simp[k0,k1,k2,k3,k4,k5,k6,k7,go_sem]
end
end Go.Proofs.YtbbblmedoagncaaGreatDoor
