/- Few9, PNs, RNm, EvNm -/
import Derived.Test.YtbbblmedoagncaaGreatDoorSEY
import Derived.Test.YtbbblmedoagncaaGreatDoorSGX
import Derived.Test.YtbbblmedoagncaaGreatDoorSGO
import Derived.Test.YtbbblmedoagncaaGreatDoorSGJ
import Derived.Test.YtbbblmedoagncaaGreatDoorSHC
import Derived.Test.YtbbblmedoagncaaGreatDoorSGG
import Derived.Test.YtbbblmedoagncaaGreatDoorSGB
import Derived.Laws.IdiomCopy
import Derived.Lib.SlicesCompact
import Derived.Sort.KeysCollected
import Derived.Sort.Walk0
import Derived.Deep.LoopGhost
import Derived.WalkMore
namespace Go.Proofs.YtbbblmedoagncaaGreatDoor
section
open Lib (hid)
open _root_.Go.Proofs.Tryz
set_option maxHeartbeats 2000000
set_option maxRecDepth 100000
open Go.RowKit
def Few9End (N:List ByteArray) (V:List Va) (w:World) (e:Ending) (w':World):Prop:=(∃ b,e=.returned (.bool b)∧(b=true→N.length≤50∧V.length≤50))∧w=w'
theorem few9_any (N:List ByteArray) (V:List Va) (A B:Option Addr) (cA cB:Nat) (w:World) (hV:Vs w B V) :
  Calls prog 18 #[.slice A N.length cA,.slice B V.length cB] w (Few9End N V w):=by
 by_cases h1:N.length≤50
 ·have h1z:(N.length:Int)≤50:=by omega
  by_cases h2:V.length≤50
  ·have h2z:(V.length:Int)≤50:=by omega
   have HV:=hid hV
   have H12:=hid (show N.length≤50∧V.length≤50 from ⟨h1,h2⟩)
   clear hV
   go_enter func18,ntmps18
   go_wp2_with fail
   go_loopg [5] (V.length) (fun a si wr=>∃ k:Nat,k+a=V.length∧si=.int .i64 (k:Int)∧wr=w)
   case atStart=>exact⟨0,by omega,rfl,rfl⟩
   case round =>
    obtain⟨k,hka,rfl,hw⟩:=hrel
    subst hw
    have HKA:=hid hka
    by_cases hk:k<V.length
    ·have hkz:(k:Int)<(V.length:Int):=by omega
     obtain⟨g,o,rfl,hc⟩:=HV.out (by omega)
     obtain⟨-,-,c2⟩:=hc k V[k] (List.getElem?_eq_getElem hk)
     generalize (⟨(V[k]).s.toArray⟩:ByteArray)=t at *
     clear hc hka
     by_cases ht:(1000:Int)<(t.size:Int)
     ·go_wp2_with fail
      exact bodyPost_ret (v:=.bool false) (by simp[results,results18,go_sem]) rfl ⟨⟨false,rfl,fun h=>by cases h⟩,rfl⟩
     ·go_wp2_with fail
      go_roundg (V.length - (k+1))
      case measure=>have:=HKA.out;omega
      case rel=>exact⟨k+1,by have:=HKA.out;omega,by go_num,rfl⟩
    ·have hkz:¬ (k:Int)<(V.length:Int):=by omega
     go_wp2_with fail
     exact bodyPost_ret (v:=.bool true) (by simp[results,results18,go_sem]) rfl ⟨⟨true,rfl,fun _=>H12.out⟩,rfl⟩
  ·have h2z:¬ (V.length:Int)≤50:=by omega
   go_enter func18,ntmps18
   go_wp2_with fail
   go_ret
   exact⟨⟨false,rfl,fun h=>by cases h⟩,rfl⟩
 ·have h1z:¬ (N.length:Int)≤50:=by omega
  go_enter func18,ntmps18
  go_wp2_with fail
  go_ret
  exact⟨⟨false,rfl,fun h=>by cases h⟩,rfl⟩
end
section
theorem bt_tri:∀ l m:List UInt8,l<m∨l=m∨m<l
 | [],[]=>.inr (.inl rfl)
 | [],b :: m=>.inl (List.nil_lt_cons _ _)
 | a :: l,[]=>.inr (.inr (List.nil_lt_cons _ _))
 | a :: l,b :: m=>by
  rw[List.cons_lt_cons_iff,List.cons_lt_cons_iff]
  rcases Nat.lt_trichotomy a.toNat b.toNat with h | h | h
  ·exact .inl (.inl h)
  ·obtain rfl:=UInt8.toNat_inj.1 h
   rcases bt_tri l m with h | rfl | h
   ·exact .inl (.inr ⟨rfl,h⟩)
   ·exact .inr (.inl rfl)
   ·exact .inr (.inr (.inr ⟨rfl,h⟩))
  ·exact .inr (.inr (.inl h))
theorem bt_irr:∀ l:List UInt8,¬ l<l
 | []=>List.not_lt_nil _
 | a :: l=>by
  rw[List.cons_lt_cons_iff]
  rintro (h | ⟨_,h⟩)
  ·exact Nat.lt_irrefl _ (show a.toNat<a.toNat from h)
  ·exact bt_irr l h
theorem bt_trans:∀ {a b c:List UInt8},a<b→b<c→a<c
 | [],_,[],_,h=>absurd h (List.not_lt_nil _)
 | [],_,c :: cs,_,_=>List.nil_lt_cons _ _
 | a :: as_,[],c,h,_=>absurd h (List.not_lt_nil _)
 | a :: as_,b :: bs,[],_,h=>absurd h (List.not_lt_nil _)
 | a :: as_,b :: bs,c :: cs,h,k=>by
  rw[List.cons_lt_cons_iff] at h k ⊢
  rcases h with h | ⟨rfl,h⟩
  ·rcases k with k | ⟨rfl,k⟩
   ·exact .inl (show a.toNat<c.toNat from Nat.lt_trans (show a.toNat<b.toNat from h) (show b.toNat<c.toNat from k))
   ·exact .inl h
  ·rcases k with k | ⟨rfl,k⟩
   ·exact .inl k
   ·exact .inr ⟨rfl,bt_trans h k⟩
def Rise (L:List (List UInt8)):Prop:=L.Pairwise (·<·)
theorem Rise.ext:∀ {L M:List (List UInt8)},Rise L→Rise M→(∀ x,x ∈ L↔x ∈ M)→L=M
 | [],[],_,_,_=>rfl
 | [],b :: M,_,_,h=>by have:=(h b).2 (.head _);cases this
 | a :: L,[],_,_,h=>by have:=(h a).1 (.head _);cases this
 | a :: L,b :: M,hL,hM,h=>by
  have hL':=List.pairwise_cons.1 hL
  have hM':=List.pairwise_cons.1 hM
  have hab:a=b:=by
   rcases bt_tri a b with hl | e | hl
   ·rcases List.mem_cons.1 ((h a).1 (.head _)) with e | e
    ·exact e
    ·exact absurd (bt_trans hl (hM'.1 a e)) (bt_irr a)
   ·exact e
   ·rcases List.mem_cons.1 ((h b).2 (.head _)) with e | e
    ·exact e.symm
    ·exact absurd (bt_trans hl (hL'.1 b e)) (bt_irr b)
  subst hab
  rw[Rise.ext hL'.2 hM'.2 fun x=>?_]
  constructor
  ·intro hx
   rcases List.mem_cons.1 ((h x).1 (.tail _ hx)) with e | e
   ·rw[e] at hx;exact absurd (hL'.1 _ hx) (bt_irr _)
   ·exact e
  ·intro hx
   rcases List.mem_cons.1 ((h x).2 (.tail _ hx)) with e | e
   ·rw[e] at hx;exact absurd (hM'.1 _ hx) (bt_irr _)
   ·exact e
section
variable {α:Type} [Inhabited α] [DecidableEq α]
end
end
section
open Go.RowKit
def NV (w:World) (v:Value) (L:List ByteArray):Prop :=
 (L=[]∧v=.slice none 0 0)∨(∃ b off cap,v=.slice (some ⟨b,off,none⟩) L.length cap∧0<L.length∧L.length≤cap∧∀ j,j<L.length→w.cell? ⟨b,off+j,none⟩=some (.string (L.getD j ByteArray.empty)))
theorem NV.nil (w:World):NV w (.slice none 0 0) []:=.inl ⟨rfl,rfl⟩
theorem NV.later {w w':World} {v:Value} {L:List ByteArray} (h:NV w v L) (hb:Below w.heap.size w w'):NV w' v L:=by
 rcases h with h | ⟨b,off,cap,rfl,h0,hc,hj⟩
 ·exact .inl h
 ·have hl:=World.block_lt_of_cell? w _ (hj 0 h0)
  exact .inr ⟨b,off,cap,rfl,h0,hc,fun j hlt=>(hb.cell (p:=⟨b,off+j,none⟩) hl).trans (hj j hlt)⟩
end
section
open Lib (hid)
open _root_.Go.Proofs.Tryz
set_option maxHeartbeats 400000
set_option maxRecDepth 100000
open Go.RowKit
def vaCells:List Va→List Value
 | []=>[]
 | v :: vs=>.int .i64 v.k :: .int .i64 v.n :: .string ⟨v.s.toArray⟩ :: vaCells vs
theorem vaCells_len:∀ V:List Va,(vaCells V).length=V.length * 3
 | []=>rfl
 | v :: vs=>by rw[vaCells];simp[vaCells_len vs];omega
theorem vaCells_one:∀ (V:List Va),∀ u ∈ vaCells V,u.oneCell'=true
 | [],u,h=>by rw[vaCells] at h;cases h
 | v :: vs,u,h=>by
  rw[vaCells] at h
  simp only[List.mem_cons] at h
  rcases h with rfl | rfl | rfl | h
  ·rfl
  ·rfl
  ·rfl
  ·exact vaCells_one vs u h
theorem vaCells_at:∀ {V:List Va} {k:Nat} {v:Va},V[k]?=some v→(vaCells V)[k * 3]?=some (.int .i64 v.k)∧(vaCells V)[k * 3+1]?=some (.int .i64 v.n)∧(vaCells V)[k * 3+2]?=some (.string ⟨v.s.toArray⟩)
 | [],k,v,h=>by simp at h
 | x :: xs,0,v,h=>by
  obtain rfl:x=v:=by simpa using h
  rw[vaCells]
  exact⟨rfl,rfl,rfl⟩
 | x :: xs,k+1,v,h=>by
  have ih:=vaCells_at (V:=xs) (k:=k) (v:=v) (by simpa using h)
  rw[vaCells,show (k+1) * 3=k * 3+3 by omega]
  exact⟨by simpa using ih.1,by simpa using ih.2.1,by simpa using ih.2.2⟩
theorem vaCells_of:∀ {V:List Va} {j:Nat} {u:Value},(vaCells V)[j]?=some u→∃ k v,V[k]?=some v∧((j=k * 3∧u=.int .i64 v.k)∨(j=k * 3+1∧u=.int .i64 v.n)∨(j=k * 3+2∧u=.string ⟨v.s.toArray⟩))
 | [],j,u,h=>by rw[vaCells] at h;simp at h
 | x :: xs,0,u,h=>⟨0,x,rfl,.inl ⟨rfl,by rw[vaCells] at h;simpa using h.symm⟩⟩
 | x :: xs,1,u,h=>⟨0,x,rfl,.inr (.inl ⟨rfl,by rw[vaCells] at h;simpa using h.symm⟩)⟩
 | x :: xs,2,u,h=>⟨0,x,rfl,.inr (.inr ⟨rfl,by rw[vaCells] at h;simpa using h.symm⟩)⟩
 | x :: xs,j+3,u,h=>by
  rw[vaCells] at h
  obtain⟨k,v,hk,hj⟩:=vaCells_of (V:=xs) (j:=j) (u:=u) (by simpa using h)
  refine⟨k+1,v,by simpa using hk,?_⟩
  rcases hj with ⟨a,b⟩ | ⟨a,b⟩ | ⟨a,b⟩
  ·exact .inl ⟨by omega,b⟩
  ·exact .inr (.inl ⟨by omega,b⟩)
  ·exact .inr (.inr ⟨by omega,b⟩)
def OV (w:World) (n₀:Nat) (B:Option Addr) (V:List Va):Prop:=0<V.length→∃ g,B=some ⟨g,0,none⟩∧n₀≤g∧NB w g∧∀ (k:Nat) v,V[k]?=some v→w.cell? ⟨g,k * 3,none⟩=some (.int .i64 v.k)∧w.cell? ⟨g,k * 3+1,none⟩=some (.int .i64 v.n)∧w.cell? ⟨g,k * 3+2,none⟩=some (.string ⟨v.s.toArray⟩)
theorem OV.vs {w:World} {n₀:Nat} {B:Option Addr} {V:List Va} (h:OV w n₀ B V):Vs w B V:=fun h0=>by
 obtain⟨g,rfl,-,-,hc⟩:=h h0
 exact⟨g,0,rfl,fun k v hk=>by rw[Nat.zero_add];exact hc k v hk⟩
theorem OV.later {w w':World} {n₀:Nat} {B:Option Addr} {V:List Va} (h:OV w n₀ B V) (hb:Below w.heap.size w w'):OV w' n₀ B V:=fun h0=>by
 obtain⟨g,rfl,hg,hn,hc⟩:=h h0
 refine⟨g,rfl,hg,hn.same (hb.block _ hn.lt),fun k v hk=>?_⟩
 obtain⟨c0,c1,c2⟩:=hc k v hk
 exact⟨(hb.cell (p:=⟨g,k * 3,none⟩) hn.lt).trans c0,(hb.cell (p:=⟨g,k * 3+1,none⟩) hn.lt).trans c1,(hb.cell (p:=⟨g,k * 3+2,none⟩) hn.lt).trans c2⟩
def setVa (w:World) (g i:Nat) (v:Va):World:=((w.setCell ⟨g,i * 3,none⟩ (.int .i64 v.k)).setCell ⟨g,i * 3+1,none⟩ (.int .i64 v.n)).setCell ⟨g,i * 3+2,none⟩ (.string ⟨v.s.toArray⟩)
theorem OV.set {w:World} {n₀ g:Nat} {V:List Va} (h:OV w n₀ (some ⟨g,0,none⟩) V) {i:Nat} (hi:i<V.length) (x:Va):OV (setVa w g i x) n₀ (some ⟨g,0,none⟩) (V.set i x):=fun h0=>by
 obtain⟨g',e,hg,hn,hc⟩:=h (by omega)
 injection e with e
 injection e with e
 subst e
 refine⟨g,rfl,hg,((hn.set _ _ _).set _ _ _).set _ _ _,fun k v hk=>?_⟩
 have ne:∀ {a b:Nat},a≠b→(⟨g,a,none⟩:Addr)≠⟨g,b,none⟩:=fun hab e=>by injection e with _ e;exact hab e
 unfold setVa
 by_cases hki:k=i
 ·subst hki
  obtain rfl:x=v:=by rw[List.getElem?_set_self hi] at hk;exact Option.some.inj hk
  obtain⟨v0,hv0⟩:∃ v0,V[k]?=some v0:=⟨_,List.getElem?_eq_getElem hi⟩
  obtain⟨c0,c1,c2⟩:=hc k v0 hv0
  refine⟨?_,?_,?_⟩
  ·rw[World.cell?_setCell_other _ _ _ _ (ne (by omega)),World.cell?_setCell_other _ _ _ _ (ne (by omega))]
   exact World.cell?_setCell_same _ _ _ c0
  ·rw[World.cell?_setCell_other _ _ _ _ (ne (by omega))]
   exact World.cell?_setCell_same _ _ _ (by rw[World.cell?_setCell_other _ _ _ _ (ne (by omega))];exact c1)
  ·exact World.cell?_setCell_same _ _ _ (by rw[World.cell?_setCell_other _ _ _ _ (ne (by omega)),World.cell?_setCell_other _ _ _ _ (ne (by omega))];exact c2)
 ·rw[List.getElem?_set_ne (Ne.symm hki)] at hk
  obtain⟨c0,c1,c2⟩:=hc k v hk
  refine⟨?_,?_,?_⟩
  ·rw[World.cell?_setCell_other _ _ _ _ (ne (by omega)),World.cell?_setCell_other _ _ _ _ (ne (by omega)),World.cell?_setCell_other _ _ _ _ (ne (by omega))];exact c0
  ·rw[World.cell?_setCell_other _ _ _ _ (ne (by omega)),World.cell?_setCell_other _ _ _ _ (ne (by omega)),World.cell?_setCell_other _ _ _ _ (ne (by omega))];exact c1
  ·rw[World.cell?_setCell_other _ _ _ _ (ne (by omega)),World.cell?_setCell_other _ _ _ _ (ne (by omega)),World.cell?_setCell_other _ _ _ _ (ne (by omega))];exact c2
def ValsEnd (w:World) (V:List Va) (e:Ending) (w':World):Prop:=∃ B cap,e=.returned (.slice B V.length cap)∧OV w' w.heap.size B V∧Below w.heap.size w w'
theorem vals_any (B:Option Addr) (V:List Va) (cap:Nat) (w:World) (hl:V.length≤1000) (hV:Vs w B V) (hB:B=none→cap=0) :
  Calls prog 23 #[.slice B V.length cap] w (ValsEnd w V):=by
 obtain⟨i0,hi,hz0,hz1,hz2⟩:=info_parts (show (prog.info? 39).map (fun i=>(i.zero,i.size,i.bytes))=some (some (.agg #[.int .i64 0,.int .i64 0,.string ⟨#[]⟩]),3,32) by kernel_rfl)
 cases B with
 | none =>
  obtain rfl:=hB rfl
  have h0:V=[]:=by
   cases V with
   | nil=>rfl
   | cons c V=>obtain⟨g,o,e,_⟩:=hV (by simp);cases e
  subst h0
  go_enter func23,ntmps23
  go_wp2_with (at_builtin;refine wpList_append_own_none rfl _ _ _ rfl w.heap.size 39 i0 3 underlying36 hi (.slice none 0 0) 0 [] rfl (World.ownsRow_nil _ _ _ _) rfl ?_)
  go_ret
  exact⟨none,0,rfl,fun h0=>absurd h0 (by simp),Below.refl _ _⟩
 | some ad =>
  have hc:∀ j u,(vaCells V)[j]?=some u→w.cell? (ad.add j)=some u:=fun j u hu=>by
   obtain⟨k,v,hk,hj⟩:=vaCells_of hu
   obtain⟨g,o,e,hvc⟩:=hV (by have:=(List.getElem?_eq_some_iff.1 hk).1;omega)
   injection e with e
   subst e
   obtain⟨c0,c1,c2⟩:=hvc k v hk
   rw[Lib.add_plain]
   rcases hj with ⟨rfl,rfl⟩ | ⟨rfl,rfl⟩ | ⟨rfl,rfl⟩
   ·exact c0
   ·rw[← Nat.add_assoc];exact c1
   ·rw[← Nat.add_assoc];exact c2
  have HC:=hid hc
  have HO:=hid (vaCells_one V)
  have HL:=hid (vaCells_len V)
  clear hc hV hB
  go_enter func23,ntmps23
  go_wp2_with (at_builtin;refine wpList_append_own _ rfl _ _ _ rfl w.heap.size 39 i0 _ 3 32 underlying36 hi hz0 hz1 hz2 rfl (by omega) (.slice none 0 0) 0 [] rfl (World.ownsRow_nil _ _ _ _) ad V.length cap (vaCells V) rfl HL.out HC.out HO.out ?c3 ?c4 (Nat.le_refl _) ?_)
  case c3=>unfold maxLen;omega
  case c4=>omega
  intro v1 w1 hown1 hg1 _
  have hb1:=below_grown (Below.refl w.heap.size w) (Nat.le_refl _) hg1 (fun b hb=>by cases hb)
  have HR:Hid (ValsEnd w V (.returned v1) w1):=hid (by
   rcases hown1.2 with ⟨rfl,hn⟩ | ⟨g,c,cur,rfl,hbg,hg,hnc,hcm,rest⟩
   ·exact⟨none,0,by rw[hn],fun h0=>absurd h0 (by omega),hb1⟩
   ·refine⟨some ⟨g,0,none⟩,c,rfl,fun h0=>⟨g,rfl,hbg,⟨cur,_,hg⟩,fun k v hk=>?_⟩,hb1⟩
    have hkl:=(List.getElem?_eq_some_iff.1 hk).1
    obtain⟨c0,c1,c2⟩:=vaCells_at hk
    exact⟨(hown1.cellAt _ (by omega)).trans c0,(hown1.cellAt _ (by omega)).trans c1,(hown1.cellAt _ (by omega)).trans c2⟩)
  clear hown1 hg1 hb1
  go_wp2_with fail
  exact bodyPost_ret (v:=v1) (by simp[results,results23,go_sem]) rfl HR.out
end
end Go.Proofs.YtbbblmedoagncaaGreatDoor
