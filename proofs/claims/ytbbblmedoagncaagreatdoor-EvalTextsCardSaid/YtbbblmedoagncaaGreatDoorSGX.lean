/- OwnS, KitT -/
import Derived.Test.YtbbblmedoagncaaGreatDoorSGI
import Derived.Test.YtbbblmedoagncaaGreatDoorSGG
import Derived.Test.YtbbblmedoagncaaGreatDoorSGB
import Derived.Test.YtbbblmedoagncaaGreatDoorSMLexRL
import Derived.Test.YtbbblmedoagncaaGreatDoorSGJ
namespace Go.Proofs.YtbbblmedoagncaaGreatDoor
section
open Go.RowKit
theorem below_grown {B:Nat} {a w w':World} {row:Option Nat} (h:Below B a w) (hB:B≤a.heap.size) (hg:w.grownBy w' row) (hr:∀ b,row=some b→B≤b):Below B a w' :=
 ⟨hg.os.trans h.os,hg.tape.trans h.tape,hg.output.trans h.output,Nat.le_trans h.size hg.size,fun i hi=>(hg.block i (Nat.lt_of_lt_of_le hi (Nat.le_trans hB h.size)) (fun e=>by have:=hr i e.symm;omega)).trans (h.block i hi)⟩
end
section
open Lib (hid)
open _root_.Go.Proofs.Tryz
set_option maxHeartbeats 400000
open Go.RowKit
section
variable {α:Type} {f:α→Value} {d:α} {w:World}
theorem els_own {B:Nat} {e:TypeId} {v:Value} {l:List α} (h:w.ownsRow B e 1 v l.length (l.map f)):∃ A cap,v=.slice A l.length cap∧l.length≤cap∧Els f d w A l∧(A=none→cap=0):=by
 have h':=h
 rcases h.2 with ⟨rfl,hn⟩ | ⟨g,cap,cur,rfl,hbg,hg,hnc,hcm,rest⟩
 ·exact⟨none,0,by rw[hn],by omega,fun hp=>absurd hp (by omega),fun _=>rfl⟩
 ·refine⟨_,cap,rfl,hnc,fun _=>⟨g,0,rfl,fun j hj=>?_⟩,fun h=>by cases h⟩
  rw[Nat.zero_add,h'.cellAt j (by omega)]
  rw[List.getElem?_map,List.getElem?_eq_getElem hj,List.getD_eq_getElem?_getD,List.getElem?_eq_getElem hj]
  rfl
theorem els_cells {ad:Addr} {l:List α} (h:Els f d w (some ad) l):∀ j u,(l.map f)[j]?=some u→w.cell? (ad.add j)=some u:=by
 intro j u hu
 have hj:j<l.length:=by
  have:=(List.getElem?_eq_some_iff.1 hu).1
  rwa [List.length_map] at this
 obtain⟨b,off,e,hc⟩:=h (by omega)
 injection e with e
 subst e
 have e2:(⟨b,off,none⟩:Addr).add j=⟨b,off+j,none⟩:=by unfold Addr.add;split<;>simp_all
 rw[e2,hc j hj,← hu,List.getElem?_map,List.getElem?_eq_getElem hj,List.getD_eq_getElem?_getD,List.getElem?_eq_getElem hj]
 rfl
end
def OwnEls {α:Type} (f:α→Value) (d:α) (t:TypeId) (w:World) (l:List α) (e:Ending) (w':World):Prop :=
 ∃ A cap,e=.returned (.slice A l.length cap)∧l.length≤cap∧Els f d w' A l∧(A=none→cap=0)∧w'.ownsRow w.heap.size t 1 (.slice A l.length cap) l.length (l.map f)∧Below w.heap.size w w'
theorem own_els {α:Type} {f:α→Value} {d:α} {t:TypeId} {w w1:World} {v:Value} {l:List α} (h:w1.ownsRow w.heap.size t 1 v l.length (l.map f)) (hb:Below w.heap.size w w1):OwnEls f d t w l (.returned v) w1:=by
 obtain⟨A,cap,rfl,h1,h2,h3⟩:=els_own (d:=d) h
 exact⟨A,cap,rfl,h1,h2,h3,h,hb⟩
theorem texts_any (A:Option Addr) (L:List ByteArray) (cap:Nat) (w:World) (hl:L.length≤1000) (hB:Ts w A L) (hcap:A=none→cap=0) :
  Calls prog 22 #[.slice A L.length cap] w (OwnEls (fun s=>.string s) ByteArray.empty 9 w L):=by
 obtain⟨i0,hi,hz0,hz1,hz2⟩:=info_parts (show (prog.info? 9).map (fun i=>(i.zero,i.size,i.bytes))=some (some (.string ⟨#[]⟩),1,16) by kernel_rfl)
 cases A with
 | none =>
  obtain rfl:=hcap rfl
  have h0:L=[]:=by
   cases L with
   | nil=>rfl
   | cons c L=>obtain⟨b,off,e,_⟩:=hB (by simp);cases e
  subst h0
  go_enter func22,ntmps22
  go_wp2_with (at_builtin;refine wpList_append_own_none rfl _ _ _ rfl w.heap.size 9 i0 1 underlying30 hi (.slice none 0 0) 0 [] rfl (World.ownsRow_nil _ _ _ _) rfl ?_)
  go_ret
  exact own_els (l:=([]:List ByteArray)) (World.ownsRow_nil _ _ _ _) (Below.refl _ _)
 | some ad =>
  have hc:=els_cells hB
  have ho:∀ u ∈ L.map (fun s=>Value.string s),u.oneCell'=true:=fun u hu=>by obtain⟨x,_,rfl⟩:=List.mem_map.1 hu;rfl
  have HC:=hid hc
  have HO:=hid ho
  clear hc ho hB hcap
  go_enter func22,ntmps22
  go_wp2_with (at_builtin;refine wpList_append_own _ rfl _ _ _ rfl w.heap.size 9 i0 _ 1 16 underlying30 hi hz0 hz1 hz2 rfl (by omega) (.slice none 0 0) 0 [] rfl (World.ownsRow_nil _ _ _ _) ad L.length cap (L.map fun s=>Value.string s) rfl (by rw[List.length_map];omega) HC.out HO.out (by unfold maxLen;omega) (by omega) (Nat.le_refl _) ?_;intro v1 w1 hown1 hg1 _)
  have HR:=hid (own_els (d:=ByteArray.empty) (by rw[Nat.zero_add,List.nil_append] at hown1;exact hown1) (below_grown (Below.refl _ _) (Nat.le_refl _) hg1 (fun b hb=>by cases hb)))
  clear hown1 hg1
  go_ret
  exact HR.out
end
end Go.Proofs.YtbbblmedoagncaaGreatDoor
