/- Tree, Vals -/
import Derived.Test.YtbbblmedoagncaaGreatDoorSGI
import Derived.Test.YtbbblmedoagncaaGreatDoorSGR
import Derived.Test.YtbbblmedoagncaaGreatDoorSEY
import Derived.Lib.SmallJoins
import Derived.Carry
namespace Go.Proofs.YtbbblmedoagncaaGreatDoor
section
open _root_.Go.Proofs.Tryz
open Go.ChangeShapes Go.WideShapes Go.ChangeAt Go.RowKit Go.Lib
section
variable {H:Type} {enc:TypeId × Value→H} {w:World}
theorem cells_at {base n:Nat} {a:Addr} {cs:List Value} (h:w.cells? base a n=some cs):cs.length=n∧∀ i u,cs[i]?=some u→w.cell? (a.add i)=some u:=by
 unfold World.cells? at h
 split at h
 ·have hl:=mapM_some_length h
  rw[List.length_range] at hl
  refine⟨hl,fun i u hu=>?_⟩
  have hi:i<n:=by rw[← hl];exact (List.getElem?_eq_some_iff.1 hu).1
  have:=mapM_some_get h i i (by simp[hi])
  rw[this];exact hu
 ·cases h
theorem int_cell4 {fuel:Nat} {v:Value} {y:DataW H × List MemPlace} {base:Nat} {sp:Nat→Bool} {held:Bool} (h:DataW.trod enc prog w base sp held fuel 3 [v]=some y):∃ k:Int,v=.int .i64 k∧In64 k:=by
 obtain⟨k,e,-,wf⟩:=DataW.trod_int underlying3 h
 exact⟨k,by simpa using e,bounds_i64 wf⟩
theorem i64_cell4 {fuel:Nat} {v:Value} {y:DataW H × List MemPlace} {base:Nat} {sp:Nat→Bool} {held:Bool} (h:DataW.trod enc prog w base sp held fuel 2 [v]=some y):∃ k:Int,v=.int .i64 k∧In64 k:=by
 obtain⟨k,e,-,wf⟩:=DataW.trod_int underlying2 h
 exact⟨k,by simpa using e,bounds_i64 wf⟩
theorem str_cell4 {fuel:Nat} {v:Value} {y:DataW H × List MemPlace} {base:Nat} {sp:Nat→Bool} {held:Bool} (h:DataW.trod enc prog w base sp held fuel 9 [v]=some y):∃ s:ByteArray,v=.string s∧y=(.lit (.string s.data.toList),[]):=by
 obtain⟨s,e,hy,-⟩:=DataW.trod_string underlying9 h
 exact⟨s,by simpa using e,hy⟩
theorem weights_all {P:Program} {e:TypeId} {d:DataW H}:∀ {l:List (DataW H)},d ∈ l→∀ k ∈ d.weights P e,k ∈ DataW.weightsAll P e l
 | x :: l,h,k,hk=>by
  rw[DataW.weightsAll,List.mem_append]
  rcases List.mem_cons.1 h with rfl | h
  ·exact .inl hk
  ·exact .inr (weights_all h k hk)
end
end
section
open _root_.Go.Proofs.Tryz
set_option maxRecDepth 100000
open Go.ChangeShapes Go.WideShapes Go.ChangeAt Go.RowKit Go.Lib
section
variable {H:Type} {enc:TypeId × Value→H} {w:World}
theorem three_cs {cs:List Value} (h:cs.length=3):∃ a b c,cs=[a,b,c]:=by
 match cs,h with
 | [a,b,c],_=>exact⟨a,b,c,rfl⟩
theorem val_of {fuel:Nat} {cs:List Value} {x:DataW H × List MemPlace} (h:DataW.trod enc prog w 0 (fun _=>true) true fuel 39 cs=some x) (hwt:∀ k ∈ DataW.weights prog 39 x.1,k≤reachBytes) :
  ∃ a:Va,cs=[.int .i64 a.k,.int .i64 a.n,.string ⟨a.s.toArray⟩]∧In64 a.k∧In64 a.n∧a.s.length≤reachBytes:=by
 obtain⟨xs,n,rfl,hx,hl,hxl,hf⟩:=DataW.trod_struct underlying39 h
 have hl3:cs.length=3:=hl.trans (by kernel_rfl)
 obtain⟨c0,c1,c2,rfl⟩:=three_cs hl3
 have hxl3:xs.length=3:=hxl.trans (by rfl)
 obtain⟨y0,y1,y2,rfl⟩:∃ a b c,xs=[a,b,c]:=by
  match xs,hxl3 with
  | [a,b,c],_=>exact⟨a,b,c,rfl⟩
 have k1:prog.cellsOf 3=1:=by kernel_rfl
 have k2:prog.cellsOf 2=1:=by kernel_rfl
 have k3:prog.cellsOf 9=1:=by kernel_rfl
 have g0:DataW.trod enc prog w 0 (fun _=>true) true n 3 (([c0,c1,c2].drop 0).take (prog.cellsOf 3))=some y0:=hf 0 _ rfl
 have g1:DataW.trod enc prog w 0 (fun _=>true) true n 2 (([c0,c1,c2].drop 1).take (prog.cellsOf 2))=some y1:=hf 1 _ rfl
 have g2:DataW.trod enc prog w 0 (fun _=>true) true n 9 (([c0,c1,c2].drop 2).take (prog.cellsOf 9))=some y2:=hf 2 _ rfl
 rw[k1] at g0
 rw[k2] at g1
 rw[k3] at g2
 obtain⟨K,rfl,hK⟩:=int_cell4 g0
 obtain⟨m,rfl,hm⟩:=i64_cell4 g1
 obtain⟨s,rfl,hs⟩:=str_cell4 g2
 have hwe:∀ (j:Nat) t d,[3,2,9][j]?=some t→[y0.1,y1.1,y2.1][j]?=some d→∀ k ∈ d.weights prog t,k≤reachBytes:=fun j t d ht hd k hk=>by
  refine hwt k ?_
  rw[hx]
  simp only[DataW.weights,underlying39,List.map_cons,List.map_nil]
  exact DataW.weights_mem_each ht hd k hk
 have hsl:s.data.toList.length≤reachBytes:=hwe 2 _ _ rfl rfl _ (by rw[hs];simp[DataW.weights])
 exact⟨⟨K,m,s.data.toList⟩,by simp,hK,hm,hsl⟩
theorem open_vals {r:Reach} {b0:Nat} {v:Value} {d:DataW H} {p:List MemPlace} (hv:Value.okWide prog w r b0 36 v) (h:DataW.Trod enc prog w 0 (fun _=>true) true 36 v d p) (hwt:∀ k ∈ DataW.weights prog 36 d,k≤reachBytes) :
  ∃ (B:Option Addr) (V:List Va) (cap:Nat),v=.slice B V.length cap∧V.length≤cap∧V.length≤4398046511104∧Vs w B V∧(∀ x ∈ V,In64 x.k∧In64 x.n∧x.s.length≤reachBytes)∧(B=none→cap=0):=by
 obtain⟨a0,len0,cap0,rfl⟩:=okWide_slice underlying36 hv
 obtain⟨fuel,hf⟩:=h
 rcases DataW.trod_slice underlying36 hf with ⟨hc3,-⟩ | ⟨a,len,cap,elems,rest,n2,hn2,hc3,hy3,-,hlc,hcm,hlen,hel,-,-⟩
 ·simp[Value.cells] at hc3
  obtain⟨rfl,rfl,rfl⟩:=hc3
  exact⟨none,[],0,rfl,Nat.le_refl _,by simp,fun h0=>absurd h0 (by simp),by simp,fun _=>rfl⟩
 ·simp[Value.cells] at hc3
  obtain⟨rfl,rfl,rfl⟩:=hc3
  have ce:prog.cellsOf 39=3:=by kernel_rfl
  have be:prog.bytesOf 39=32:=by kernel_rfl
  have hwd:∀ k ∈ DataW.weights prog 36 d,k≤reachBytes:=hwt
  simp only[Prod.mk.injEq] at hy3
  obtain⟨hd3,-⟩:=hy3
  have hlb:(elems.length+rest.length) * 32≤reachBytes:=hwd _ (by
   rw[hd3]
   simp only[DataW.weights,underlying36,be,List.length_map]
   exact .head _)
  unfold reachBytes at hlb
  rw[ce] at hel
  have hspot:0<len0→a.spot=none:=fun h0=>by
   have h1:=hel 0 h0
   rw[List.getElem?_eq_getElem (by omega)] at h1
   obtain⟨cs',h2,h3⟩:=Option.bind_eq_some_iff.1 h1
   obtain⟨h4,h5⟩:=cells_at h2
   obtain⟨u,hu⟩:∃ u,cs'[0]?=some u:=⟨_,List.getElem?_eq_getElem (by omega)⟩
   have:=World.cell?_spot (h5 0 u hu)
   simpa[Addr.add] using this
  obtain⟨g,o,spot⟩:=a
  have hone:∀ i:Fin len0,∃ x:Va,(w.cell? ⟨g,o+i.1 * 3,none⟩=some (.int .i64 x.k)∧w.cell? ⟨g,o+i.1 * 3+1,none⟩=some (.int .i64 x.n)∧w.cell? ⟨g,o+i.1 * 3+2,none⟩=some (.string ⟨x.s.toArray⟩))∧In64 x.k∧In64 x.n∧x.s.length≤reachBytes:=fun ⟨i,hi⟩=>by
   obtain rfl:spot=none:=hspot (by omega)
   have h1:=hel i hi
   rw[List.getElem?_eq_getElem (by omega)] at h1
   obtain⟨cs',h2,h3⟩:=Option.bind_eq_some_iff.1 h1
   obtain⟨h4,h5⟩:=cells_at h2
   obtain⟨x,rfl,hK,hn,hs⟩:=val_of h3 (fun k hk=>hwd k (by
    rw[hd3]
    simp only[DataW.weights,underlying36]
    refine List.mem_cons_of_mem _ (List.mem_append.2 (.inl (weights_all ?_ k hk)))
    exact List.mem_map.2 ⟨elems[i]'(by omega),by simp,rfl⟩))
   have ad:∀ j,((⟨g,o,none⟩:Addr).add (i * 3)).add j=⟨g,o+i * 3+j,none⟩:=fun j=>by rw[Go.Deep.add_add,Go.Lib.add_plain];simp
   have c0:=h5 0 _ rfl
   have c1:=h5 1 _ rfl
   have c2:=h5 2 _ rfl
   rw[ad] at c0 c1 c2
   exact⟨x,⟨c0,c1,c2⟩,hK,hn,hs⟩
  obtain⟨f,hf2⟩:=Classical.axiomOfChoice hone
  have hVl:(List.ofFn f).length=len0:=List.length_ofFn
  refine⟨some ⟨g,o,spot⟩,List.ofFn f,cap0,by rw[hVl],by omega,by omega,fun h0=>?_,fun x hx=>?_,fun h=>by cases h⟩
  ·obtain rfl:spot=none:=hspot (by omega)
   refine⟨g,o,rfl,fun k v hk=>?_⟩
   have hkl:k<len0:=by rw[← hVl];exact (List.getElem?_eq_some_iff.1 hk).1
   have hv2:f ⟨k,hkl⟩=v:=by
    obtain⟨h1,h2⟩:=List.getElem?_eq_some_iff.1 hk
    rw[← h2];simp
   rw[← hv2]
   exact (hf2 ⟨k,hkl⟩).1
  ·obtain⟨i,hi⟩:=List.mem_iff_getElem.1 hx
   obtain⟨hi,rfl⟩:=hi
   have:(List.ofFn f)[i]=f ⟨i,by omega⟩:=by simp
   rw[this]
   exact (hf2 ⟨i,by omega⟩).2
end
end
end Go.Proofs.YtbbblmedoagncaaGreatDoor
