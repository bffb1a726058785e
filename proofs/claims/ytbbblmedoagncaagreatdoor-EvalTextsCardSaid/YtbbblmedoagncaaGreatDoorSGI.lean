/- ExM, LexN, LexEq, ParF -/
import Derived.Test.YtbbblmedoagncaaGreatDoorSGF
import Derived.Test.YtbbblmedoagncaaGreatDoorSGG
import Derived.Test.YtbbblmedoagncaaGreatDoorSGH
import Derived.Laws.StructEq
import Derived.Deep.LoopGhost
import Derived.WalkLawsBesides
namespace Go.Proofs.YtbbblmedoagncaaGreatDoor
section
open Go.RowKit
abbrev EV (op n:Int) (s:ByteArray) (kv:Value):Value:=.agg #[.int .i64 op,.int .i64 n,.string s,kv]
def In64 (n:Int):Prop:=-9223372036854775808≤n∧n≤9223372036854775807
def Rng (op n:Int) (s:List UInt8):Prop:=In64 op∧In64 n∧s.length<9223372036854775807
def NB (w:World) (g:Nat):Prop:=∃ cs t,w.heap[g]?=some (.cells cs t (0,0))
theorem NB.lt {w:World} {g:Nat} (h:NB w g):g<w.heap.size:=by
 obtain⟨_,_,h⟩:=h
 exact (Array.getElem?_eq_some_iff.1 h).1
theorem NB.same {w w':World} {g:Nat} (h:NB w g) (e:w'.heap[g]?=w.heap[g]?):NB w' g:=by
 obtain⟨cs,t,h⟩:=h
 exact⟨cs,t,e.trans h⟩
theorem NB.set {w:World} {g:Nat} (h:NB w g) (b i:Nat) (u:Value):NB (w.setCell ⟨b,i,none⟩ u) g:=by
 by_cases hb:g=b
 ·subst hb
  obtain⟨cs,t,h⟩:=h
  refine⟨cs.setIfInBounds i u,t,?_⟩
  unfold World.setCell
  rw[Array.getElem?_modify,if_pos rfl,h]
  rfl
 ·exact h.same (Below.heap_setCell _ _ _ _ (by dsimp only;omega))
theorem NB.drew {w:World} {g:Nat} (h:NB w g):NB w.drew g:=by
 obtain⟨cs,t,h⟩:=h
 exact⟨cs,t,h⟩
theorem NB.new (w:World) (cs:Array Value) (t:TypeId):NB (w.alloc (.cells cs t)) w.heap.size:=⟨cs,t,alloc_at w _⟩
def NW (w:World) (g o:Nat):Prop:=(∃ cs t fr,w.heap[g]?=some (.cells cs t fr))∧w.frozen? ⟨g,o,none⟩=false
theorem NB.weak {w:World} {g:Nat} (h:NB w g) (o:Nat):NW w g o:=by
 obtain⟨cs,t,h⟩:=h
 refine⟨⟨cs,t,_,h⟩,?_⟩
 simp[World.frozen?,h]
theorem NW.lt {w:World} {g o:Nat} (h:NW w g o):g<w.heap.size:=by
 obtain⟨⟨_,_,_,h⟩,-⟩:=h
 exact (Array.getElem?_eq_some_iff.1 h).1
theorem NW.same {w w':World} {g o:Nat} (h:NW w g o) (e:w'.heap[g]?=w.heap[g]?):NW w' g o:=by
 obtain⟨⟨cs,t,fr,h⟩,hf⟩:=h
 exact⟨⟨cs,t,fr,e.trans h⟩,(World.frozen?_of_block (w:=w) (a:=⟨g,o,none⟩) e).trans hf⟩
def KB (w:World) (S:Nat→Prop) (g o:Nat):Prop:=NW w g o∧(¬ S 0→NB w g)
theorem KB.same {w w':World} {S:Nat→Prop} {g o:Nat} (h:KB w S g o) (e:w'.heap[g]?=w.heap[g]?):KB w' S g o:=⟨h.1.same e,fun hs=>(h.2 hs).same e⟩
theorem KB.from {w:World} {S R:Nat→Prop} {g o:Nat} (h:KB w S g o) (hb:∀ b,S b→b<w.heap.size→R b):KB w R g o:=⟨h.1,fun hr=>h.2 (fun hs=>hr (hb 0 hs (Nat.lt_of_le_of_lt (Nat.zero_le _) h.1.lt)))⟩
mutual
/-- This value reads as this expression; all its rows lie in blocks of S. -/
def ExIn (w:World) (S:Nat→Prop):Ex→Value→Prop
 | .mk op n s ks,v=>Rng op n s∧∃ ao cap,v=EV op n ⟨s.toArray⟩ (.slice ao ks.length cap)∧ks.length≤cap∧ks.length≤4611686018427387904∧(0<ks.length→∃ g o,ao=some ⟨g,o,none⟩∧S g∧g<w.heap.size∧RowIn w S g o ks)
/-- These expressions lie in a row. -/
def RowIn (w:World) (S:Nat→Prop) (g:Nat):Nat→List Ex→Prop
 | _,[]=>True
 | o,e :: es=>KB w S g o∧(∃ v0 v1 v2 v3,w.cell? ⟨g,o,none⟩=some v0∧w.cell? ⟨g,o+1,none⟩=some v1∧w.cell? ⟨g,o+2,none⟩=some v2∧w.cell? ⟨g,o+3,none⟩=some v3∧ExIn w S e (.agg #[v0,v1,v2,v3]))∧RowIn w S g (o+4) es
end
structure Stays (S:Nat→Prop) (w w':World):Prop where
 size:w.heap.size≤w'.heap.size
 block:∀ g,S g→g<w.heap.size→w'.heap[g]?=w.heap[g]?
theorem Stays.cell {S:Nat→Prop} {w w':World} (h:Stays S w w') (g i:Nat) (hg:S g) (hl:g<w.heap.size):w'.cell? ⟨g,i,none⟩=w.cell? ⟨g,i,none⟩:=World.cell?_of_block (w:=w) (h.block g hg hl)
theorem Stays.of {S:Nat→Prop} {w w':World} (h:Below w.heap.size w w'):Stays S w w':=⟨h.size,fun g _ hg=>h.block g hg⟩
theorem Stays.away {S:Nat→Prop} {g:Nat} {w w':World} (h:Away g w w') (hS:¬ S g):Stays S w w':=⟨h.size,fun b hb hg=>h.block b hg (fun e=>hS (by rw[← e];exact hb))⟩
theorem Stays.set {S:Nat→Prop} {g:Nat} (w:World) (i:Nat) (u:Value) (hS:¬ S g):Stays S w (w.setCell ⟨g,i,none⟩ u):=Stays.away ((Away.refl g w).set i u) hS
theorem Stays.trans {S:Nat→Prop} {a b c:World} (h:Stays S a b) (k:Stays S b c):Stays S a c:=⟨Nat.le_trans h.size k.size,fun g hB hg=>(k.block g hB (Nat.lt_of_lt_of_le hg h.size)).trans (h.block g hB hg)⟩
theorem Stays.set4 {S:Nat→Prop} {g:Nat} (w:World) (x0 x1 x2 x3:Value) (hS:¬ S g):Stays S w ((((w.setCell ⟨g,0,none⟩ x0).setCell ⟨g,1,none⟩ x1).setCell ⟨g,2,none⟩ x2).setCell ⟨g,3,none⟩ x3) :=
 (((Stays.set w 0 x0 hS).trans (.set _ 1 x1 hS)).trans (.set _ 2 x2 hS)).trans (.set _ 3 x3 hS)
mutual
theorem ExIn.stays {w w':World} {S:Nat→Prop} (h:Stays S w w'):∀ (e:Ex) (v:Value),ExIn w S e v→ExIn w' S e v
 | .mk op n s ks,v,he=>by
  rw[ExIn] at he ⊢
  obtain⟨hr,ao,cap,h1,h2,h3,h4⟩:=he
  refine⟨hr,ao,cap,h1,h2,h3,fun h0=>?_⟩
  obtain⟨g,o,g1,g2,g3,g4⟩:=h4 h0
  exact⟨g,o,g1,g2,Nat.lt_of_lt_of_le g3 h.size,RowIn.stays h ks g o g2 g3 g4⟩
theorem RowIn.stays {w w':World} {S:Nat→Prop} (h:Stays S w w'):∀ (es:List Ex) (g o:Nat),S g→g<w.heap.size→RowIn w S g o es→RowIn w' S g o es
 | [],_,_,_,_,_=>by rw[RowIn];trivial
 | e :: es,g,o,hB,hg,hr=>by
  rw[RowIn] at hr ⊢
  obtain⟨hnb,⟨v0,v1,v2,v3,c0,c1,c2,c3,he⟩,hr⟩:=hr
  exact⟨hnb.same (h.block g hB hg),⟨v0,v1,v2,v3,(h.cell g _ hB hg).trans c0,(h.cell g _ hB hg).trans c1,(h.cell g _ hB hg).trans c2,(h.cell g _ hB hg).trans c3,ExIn.stays h e _ he⟩,RowIn.stays h es g (o+4) hB hg hr⟩
end
mutual
/-- The blocks that it lies in: of S, and of all that there are. -/
theorem ExIn.from {w:World} {S R:Nat→Prop} (h:∀ b,S b→b<w.heap.size→R b):∀ (e:Ex) (v:Value),ExIn w S e v→ExIn w R e v
 | .mk op n s ks,v,he=>by
  rw[ExIn] at he ⊢
  obtain⟨hr,ao,cap,h1,h2,h3,h4⟩:=he
  refine⟨hr,ao,cap,h1,h2,h3,fun h0=>?_⟩
  obtain⟨g,o,g1,g2,g3,g4⟩:=h4 h0
  exact⟨g,o,g1,h g g2 g3,g3,RowIn.from h ks g o g4⟩
theorem RowIn.from {w:World} {S R:Nat→Prop} (h:∀ b,S b→b<w.heap.size→R b):∀ (es:List Ex) (g o:Nat),RowIn w S g o es→RowIn w R g o es
 | [],_,_,_=>by rw[RowIn];trivial
 | e :: es,g,o,hr=>by
  rw[RowIn] at hr ⊢
  obtain⟨hnb,⟨v0,v1,v2,v3,c0,c1,c2,c3,he⟩,hr⟩:=hr
  exact⟨hnb.from h,⟨v0,v1,v2,v3,c0,c1,c2,c3,ExIn.from h e _ he⟩,RowIn.from h es g (o+4) hr⟩
end
theorem ExIn.later {w w':World} {S:Nat→Prop} {e:Ex} {v:Value} (h:ExIn w S e v) (hb:Below w.heap.size w w'):ExIn w' S e v:=ExIn.stays (.of hb) e v h
theorem ExIn.keep {w w':World} {S:Nat→Prop} {e:Ex} {v:Value} (h:ExIn w S e v) (hb:Stays S w w'):ExIn w' S e v:=ExIn.stays hb e v h
theorem ExIn.wide {w:World} {S R:Nat→Prop} {e:Ex} {v:Value} (h:ExIn w S e v) (hb:∀ b,S b→b<w.heap.size→R b):ExIn w R e v:=ExIn.from hb e v h
abbrev Up (B:Nat):Nat→Prop:=fun b=>B≤b
theorem RowIn.at {w:World} {S:Nat→Prop} {g:Nat}:∀ {es:List Ex} {o:Nat} (_:RowIn w S g o es) {i:Nat} {e:Ex} (_:es[i]?=some e),
  ∃ v0 v1 v2 v3,w.cell? ⟨g,o+i * 4,none⟩=some v0∧w.cell? ⟨g,o+i * 4+1,none⟩=some v1∧w.cell? ⟨g,o+i * 4+2,none⟩=some v2∧w.cell? ⟨g,o+i * 4+3,none⟩=some v3∧ExIn w S e (.agg #[v0,v1,v2,v3])
 | [],_,_,_,_,h=>by simp at h
 | x :: es,o,hr,0,e,h=>by
  obtain rfl:x=e:=by simpa using h
  rw[RowIn] at hr
  obtain⟨-,⟨v0,v1,v2,v3,c0,c1,c2,c3,he⟩,-⟩:=hr
  rw[Nat.zero_mul,Nat.add_zero]
  exact⟨v0,v1,v2,v3,c0,c1,c2,c3,he⟩
 | x :: es,o,hr,i+1,e,h=>by
  rw[RowIn] at hr
  obtain⟨v0,v1,v2,v3,c0,c1,c2,c3,he⟩:=RowIn.at hr.2.2 (i:=i) (e:=e) (by simpa using h)
  rw[show o+4+i * 4=o+(i+1) * 4 by omega] at c0 c1 c2 c3
  exact⟨v0,v1,v2,v3,c0,c1,c2,c3,he⟩
theorem ExIn.get {w:World} {S:Nat→Prop} {e:Ex} {v:Value} (h:ExIn w S e v):∃ ao cap,v=EV e.op e.num ⟨e.str.toArray⟩ (.slice ao e.kids.length cap)∧e.kids.length≤cap∧e.kids.length≤4611686018427387904∧Rng e.op e.num e.str∧(0<e.kids.length→∃ g o,ao=some ⟨g,o,none⟩∧S g∧g<w.heap.size∧RowIn w S g o e.kids):=by
 cases e with
 | mk op n s ks =>
  rw[ExIn] at h
  obtain⟨hr,ao,cap,h1,h2,h3,h4⟩:=h
  exact⟨ao,cap,h1,h2,h3,hr,h4⟩
theorem ExIn.mk {w:World} {S:Nat→Prop} {op n:Int} {s:List UInt8} {ks:List Ex} {ao:Option Addr} {cap:Nat} (hr:Rng op n s) (hc:ks.length≤cap) (hl:ks.length≤4611686018427387904) (hk:0<ks.length→∃ g o,ao=some ⟨g,o,none⟩∧S g∧g<w.heap.size∧RowIn w S g o ks) :
  ExIn w S (.mk op n s ks) (EV op n ⟨s.toArray⟩ (.slice ao ks.length cap)):=by
 rw[ExIn];exact⟨hr,ao,cap,rfl,hc,hl,hk⟩
theorem ExIn.leaf {w:World} {S:Nat→Prop} {op n:Int} {s:List UInt8} (hr:Rng op n s):ExIn w S (.mk op n s []) (EV op n ⟨s.toArray⟩ (.slice none 0 0)) :=
 ExIn.mk (ks:=[]) hr (Nat.le_refl _) (by decide) (fun h=>absurd h (by simp))
theorem RowIn.one {w:World} {S:Nat→Prop} {g o:Nat} {e:Ex} {v0 v1 v2 v3:Value} (hb:NB w g) (c0:w.cell? ⟨g,o,none⟩=some v0) (c1:w.cell? ⟨g,o+1,none⟩=some v1) (c2:w.cell? ⟨g,o+2,none⟩=some v2) (c3:w.cell? ⟨g,o+3,none⟩=some v3) (he:ExIn w S e (.agg #[v0,v1,v2,v3])) {es:List Ex} (hr:RowIn w S g (o+4) es):RowIn w S g o (e :: es):=by
 rw[RowIn];exact⟨⟨hb.weak o,fun _=>hb⟩,⟨v0,v1,v2,v3,c0,c1,c2,c3,he⟩,hr⟩
theorem RowIn.none {w:World} {S:Nat→Prop} {g o:Nat}:RowIn w S g o []:=by rw[RowIn];trivial
end
section
open Go.RowKit
theorem lexR_few:∀ (n:Nat) (R:List Pc) (p:Nat) (ts:List Tk),R.length≤n→lexR R p=.ok ts→ts.length≤R.length
 | n,[],p,ts,_,h=>by
  rw[lexR_nil] at h
  injection h with h;subst h;simp
 | 0,x :: R,p,ts,hl,_=>by simp at hl
 | n+1,x :: R,p,ts,hl,h=>by
  simp only[List.length_cons] at hl ⊢
  by_cases hc:classZ (x.1:Int)=3
  ·rw[lexR_blank _ _ _ hc] at h
   have:=lexR_few n R _ ts (by omega) h
   omega
  ·cases ht:tokF x R with
   | none=>rw[lexR_none _ _ _ hc ht] at h;cases h
   | some f =>
    rw[lexR_some _ _ _ hc f ht] at h
    cases hr:lexR (R.drop f.j) (p+(flat (x :: R.take f.j)).length) with
    | error q=>rw[hr] at h;cases h
    | ok us =>
     rw[hr] at h
     have e:[f.tk p]++us=ts:=by injection h
     subst e
     have:=lexR_few n (R.drop f.j) _ us (by rw[List.length_drop];omega) hr
     rw[List.length_drop] at this
     simp only[List.length_append,List.length_singleton];omega
theorem lex_few {s:ByteArray} {ts:List Tk} (h:lexL s.data.toList=.ok ts):ts.length≤s.size:=by
 have h1:=lexR_few _ _ 0 ts (Nat.le_refl _) h
 have h2:=flat_len (fit_mem s.data.toList)
 rw[flat_pcs,size_list] at h2
 omega
end
section
open Go.RowKit
theorem beqB (s t:ByteArray):(s == t)=true↔s=t:=by
 rw[beq_toListBytes,beq_iff_eq,ByteArray.toList_eq,ByteArray.toList_eq]
 constructor
 ·intro h;apply ByteArray.ext;exact Array.ext' h
 ·rintro rfl;rfl
theorem beqB_refl (s:ByteArray):(s == s)=true:=(beqB s s).2 rfl
end
section
open Lib (hid)
open _root_.Go.Proofs.Tryz
set_option maxHeartbeats 1000000
set_option maxRecDepth 100000
open Go.RowKit
def formsT : List (Int × List UInt8 × Int × Int) :=
  [(17, [124], 2, 1), (16, [38], 2, 2), (12, [61], 2, 3), (13, [33, 61], 2, 3), (14, [60], 2, 3), (15, [60, 61], 2, 3), (7, [43], 2, 4), (8, [45], 2, 4), (9, [42], 2, 5), (10, [47], 2, 5), (11, [37], 2, 5), (5, [45], 1, 6), (6, [33], 1, 6),
   (18, wIf, 3, 0), (19, wLen, 1, 0), (20, wCat, 2, 0), (21, wCut, 2, 0), (22, wHas, 1, 0), (23, wUp, 1, 0)]
abbrev formV (f:Int × List UInt8 × Int × Int):Value:=.agg #[.int .i64 f.1,.string ⟨f.2.1.toArray⟩,.int .i64 f.2.2.1,.int .i64 f.2.2.2]
def formCells:Array Value:=(formsT.flatMap fun f=>[Value.int .i64 f.1,.string ⟨f.2.1.toArray⟩,.int .i64 f.2.2.1,.int .i64 f.2.2.2]).toArray
def Forms (w:World):Prop:=∃ ty fr,w.heap[0]?=some (.cells formCells ty fr)
theorem Forms.later {w w':World} (h:Forms w) (hb:Below w.heap.size w w'):Forms w':=by
 obtain⟨ty,fr,h⟩:=h
 exact⟨ty,fr,by rw[hb.block _ (Array.getElem?_eq_some_iff.1 h).1];exact h⟩
theorem Forms.away {w w':World} {g:Nat} (h:Forms w) (hb:Away g w w') (hg:g≠0):Forms w':=by
 obtain⟨ty,fr,h⟩:=h
 exact⟨ty,fr,by rw[hb.block _ (Array.getElem?_eq_some_iff.1 h).1 (Ne.symm hg)];exact h⟩
theorem forms_idx (k:Nat) (hk:k<19):∃ o s n l,formsT[k]?=some (o,s,n,l)∧∀ w,(Instr.index 209 (.agg formCells) (.int .i64 (k:Int))).run prog w=.ok (formV (o,s,n,l)) w:=by
 have hc:k=0∨k=1∨k=2∨k=3∨k=4∨k=5∨k=6∨k=7∨k=8∨k=9∨k=10∨k=11∨k=12∨k=13∨k=14∨k=15∨k=16∨k=17∨k=18:=by omega
 rcases hc with rfl | rfl | rfl | rfl | rfl | rfl | rfl | rfl | rfl | rfl | rfl | rfl | rfl | rfl | rfl | rfl | rfl | rfl | rfl
 all_goals exact⟨_,_,_,_,rfl,fun w=>by kernel_rfl⟩
def formOfL (op:Int):Int × List UInt8 × Int × Int:=(formsT.find? fun f=>f.1 == op).getD (0,[],0,0)
def opOfL (l:Int) (s:List UInt8):Int:=((formsT.find? fun f=>f.2.2.2 == l && f.2.1 == s).map (·.1)).getD 0
theorem find_none_take {α:Type} {p:α→Bool}:∀ {l:List α} {k:Nat} {x:α},(l.take k).find? p=none→l[k]?=some x→p x=true→l.find? p=some x
 | y :: l,0,x,_,h,hp=>by
  obtain rfl:y=x:=by simpa using h
  rw[List.find?_cons_of_pos hp]
 | y :: l,k+1,x,h0,h,hp=>by
  rw[List.take_succ_cons,List.find?_cons] at h0
  cases hy:p y with
  | true=>rw[hy] at h0;cases h0
  | false =>
   rw[hy] at h0
   rw[List.find?_cons_of_neg (by rw[hy];decide)]
   exact find_none_take h0 (by simpa using h) hp
theorem find_take_succ {α:Type} {p:α→Bool} {l:List α} {k:Nat} {x:α} (h0:(l.take k).find? p=none) (h:l[k]?=some x) (hp:p x=false):(l.take (k+1)).find? p=none:=by
 rw[List.take_add_one,h,List.find?_append,h0]
 show (Option.none).or ([x].find? p)=none
 rw[List.find?_cons_of_neg (by rw[hp];decide)]
 rfl
theorem txt_ne {s c:ByteArray} (h:s≠c):(s.toList == c.toList)=false:=by
 rw[← beq_toListBytes]
 cases hb:(s == c) with
 | false=>rfl
 | true=>exact absurd ((beqB s c).1 hb) h
def FRel (w:World) (wr:World):Prop:=Four wr w.heap.size (.int .i64 0) (.string ⟨#[]⟩) (.int .i64 0) (.int .i64 0)∧Below w.heap.size w wr
theorem FRel.alloc {w wr:World} (h:FRel w wr) (o:Obj):FRel w (wr.alloc o):=⟨h.1.later (below_alloc _ _),h.2.alloc h.2.size _⟩
theorem formof_any (op:Int) (w:World) (hF:Forms w) :
  Calls prog 78 #[.int .i64 op] w fun e w'=>e=.returned (formV (formOfL op))∧Below w.heap.size w w':=by
 obtain⟨ty,fr,hg⟩:=hF
 have hgl:=(Array.getElem?_eq_some_iff.1 hg).1
 have hF1:=four_new w (.int .i64 0) (.string ⟨#[]⟩) (.int .i64 0) (.int .i64 0) 131
 have hb1:=below_alloc w (.cells #[.int .i64 0,.string ⟨#[]⟩,.int .i64 0,.int .i64 0] 131)
 have hg1:(w.alloc (.cells #[.int .i64 0,.string ⟨#[]⟩,.int .i64 0,.int .i64 0] 131)).heap[0]?=some (.cells formCells ty fr):=by rw[hb1.block _ hgl];exact hg
 have hR:FRel w (w.alloc (.cells #[.int .i64 0,.string ⟨#[]⟩,.int .i64 0,.int .i64 0] 131)):=⟨hF1,hb1⟩
 have HR:=hid hR
 clear hF1 hb1 hR
 go_enter func78,ntmps78
 go_wp2_with (refine wpList_load_row rfl 209 _ rfl 0 rfl ty _ fr _ hg1 underlying209 rfl (by kernel_rfl) ?_)
 go_loopg [6] (19) (fun n s6 wr=>∃ k:Nat,k+n=19∧s6=.int .i64 (k:Int)∧Hid (FRel w wr)∧Hid ((formsT.take k).find? (fun f=>f.1 == op)=none))
 case atStart=>exact⟨0,rfl,rfl,HR,hid rfl⟩
 case round =>
  obtain⟨k,hkn,rfl,HW,HN⟩:=hrel
  clear HR hg1
  by_cases hk:k<19
  ·have hkz:(k:Int)<19:=by omega
   obtain⟨o,s,n,l,hx,hidx⟩:=forms_idx k hk
   have HKN:=hid hkn
   have HX:=hid hx
   have hF2:=four_new wr (.int .i64 o) (.string ⟨s.toArray⟩) (.int .i64 n) (.int .i64 l) 131
   have hW2:=HW.out.alloc (.cells #[.int .i64 o,.string ⟨s.toArray⟩,.int .i64 n,.int .i64 l] 131)
   obtain⟨⟨-,z0,z1,z2,z3,f0,f1,f2,f3⟩,hb2⟩:=hW2
   have HB2:=hid hb2
   clear hF2 hb2 hkn hx
   generalize hS:(⟨s.toArray⟩:ByteArray)=S at *
   by_cases ho:o=op
   ·subst ho
    go_wp2_with fail
    exact bodyPost_ret (v:=formV (o,s,n,l)) (by simp[formV,hS,results,results78,go_sem,z0,z1,z2,z3]) rfl ⟨by unfold formOfL;rw[find_none_take HN.out HX.out (by simp)];rfl,below_four HB2.out (Nat.le_refl _) _ _ _ _⟩
   ·have hoz:(o == op)=false:=beq_eq_false_iff_ne.2 ho
    go_wp2_with fail
    go_roundg (18 - k)
    case measure=>have:=HKN.out;omega
    case rel=>exact⟨k+1,by have:=HKN.out;omega,by go_num,hid ((HW.out).alloc _),hid (find_take_succ HN.out HX.out hoz)⟩
  ·have hkz:¬ (k:Int)<19:=by omega
   obtain⟨⟨-,z0,z1,z2,z3,f0,f1,f2,f3⟩,hb2⟩:=HW.out
   have HB2:=hid hb2
   clear hb2
   go_wp2_with fail
   have hn:formsT.find? (fun f=>f.1 == op)=none:=by
    have:=HN.out
    rwa [List.take_of_length_le (by show formsT.length≤k;have:formsT.length=19:=rfl;omega)] at this
   exact bodyPost_ret (v:=formV (0,[],0,0)) (by simp[results,results78,go_sem,z0,z1,z2,z3]) rfl ⟨by unfold formOfL;rw[hn];rfl,below_four HB2.out (Nat.le_refl _) _ _ _ _⟩
theorem opof_any (l:Int) (s:ByteArray) (w:World) (hF:Forms w) :
  Calls prog 181 #[.int .i64 l,.string s] w fun e w'=>e=.returned (.int .i64 (opOfL l s.data.toList))∧Below w.heap.size w w':=by
 obtain⟨ty,fr,hg1⟩:=hF
 have hR:=hid (Below.refl w.heap.size w)
 go_enter func181,ntmps181
 go_wp2_with (refine wpList_load_row rfl 209 _ rfl 0 rfl ty _ fr _ hg1 underlying209 rfl (by kernel_rfl) ?_)
 go_loopg [8] (19) (fun n s8 wr=>∃ k:Nat,k+n=19∧s8=.int .i64 (k:Int)∧Hid (Below w.heap.size w wr)∧Hid ((formsT.take k).find? (fun f=>f.2.2.2 == l && f.2.1 == s.data.toList)=none))
 case atStart=>exact⟨0,rfl,rfl,hR,hid rfl⟩
 case round =>
  obtain⟨k,hkn,rfl,HW,HN⟩:=hrel
  clear hR hg1
  by_cases hk:k<19
  ·have hkz:(k:Int)<19:=by omega
   obtain⟨o,sg,n,ln,hx,hidx⟩:=forms_idx k hk
   have HKN:=hid hkn
   have HX:=hid hx
   clear hkn hx
   have hsd:(⟨sg.toArray⟩:ByteArray).data.toList=sg:=rfl
   generalize hS:(⟨sg.toArray⟩:ByteArray)=S at *
   by_cases hl:ln=l
   ·subst hl
    by_cases hs:S=s
    ·subst hs
     have hss:(S.toList == S.toList)=true:=by simp
     go_wp2_with fail
     go_ret
     exact⟨by unfold opOfL;rw[find_none_take HN.out HX.out (by simp[hsd])];rfl,(HW.out).alloc (HW.out).size _⟩
    ·have hss:(S.toList == s.toList)=false:=txt_ne hs
     have hsl:¬ sg=s.data.toList:=fun e=>hs (by rw[← hS,e])
     go_wp2_with fail
     go_roundg (18 - k)
     case measure=>have:=HKN.out;omega
     case rel=>exact⟨k+1,by have:=HKN.out;omega,by go_num,hid ((HW.out).alloc (HW.out).size _),hid (find_take_succ HN.out HX.out (by simp[hsl]))⟩
   ·have hlz:(ln == l)=false:=beq_eq_false_iff_ne.2 hl
    go_wp2_with fail
    go_roundg (18 - k)
    case measure=>have:=HKN.out;omega
    case rel=>exact⟨k+1,by have:=HKN.out;omega,by go_num,hid ((HW.out).alloc (HW.out).size _),hid (find_take_succ HN.out HX.out (by simp[hl]))⟩
  ·have hkz:¬ (k:Int)<19:=by omega
   go_wp2_with fail
   have hn:formsT.find? (fun f=>f.2.2.2 == l && f.2.1 == s.data.toList)=none:=by
    have:=HN.out
    rwa [List.take_of_length_le (by show formsT.length≤k;have:formsT.length=19:=rfl;omega)] at this
   go_ret
   exact⟨by unfold opOfL;rw[hn];rfl,HW.out⟩
end
end Go.Proofs.YtbbblmedoagncaaGreatDoor
