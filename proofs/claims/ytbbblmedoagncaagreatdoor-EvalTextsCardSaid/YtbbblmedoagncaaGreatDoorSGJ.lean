/- ParP, ParG, Grow, ParGT -/
import Derived.Test.YtbbblmedoagncaaGreatDoorSGI
import Derived.Test.YtbbblmedoagncaaGreatDoorSGD
import Derived.Deep.RegionWith
import Derived.Lib.AppendIntMem
import Derived.Shelf.Strconv.Itoa4
import Derived.Shelf.Strings.Count
import Derived.Shelf.Strings.Search3
import Derived.Shelf.Strings.Builder2
import Derived.Maps.AppendAt
namespace Go.Proofs.YtbbblmedoagncaaGreatDoor
section
open Lib (hid)
open _root_.Go.Proofs.Tryz
set_option maxHeartbeats 1000000
set_option maxRecDepth 100000
open Go.RowKit
structure EnvP (w:World):Prop where
 env:Env7 w
 pow:Lib.TabIs prog w "internal/strconv.uint64pow10" .u64 Lib.pow10Tab
 forms:Forms w
theorem EnvP.later {w w':World} (h:EnvP w) (hb:Below w.heap.size w w'):EnvP w':=⟨h.env.later hb,Lib.tabBelow_of_tabIs h.pow w' hb,h.forms.later hb⟩
structure GoodT (T:List Tk):Prop where
 last:∀ i t,T[i]?=some t→t.k≠0→i+1<T.length
 kind:∀ t ∈ T,t.k≤4
 num:∀ t ∈ T,t.n<9223372036854775808
 size:∀ t ∈ T,t.s.length≤1000
 name:∀ t ∈ T,t.k=3→nameB t.s=!isWordL t.s
 sign:∀ t ∈ T,t.k=4→t.s ∈ ([[43],[45],[42],[47],[37],[40],[41],[44],[61],[60],[62],[38],[124],[33],[60,61],[62,61],[33,61]]:List (List UInt8))
 at_:∀ t ∈ T,t.a≤1000
def TRow (w:World) (h:Nat) (T:List Tk):Prop:=h<w.heap.size∧∀ i t,T[i]?=some t →
 w.cell? ⟨h,i * 4,none⟩=some (.int .i64 (t.k:Int))∧w.cell? ⟨h,i * 4+1,none⟩=some (.string ⟨t.s.toArray⟩)∧w.cell? ⟨h,i * 4+2,none⟩=some (.int .i64 (t.n:Int))∧w.cell? ⟨h,i * 4+3,none⟩=some (.int .i64 (t.a:Int))
theorem TRow.away {w w':World} {h g:Nat} {T:List Tk} (hr:TRow w h T) (hb:Away g w w') (hn:h≠g):TRow w' h T:=by
 obtain⟨h1,h2⟩:=hr
 refine⟨Nat.lt_of_lt_of_le h1 hb.size,fun i t ht=>?_⟩
 obtain⟨a,b,c,d⟩:=h2 i t ht
 exact⟨(hb.cell (p:=⟨h,i * 4,none⟩) h1 hn).trans a,(hb.cell (p:=⟨h,i * 4+1,none⟩) h1 hn).trans b,(hb.cell (p:=⟨h,i * 4+2,none⟩) h1 hn).trans c,(hb.cell (p:=⟨h,i * 4+3,none⟩) h1 hn).trans d⟩
structure PG (w0 w:World) (g:Nat) (T:List Tk) (h cap i:Nat):Prop where
 env:EnvP w0
 base:Below w0.heap.size w0 w
 gz:w0.heap.size≤g
 good:GoodT T
 lt:i<T.length
 le:T.length≤cap
 big:T.length≤1000
 obj:w.heap[g]?=some (.cells #[.slice (some ⟨h,0,none⟩) T.length cap,.int .i64 (i:Int)] 151 (0,0))
 hg:h<g
 row:TRow w h T
section
variable {w0 w w':World} {g:Nat} {T:List Tk} {h cap i:Nat}
theorem PG.glt (p:PG w0 w g T h cap i):g<w.heap.size:=(Array.getElem?_eq_some_iff.1 p.obj).1
theorem PG.later (p:PG w0 w g T h cap i) (hb:Below w.heap.size w w'):PG w0 w' g T h cap i :=
 ⟨p.env,below_to p.base hb,p.gz,p.good,p.lt,p.le,p.big,by rw[hb.block _ p.glt];exact p.obj,p.hg,p.row.away (g:=g) (.of hb) (by have:=p.hg;omega)⟩
theorem PG.now (p:PG w0 w g T h cap i):EnvP w:=p.env.later p.base
theorem PG.cells (p:PG w0 w g T h cap i):w.cell? ⟨g,0,none⟩=some (.slice (some ⟨h,0,none⟩) T.length cap)∧w.cell? ⟨g,1,none⟩=some (.int .i64 (i:Int))∧w.frozen? ⟨g,1,none⟩=false:=by
 refine⟨?_,?_,?_⟩
 ·rw[cell_of_row w g 0 _ _ _ p.obj];rfl
 ·rw[cell_of_row w g 1 _ _ _ p.obj];rfl
 ·simp[World.frozen?,p.obj]
theorem PG.set (p:PG w0 w g T h cap i) {j:Nat} (hj:j<T.length):PG w0 (w.setCell ⟨g,1,none⟩ (.int .i64 (j:Int))) g T h cap j :=
 ⟨p.env,p.base.setCell (p:=⟨g,1,none⟩) p.gz _,p.gz,p.good,hj,p.le,p.big,by rw[heap_setCell_same w g 1 _ _ _ p.obj];rfl,p.hg,p.row.away (g:=g) ((Away.refl g w).set 1 _) (by have:=p.hg;omega)⟩
theorem PG.goes (p:PG w0 w g T h cap i) {j:Nat} {z:Int} (hj:j<T.length) (hz:z=(j:Int)):PG w0 (w.setCell ⟨g,1,none⟩ (.int .i64 z)) g T h cap j:=by subst hz;exact p.set hj
theorem PG.put (p:PG w0 w g T h cap i) {b:Nat} (hb:g<b) (k:Nat) (u:Value):PG w0 (w.setCell ⟨b,k,none⟩ u) g T h cap i :=
 ⟨p.env,p.base.setCell (p:=⟨b,k,none⟩) (by have:=p.gz;dsimp only;omega) _,p.gz,p.good,p.lt,p.le,p.big,by rw[Below.heap_setCell _ _ _ _ (by dsimp only;omega)];exact p.obj,p.hg,p.row.away (g:=b) ((Away.refl b w).set k _) (by have:=p.hg;omega)⟩
theorem PG.put4 (p:PG w0 w g T h cap i) {b:Nat} (hb:g<b) (x0 x1 x2 x3:Value):PG w0 ((((w.setCell ⟨b,0,none⟩ x0).setCell ⟨b,1,none⟩ x1).setCell ⟨b,2,none⟩ x2).setCell ⟨b,3,none⟩ x3) g T h cap i :=
 (((p.put hb 0 x0).put hb 1 x1).put hb 2 x2).put hb 3 x3
theorem PG.alloc (p:PG w0 w g T h cap i) (o:Obj):PG w0 (w.alloc o) g T h cap i:=p.later (below_alloc w o)
theorem Away.put4 {a:World} (p:Away g a w) {b:Nat} (hb:a.heap.size≤b) (x0 x1 x2 x3:Value):Away g a ((((w.setCell ⟨b,0,none⟩ x0).setCell ⟨b,1,none⟩ x1).setCell ⟨b,2,none⟩ x2).setCell ⟨b,3,none⟩ x3) :=
 (((p.put hb 0 x0).put hb 1 x1).put hb 2 x2).put hb 3 x3
theorem PG.tok (p:PG w0 w g T h cap i):∃ t,T[i]?=some t∧T.drop i=t :: T.drop (i+1)∧w.cell? ⟨h,i * 4,none⟩=some (.int .i64 (t.k:Int))∧w.cell? ⟨h,i * 4+1,none⟩=some (.string ⟨t.s.toArray⟩)∧w.cell? ⟨h,i * 4+2,none⟩=some (.int .i64 (t.n:Int))∧w.cell? ⟨h,i * 4+3,none⟩=some (.int .i64 (t.a:Int)):=by
 obtain⟨t,ht⟩:∃ t,T[i]?=some t:=⟨_,List.getElem?_eq_getElem p.lt⟩
 have hd:T.drop i=t :: T.drop (i+1):=by
  obtain⟨h1,h2⟩:=List.getElem?_eq_some_iff.1 ht
  rw[← h2];exact List.drop_eq_getElem_cons h1
 exact⟨t,ht,hd,p.row.2 i t ht⟩
theorem PG.next (p:PG w0 w g T h cap i) {t:Tk} (ht:T[i]?=some t) (hk:t.k≠0):i+1<T.length:=p.good.last i t ht hk
end
theorem token_any (w0 w:World) (g:Nat) (T:List Tk) (h cap i:Nat) (t:Tk) (p:PG w0 w g T h cap i) (ht:T[i]?=some t) :
  Calls prog 91 #[.pointer (some ⟨g,0,none⟩)] w fun e w'=>e=.returned (T4 t.k ⟨t.s.toArray⟩ t.n t.a)∧Below w.heap.size w w':=by
 obtain⟨c0,c1,-⟩:=p.cells
 obtain⟨x0,x1,x2,x3⟩:=p.row.2 i t ht
 have hl:=p.lt
 have hle:=p.le
 have hbig:=p.big
 have hgl:=p.glt
 have hhl:=p.row.1
 have hiz:(i:Int)<(T.length:Int):=by omega
 have hF:=four_new w (.int .i64 0) (.string ⟨#[]⟩) (.int .i64 0) (.int .i64 0) 82
 have hb:=below_alloc w (.cells #[.int .i64 0,.string ⟨#[]⟩,.int .i64 0,.int .i64 0] 82)
 generalize hS:(⟨t.s.toArray⟩:ByteArray)=S at *
 generalize T.length=n at *
 clear p ht
 go_enter func91,ntmps91
 go_wp2_with fail
 go_region
 go_wp2
 exact bodyPost_ret (v:=T4 t.k S t.n t.a) (by simp[T4,results,results91,go_sem]) rfl ⟨rfl,(below_alloc w _).drew⟩
def sgT (t:Tk):List UInt8:=if t.k=4 then t.s else []
theorem psign_any (w0 w:World) (g:Nat) (T:List Tk) (h cap i:Nat) (t:Tk) (p:PG w0 w g T h cap i) (ht:T[i]?=some t) :
  Calls prog 179 #[.pointer (some ⟨g,0,none⟩)] w fun e w'=>e=.returned (.string ⟨(sgT t).toArray⟩)∧Below w.heap.size w w':=by
 have c1:=token_any w0 w g T h cap i t p ht
 by_cases hk:t.k=4
 ·have hkz:((t.k:Int) == 4)=true:=by rw[hk];rfl
  have hs:sgT t=t.s:=by unfold sgT;rw[if_pos hk]
  rw[hs]
  clear hs hk p ht
  generalize (⟨t.s.toArray⟩:ByteArray)=S at *
  generalize (t.k:Int)=K at *
  go_enter func179,ntmps179
  go_wp2_with fail
  refine c1.mono ?_
  rintro e w1 ⟨rfl,b1⟩
  clear c1
  go_wp2
  go_ret
  exact⟨rfl,b1.alloc b1.size _⟩
 ·have hkz:((t.k:Int) == 4)=false:=beq_eq_false_iff_ne.2 (by omega)
  have hs:sgT t=[]:=by unfold sgT;rw[if_neg hk]
  rw[hs]
  clear hs hk p ht
  generalize (⟨t.s.toArray⟩:ByteArray)=S at *
  generalize (t.k:Int)=K at *
  go_enter func179,ntmps179
  go_wp2_with fail
  refine c1.mono ?_
  rintro e w1 ⟨rfl,b1⟩
  clear c1
  go_wp2
  go_ret
  exact⟨rfl,b1.alloc b1.size _⟩
theorem fld_0 (k:Int) (s:ByteArray) (n a:Int) (w:World):(Instr.field 82 (T4 k s n a) 0).run prog w=.ok (.int .i64 k) w:=by kernel_rfl
theorem fld_1 (k:Int) (s:ByteArray) (n a:Int) (w:World):(Instr.field 82 (T4 k s n a) 1).run prog w=.ok (.string s) w:=by kernel_rfl
theorem fld_3 (k:Int) (s:ByteArray) (n a:Int) (w:World):(Instr.field 82 (T4 k s n a) 3).run prog w=.ok (.int .i64 a) w:=by kernel_rfl
abbrev Panic (a:Nat):Ending:=.panicked [{ v:=.iface 147 (.int .i64 (a:Int)),recovered:=false }]
theorem fail_any (w0 w:World) (g:Nat) (T:List Tk) (h cap i:Nat) (t:Tk) (p:PG w0 w g T h cap i) (ht:T[i]?=some t) :
  Calls prog 92 #[.pointer (some ⟨g,0,none⟩)] w fun e w'=>e=Panic t.a∧Below w.heap.size w w':=by
 have c1:=token_any w0 w g T h cap i t p ht
 clear p ht
 generalize (⟨t.s.toArray⟩:ByteArray)=S at *
 have hfd:=fun w=>fld_3 (t.k:Int) S (t.n:Int) (t.a:Int) w
 go_enter func92,ntmps92
 go_wp2_with fail
 refine c1.mono ?_
 rintro e w1 ⟨rfl,b1⟩
 clear c1
 go_wp2
 exact⟨rfl,rfl,b1⟩
def TakeEnd (w0 w:World) (g:Nat) (T:List Tk) (h cap i:Nat) (s:List UInt8) (t:Tk) (e:Ending) (w':World):Prop :=
 (sgT t=s∧e=.returned (.tuple #[])∧Away g w w'∧PG w0 w' g T h cap (i+1))∨(sgT t≠s∧e=Panic t.a∧Away g w w')
theorem take_any (w0 w:World) (g:Nat) (T:List Tk) (h cap i:Nat) (s:List UInt8) (t:Tk) (p:PG w0 w g T h cap i) (ht:T[i]?=some t) (hs:s≠[]) :
  Calls prog 253 #[.pointer (some ⟨g,0,none⟩),.string ⟨s.toArray⟩] w (TakeEnd w0 w g T h cap i s t):=by
 have c1:=psign_any w0 w g T h cap i t p ht
 by_cases hq:sgT t=s
 ·have hk:t.k≠0:=by
   intro e0;unfold sgT at hq;rw[if_neg (by omega)] at hq;exact hs hq.symm
  have hnext:=p.next ht hk
  rw[hq] at c1
  have hss:((⟨s.toArray⟩:ByteArray).toList == (⟨s.toArray⟩:ByteArray).toList)=true:=by simp
  have HQ:=hid hq
  have HP:=fun w' (hb:Below w.heap.size w w')=>p.later hb
  clear hq
  generalize hS:(⟨s.toArray⟩:ByteArray)=S at *
  clear hS
  have hbig:=p.big
  clear p
  go_enter func253,ntmps253
  go_wp2_with fail
  refine c1.mono ?_
  rintro e w1 ⟨rfl,b1⟩
  have p1:=HP _ b1
  obtain⟨-,x1,f1⟩:=p1.cells
  have P1:=hid p1
  clear c1 p1
  go_wp2
  go_end0
  exact .inl ⟨HQ.out,rfl,(Away.of b1).set 1 _,P1.out.goes hnext (by first | rfl | (push_cast;rfl) | go_num)⟩
 ·have hne:(⟨(sgT t).toArray⟩:ByteArray)≠⟨s.toArray⟩:=fun e=>hq (by
   have:=congrArg (fun b:ByteArray=>b.data.toList) e
   simpa using this)
  have hss:=txt_ne hne
  have cF:=fun w' (hb:Below w.heap.size w w')=>fail_any w0 w' g T h cap i t (p.later hb) ht
  have HQ:=hid hq
  clear hq hne
  generalize (⟨s.toArray⟩:ByteArray)=S at *
  generalize (⟨(sgT t).toArray⟩:ByteArray)=S2 at *
  clear p ht
  go_enter func253,ntmps253
  go_wp2_with fail
  refine c1.mono ?_
  rintro e w1 ⟨rfl,b1⟩
  have c2:=cF _ b1
  clear c1 cF
  go_wp2_with fail
  refine c2.mono ?_
  rintro e w2 ⟨rfl,b2⟩
  go_wp2
  exact⟨rfl,.inr ⟨HQ.out,rfl,.of (below_to b1 b2)⟩⟩
end
section
open _root_.Go.Proofs.Tryz
set_option maxHeartbeats 2000000
set_option maxRecDepth 100000
open Go.RowKit
theorem repl_none (s:ByteArray) (w:World) (h:Lib.countByte s.data.toList 62=0) :
  Calls prog 180 #[.string s,.string ⟨#[62]⟩,.string ⟨#[60]⟩,.int .i64 1] w fun e w'=>e=.returned (.string s)∧Below w.heap.size w w':=by
 have c1:=fun w=>Any.strings_Count_one more138 s 62 w
 rw[h] at c1
 go_enter func180,ntmps180
 go_wp2_with fail
 refine (c1 _).mono ?_
 rintro e w1 ⟨rfl,rfl⟩
 go_wp2
 go_ret
 exact⟨rfl,Below.refl _ _⟩
theorem repl_gt (s t:ByteArray) (w:World) (h:(s=⟨#[62]⟩∧t=⟨#[60]⟩)∨(s=⟨#[62,61]⟩∧t=⟨#[60,61]⟩)) :
  Calls prog 180 #[.string s,.string ⟨#[62]⟩,.string ⟨#[60]⟩,.int .i64 1] w fun e w'=>e=.returned (.string t)∧Below w.heap.size w w':=by
 have c1:=fun w=>Any.strings_Count_one more138 s 62 w
 have c2:=fun w=>Any.strings_Index_one more143 s 62 w
 have hk:(Lib.countByte s.data.toList 62:Int)=1:=by rcases h with ⟨rfl,-⟩ | ⟨rfl,-⟩<;>decide
 have hi:(Lib.indexByte s.data.toList 62:Int)=0:=by rcases h with ⟨rfl,-⟩ | ⟨rfl,-⟩<;>decide
 have cG:=fun w1 hb hl=>Any.Builder_Grow_fresh more165 Tryz.extraB w.heap.size w.heap.size s.size w1 (Nat.le_refl _) hb hl (by rcases h with ⟨rfl,-⟩ | ⟨rfl,-⟩<;>decide)
 rcases h with ⟨rfl,rfl⟩ | ⟨rfl,rfl⟩
 all_goals
  go_enter func180,ntmps180
  go_wp2_with fail
  refine (c1 _).mono ?_
  rintro e w1 ⟨rfl,rfl⟩
  rw[hk]
  go_wp2_with fail
  refine (cG _ (alloc_at w1 _) (by rw[alloc_size];omega)).mono ?_
  rintro e wG ⟨rfl,hG,hbG0⟩
  have hbG:Below w1.heap.size w1 wG:=((Below.refl _ w1).alloc (Nat.le_refl _) _).trans hbG0
  clear hbG0 cG c1
  go_wp2_with fail
  refine wp_loop_rounds 2 ?_
  rw[rounds_succ]
  go_wp2_with fail
  refine (c2 _).mono ?_
  rintro e w2 ⟨rfl,rfl⟩
  rw[hi]
  go_wp2_with fail
  refine (Any.Builder_WriteString more166 Tryz.extraB w1.heap.size w1.heap.size _ _ w2 (Or.inr hG) ?hl1 hbG.size).mono ?_
  case hl1=>decide
  rintro e w3 ⟨rfl,h3,b3⟩
  have hb3:=hbG.trans b3
  clear hG b3 hbG c2
  go_wp2_with fail
  refine (Any.Builder_WriteString more166 Tryz.extraB w1.heap.size w1.heap.size _ _ w3 (Or.inr h3) ?hl2 hb3.size).mono ?_
  case hl2=>decide
  rintro e w4 ⟨rfl,h4,b4⟩
  have hb4:=hb3.trans b4
  clear h3 b4 hb3
  go_wp2_with fail
  rw[rounds_succ]
  go_wp2_with fail
  refine (Any.Builder_WriteString more166 Tryz.extraB w1.heap.size w1.heap.size _ _ w4 (Or.inr h4) ?hl3 hb4.size).mono ?_
  case hl3=>decide
  rintro e w5 ⟨rfl,h5,b5⟩
  have hb5:=hb4.trans b5
  clear h4 b5 hb4
  go_wp2_with fail
 ·refine (Any.Builder_String more169 Tryz.extraB w1.heap.size w1.heap.size [60] w5 (Or.inr h5) (by decide)).mono ?_
  rintro e w6 ⟨rfl,b6⟩
  go_wp2
  go_ret
  exact⟨rfl,hb5.trans b6⟩
 ·refine (Any.Builder_String more169 Tryz.extraB w1.heap.size w1.heap.size [60,61] w5 (Or.inr h5) (by decide)).mono ?_
  rintro e w6 ⟨rfl,b6⟩
  go_wp2
  go_ret
  exact⟨rfl,hb5.trans b6⟩
def lessL (s:List UInt8):List UInt8:=if s=[62] then [60] else if s=[62,61] then [60,61] else s
theorem less_any (s:List UInt8) (w:World) (h:s=[]∨s ∈ ([[43],[45],[42],[47],[37],[40],[41],[44],[61],[60],[62],[38],[124],[33],[60,61],[62,61],[33,61]]:List (List UInt8))) :
  Calls prog 180 #[.string ⟨s.toArray⟩,.string ⟨#[62]⟩,.string ⟨#[60]⟩,.int .i64 1] w fun e w'=>e=.returned (.string ⟨(lessL s).toArray⟩)∧Below w.heap.size w w':=by
 by_cases h1:s=[62]
 ·subst h1;exact repl_gt _ _ w (.inl ⟨rfl,rfl⟩)
 by_cases h2:s=[62,61]
 ·subst h2;exact repl_gt _ _ w (.inr ⟨rfl,rfl⟩)
 have hl:lessL s=s:=by unfold lessL;rw[if_neg h1,if_neg h2]
 rw[hl]
 refine repl_none _ w ?_
 rcases h with rfl | h
 ·rfl
 ·have hall:∀ s ∈ ([[43],[45],[42],[47],[37],[40],[41],[44],[61],[60],[62],[38],[124],[33],[60,61],[62,61],[33,61]]:List (List UInt8)),s≠[62]→s≠[62,61]→Lib.countByte s 62=0:=by decide
  exact hall s h h1 h2
end
section
open Go.RowKit
def Cells4 (w:World) (S:Nat→Prop):List Ex→List Value→Prop
 | [],[]=>True
 | e :: es,v0 :: v1 :: v2 :: v3 :: xs=>ExIn w S e (.agg #[v0,v1,v2,v3])∧Cells4 w S es xs
 | _,_=>False
theorem Cells4.stays {w w':World} {S:Nat→Prop} (h:Stays S w w'):∀ (es:List Ex) (xs:List Value),Cells4 w S es xs→Cells4 w' S es xs
 | [],[],_=>trivial
 | _ :: es,_ :: _ :: _ :: _ :: xs,hc=>⟨hc.1.keep h,Cells4.stays h es xs hc.2⟩
 | [],_ :: _,hc=>hc.elim
 | _ :: _,[],hc=>hc.elim
 | _ :: _,[_],hc=>hc.elim
 | _ :: _,[_,_],hc=>hc.elim
 | _ :: _,[_,_,_],hc=>hc.elim
theorem Cells4.from {w:World} {S R:Nat→Prop} (h:∀ b,S b→b<w.heap.size→R b):∀ (es:List Ex) (xs:List Value),Cells4 w S es xs→Cells4 w R es xs
 | [],[],_=>trivial
 | _ :: es,_ :: _ :: _ :: _ :: xs,hc=>⟨hc.1.wide h,Cells4.from h es xs hc.2⟩
 | [],_ :: _,hc=>hc.elim
 | _ :: _,[],hc=>hc.elim
 | _ :: _,[_],hc=>hc.elim
 | _ :: _,[_,_],hc=>hc.elim
 | _ :: _,[_,_,_],hc=>hc.elim
theorem Cells4.snoc {w:World} {S:Nat→Prop} {a:Ex} {u0 u1 u2 u3:Value} (ha:ExIn w S a (.agg #[u0,u1,u2,u3])):∀ (es:List Ex) (xs:List Value),Cells4 w S es xs→Cells4 w S (es++[a]) (xs++[u0,u1,u2,u3])
 | [],[],_=>⟨ha,trivial⟩
 | _ :: es,_ :: _ :: _ :: _ :: xs,hc=>⟨hc.1,Cells4.snoc ha es xs hc.2⟩
 | [],_ :: _,hc=>hc.elim
 | _ :: _,[],hc=>hc.elim
 | _ :: _,[_],hc=>hc.elim
 | _ :: _,[_,_],hc=>hc.elim
 | _ :: _,[_,_,_],hc=>hc.elim
theorem Cells4.row {w:World} {S:Nat→Prop} {g:Nat} (hnb:NB w g):∀ (es:List Ex) (xs:List Value) (o:Nat),Cells4 w S es xs→(∀ j u,xs[j]?=some u→w.cell? ⟨g,o+j,none⟩=some u)→RowIn w S g o es
 | [],[],_,_,_=>.none
 | e :: es,v0 :: v1 :: v2 :: v3 :: xs,o,hc,h =>
  RowIn.one hnb (h 0 v0 rfl) (h 1 v1 rfl) (h 2 v2 rfl) (h 3 v3 rfl) hc.1 (Cells4.row hnb es xs (o+4) hc.2 fun j u hj=>by
   have:=h (j+4) u (by simpa using hj)
   rwa [show o+(j+4)=o+4+j by omega] at this)
 | [],_ :: _,_,hc,_=>hc.elim
 | _ :: _,[],_,hc,_=>hc.elim
 | _ :: _,[_],_,hc,_=>hc.elim
 | _ :: _,[_,_],_,hc,_=>hc.elim
 | _ :: _,[_,_,_],_,hc,_=>hc.elim
abbrev But (B:Nat) (v:Value):Nat→Prop:=fun b=>B≤b∧v.ownBlock≠some b
def Grow (w:World) (B:Nat) (v:Value) (es:List Ex):Prop:=∃ xs,w.ownsRow B 24 4 v es.length xs∧Cells4 w (But B v) es xs
theorem Grow.nil (w:World) (B:Nat):Grow w B (.slice none 0 0) []:=⟨[],World.ownsRow_nil _ _ _ _,trivial⟩
theorem own_blk {w:World} {B:Nat} {e:TypeId} {z:Nat} {v:Value} {n:Nat} {xs:List Value} (h:w.ownsRow B e z v n xs):∀ b,v.ownBlock=some b→B≤b∧b<w.heap.size:=by
 intro b hb
 rcases h.2 with ⟨rfl,_⟩ | ⟨k,cap,cur,rfl,hbg,hk,_⟩
 ·cases hb
 ·simp only[Value.ownBlock,Option.some.injEq] at hb
  subst hb
  exact⟨hbg,(Array.getElem?_eq_some_iff.1 hk).1⟩
theorem own_stay {w w':World} {B:Nat} {e:TypeId} {z:Nat} {v:Value} {n:Nat} {xs:List Value} (h:w.ownsRow B e z v n xs) (hb:∀ k,v.ownBlock=some k→w'.heap[k]?=w.heap[k]?):w'.ownsRow B e z v n xs:=by
 refine⟨h.1,?_⟩
 rcases h.2 with hn | ⟨k,cap,cur,hv,hbg,hk,rest⟩
 ·exact .inl hn
 ·exact .inr ⟨k,cap,cur,hv,hbg,(hb k (by rw[hv];rfl)).trans hk,rest⟩
theorem Grow.away {w w':World} {B g:Nat} {v:Value} {es:List Ex} (h:Grow w B v es) (ha:Away g w w') (hg:g<B):Grow w' B v es:=by
 obtain⟨xs,h1,h2⟩:=h
 refine⟨xs,own_stay h1 (fun k hk=>?_),Cells4.stays (Stays.away ha (fun hc=>by have:=hc.1;omega)) _ _ h2⟩
 obtain⟨k1,k2⟩:=own_blk h1 k hk
 exact ha.block k k2 (by omega)
theorem Grow.later {w w':World} {B:Nat} {v:Value} {es:List Ex} (h:Grow w B v es) (hb:Below w.heap.size w w'):Grow w' B v es:=by
 obtain⟨xs,h1,h2⟩:=h
 exact⟨xs,own_stay h1 (fun k hk=>hb.block k (own_blk h1 k hk).2),Cells4.stays (.of hb) _ _ h2⟩
theorem Grow.put {w:World} {B b:Nat} {v:Value} {es:List Ex} (h:Grow w B v es) (hb:∀ k,v.ownBlock=some k→k≠b) (hs:∀ (xs:List Value),Cells4 w (But B v) es xs→Cells4 w (fun c=>But B v c∧c≠b) es xs) (i:Nat) (u:Value):Grow (w.setCell ⟨b,i,none⟩ u) B v es:=by
 obtain⟨xs,h1,h2⟩:=h
 refine⟨xs,own_stay h1 (fun k hk=>Below.heap_setCell _ _ _ _ (by dsimp only;exact hb k hk)),?_⟩
 exact Cells4.from (fun c hc _=>hc.1) _ _ (Cells4.stays (Stays.set w i u (fun hc=>hc.2 rfl)) _ _ (hs xs h2))
theorem Grow.snoc {w w':World} {B:Nat} {v v':Value} {es:List Ex} {xs:List Value} {a:Ex} {u0 u1 u2 u3:Value} (hc:Cells4 w (But B v) es xs) (ha:ExIn w (But B v) a (.agg #[u0,u1,u2,u3]))
  (hown':w'.ownsRow B 24 4 v' (es.length+1) (xs++[u0,u1,u2,u3])) (hgrow:w.grownBy w' v.ownBlock) (hat:v'.ownBlock=v.ownBlock∨v'.ownBlock=some w.heap.size):Grow w' B v' (es++[a]):=by
 have hs:Stays (But B v) w w':=⟨hgrow.size,fun g hg hl=>hgrow.block g hl (fun e=>hg.2 e.symm)⟩
 have hw:∀ b,But B v b∧b<w.heap.size→But B v' b:=by
  rintro b ⟨⟨h1,h2⟩,h3⟩
  refine⟨h1,?_⟩
  rcases hat with e | e
  ·rw[e];exact h2
  ·rw[e];intro e2;injection e2 with e2;omega
 refine⟨_,by rw[List.length_append,List.length_singleton];exact hown',?_⟩
 have k1:Cells4 w (fun b=>But B v b∧b<w.heap.size) (es++[a]) (xs++[u0,u1,u2,u3]):=Cells4.from (fun b hb hl=>⟨hb,hl⟩) _ _ (Cells4.snoc ha es xs hc)
 have k2:Cells4 w' (fun b=>But B v b∧b<w.heap.size) (es++[a]) (xs++[u0,u1,u2,u3]):=Cells4.stays ⟨hs.size,fun g hg hl=>hs.block g hg.1 hl⟩ _ _ k1
 exact Cells4.from (fun b hb _=>hw b hb) _ _ k2
theorem Grow.done {w:World} {B:Nat} {v:Value} {es:List Ex} (h:Grow w B v es):∃ ao cap,v=.slice ao es.length cap∧es.length≤cap∧(0<es.length→∃ b,ao=some ⟨b,0,none⟩∧B≤b∧b<w.heap.size∧RowIn w (Up B) b 0 es):=by
 obtain⟨xs,h1,h2⟩:=h
 have h1':=h1
 rcases h1.2 with ⟨rfl,hn⟩ | ⟨k,cap,cur,rfl,hbg,hk,hnc,-⟩
 ·exact⟨none,0,by rw[hn],by omega,fun hp=>absurd hp (by omega)⟩
 ·refine⟨_,cap,rfl,hnc,fun _=>⟨k,rfl,hbg,(Array.getElem?_eq_some_iff.1 hk).1,?_⟩⟩
  refine Cells4.row ⟨_,_,hk⟩ es xs 0 (Cells4.from (fun b hb _=>hb.1) _ _ h2) fun j u hj=>?_
  have:=h1'.cells (g:=k) rfl j u hj
  have e:(⟨k,0,none⟩:Addr).add j=⟨k,j,none⟩:=by unfold Addr.add;split<;>simp_all
  rw[e] at this
  rwa [Nat.zero_add]
theorem away_grown {g:Nat} {a w w':World} {row:Option Nat} (h:Away g a w) (hg:w.grownBy w' row) (hr:∀ b,row=some b→a.heap.size≤b):Away g a w' :=
 ⟨hg.os.trans h.os,hg.tape.trans h.tape,hg.output.trans h.output,Nat.le_trans h.size hg.size,fun i hi hn=>(hg.block i (Nat.lt_of_lt_of_le hi h.size) (fun e=>by have:=hr i e.symm;omega)).trans (h.block i hi hn)⟩
end
section
open Go.Lib
def TokOf (t:Tk):Prop:=∃ x R f,tokF x R=some f∧Pcd (x :: R)∧classZ (x.1:Int)≠3∧t.k=f.k∧t.s=f.s∧t.n=f.n
theorem lexR_tok:∀ (n:Nat) (R:List Pc) (p:Nat) (ts:List Tk),R.length≤n→Pcd R→lexR R p=.ok ts→∀ t ∈ ts,TokOf t
 | n,[],p,ts,_,_,h,t,ht=>by
  rw[lexR_nil] at h
  injection h with h;subst h
  cases ht
 | 0,x :: R,p,ts,hl,_,_,_,_=>by simp at hl
 | n+1,x :: R,p,ts,hl,hP,h,t,hti=>by
  simp only[List.length_cons] at hl
  by_cases hc:classZ (x.1:Int)=3
  ·rw[lexR_blank _ _ _ hc] at h
   exact lexR_tok n R _ ts (by omega) hP.tail h t hti
  ·cases ht:tokF x R with
   | none=>rw[lexR_none _ _ _ hc ht] at h;cases h
   | some f =>
    have hj:=tokF_len ht
    rw[lexR_some _ _ _ hc f ht] at h
    cases hr:lexR (R.drop f.j) (p+(flat (x :: R.take f.j)).length) with
    | error q=>rw[hr] at h;cases h
    | ok us =>
     rw[hr] at h
     have e:[f.tk p]++us=ts:=by injection h
     subst e
     rcases List.mem_cons.1 hti with rfl | hti
     ·exact⟨x,R,f,ht,hP,hc,rfl,rfl,rfl⟩
     ·exact lexR_tok n (R.drop f.j) _ us (by rw[List.length_drop];omega) (hP.drop (f.j+1)) hr t hti
theorem encs_len (Rs:List Nat):(encs Rs).length≤4 * Rs.length:=by
 induction Rs with
 | nil=>simp[encs]
 | cons r Rs ih =>
  have:encs (r :: Rs)=encodeRune (r:Int)++encs Rs:=by simp[encs]
  rw[this,List.length_append,List.length_cons]
  have:=runeCells_le (r:Int)
  rw[runeCells_length] at this
  omega
theorem sign_fd {x:Pc} {R:List Pc} {f:Fd} (h:signF x R=some f):f.k=4∧f.s ∈ ([[43],[45],[42],[47],[37],[40],[41],[44],[61],[60],[62],[38],[124],[33],[60,61],[62,61],[33,61]]:List (List UInt8)):=by
 unfold signF at h
 split at h
 ·next hs =>
  have h14:=(isSign_iff x.1).1 hs
  split at h
  ·next h2 =>
   have h3:=(isTwo_iff x.1).1 h2.1
   injection h with h;subst h
   refine⟨rfl,?_⟩
   dsimp only
   rcases h3 with e | e | e<;>rw[e]<;>decide
  ·injection h with h;subst h
   refine⟨rfl,?_⟩
   dsimp only
   rcases h14 with e | e | e | e | e | e | e | e | e | e | e | e | e | e<;>rw[e]<;>decide
 ·cases h
theorem name_fd {x:Pc} {R:List Pc} {f:Fd} (h:nameF x R=some f):f.k=3∧f.s.length≤24∧f.n=0:=by
 unfold nameF at h
 split at h
 ·injection h with h;subst h;exact⟨rfl,by assumption,rfl⟩
 ·cases h
theorem tokF_of {x:Pc} {R:List Pc} {f:Fd} (h:tokF x R=some f) :
  (f.k=1∧f.s=[])∨(f.k=2∧f.s.length≤400)∨(f.k=3∧f.s.length≤24∧f.n=0)∨(f.k=4∧f.s ∈ ([[43],[45],[42],[47],[37],[40],[41],[44],[61],[60],[62],[38],[124],[33],[60,61],[62,61],[33,61]]:List (List UInt8))):=by
 unfold tokF at h
 split at h
 ·unfold numF at h
  split at h
  ·injection h with h;subst h;exact .inl ⟨rfl,rfl⟩
  ·cases h
 split at h
 ·exact .inr (.inr (.inl (name_fd h)))
 split at h
 ·unfold textT at h
  split at h
  ·cases h
  ·next Rs k _ =>
   split at h
   ·injection h with h;subst h
    refine .inr (.inl ⟨rfl,?_⟩)
    have:=encs_len Rs
    dsimp only
    omega
   ·cases h
 ·exact .inr (.inr (.inr (sign_fd h)))
theorem TokOf.name {t:Tk} (h:TokOf t) (hk:t.k=3):nameB t.s=!isWordL t.s:=by
 obtain⟨x,R,f,hf,hP,hc,e1,e2,e3⟩:=h
 have hk3:f.k=3:=e1.symm.trans hk
 have hj:=tokF_len hf
 have h1:=(tokF_kind hf hP).2.1 (.inl hk3)
 have h2:=tokF_cut hf (B:=[]) (by intro y hy;cases hy)
 rw[List.append_nil] at h2
 have hs:f.s.length≤24∧f.n=0:=by
  rcases tokF_of hf with h | h | h | h
  ·have:=h.1;omega
  ·have:=h.1;omega
  ·exact h.2
  ·have:=h.1;omega
 have hp:pcs f.s=x :: R.take f.j:=by
  rw[h1]
  have:=hP.take (f.j+1)
  rw[List.take_succ_cons] at this
  exact this
 have hl:lexL f.s=.ok [⟨3,f.s,0,0⟩]:=by
  unfold lexL
  rw[hp,lexR_some _ _ _ hc f h2,List.drop_of_length_le (by rw[List.length_take];omega),lexR_nil]
  unfold ahead Fd.tk
  rw[hk3,hs.2]
  rfl
 rw[e2]
 unfold nameB
 rw[hl]
 have hd:decide (f.s.length≤400)=true:=decide_eq_true (by omega)
 rw[hd]
 simp
theorem good_tokens {s:ByteArray} {ts:List Tk} (h:lexL s.data.toList=.ok ts) (hs:s.size≤400):GoodT (ts++[endT s.size]):=by
 have hT:=lexR_tok _ (pcs s.data.toList) 0 ts (Nat.le_refl _) (Pcd.of _) h
 have hz:s.data.toList.length=s.size:=size_list s
 have hof:∀ t ∈ ts,t.k≤4∧t.n<9223372036854775808∧t.s.length≤1000∧(t.k=3→nameB t.s=!isWordL t.s)∧(t.k=4→t.s ∈ ([[43],[45],[42],[47],[37],[40],[41],[44],[61],[60],[62],[38],[124],[33],[60,61],[62,61],[33,61]]:List (List UInt8))):=by
  intro t ht
  have hh:=hT t ht
  have hnm:=hh.name
  obtain⟨x,R,f,hf,hP,hc,e1,e2,e3⟩:=hh
  have k1:=tokF_kind hf hP
  have k2:=tokF_of hf
  refine⟨by have:=k1.1;omega,by rw[e3];exact k1.2.2,?_,hnm,?_⟩
  ·rw[e2]
   rcases k2 with k | k | k | k
   ·rw[k.2];simp
   ·have:=k.2;omega
   ·have:=k.2.1;omega
   ·have:∀ z ∈ ([[43],[45],[42],[47],[37],[40],[41],[44],[61],[60],[62],[38],[124],[33],[60,61],[62,61],[33,61]]:List (List UInt8)),z.length≤1000:=by decide
    exact this _ k.2
  ·intro h4
   rw[e2]
   rcases k2 with k | k | k | k
   ·have:=k.1;omega
   ·have:=k.1;omega
   ·have:=k.1;omega
   ·exact k.2
 have hat:∀ t ∈ ts,t.a≤1000:=by
  intro t ht
  obtain⟨i,hi⟩:=List.mem_iff_getElem?.1 ht
  obtain⟨b,b1,b2,-⟩:=lexL_seg h hi
  omega
 have hend:(endT s.size).k=0∧(endT s.size).n=0∧(endT s.size).s=[]∧(endT s.size).a=s.size:=⟨rfl,rfl,rfl,rfl⟩
 have all:∀ t ∈ ts++[endT s.size],t ∈ ts∨t=endT s.size:=by
  intro t ht
  simpa using ht
 refine⟨?_,?_,?_,?_,?_,?_,?_⟩
 ·intro i t hi hk
  rw[List.length_append,List.length_singleton]
  have hlt:=(List.getElem?_eq_some_iff.1 hi).1
  rw[List.length_append,List.length_singleton] at hlt
  by_cases hl:i<ts.length
  ·omega
  ·have:i=ts.length:=by omega
   subst this
   rw[List.getElem?_append_right (Nat.le_refl _),Nat.sub_self] at hi
   simp only[List.getElem?_cons_zero,Option.some.injEq] at hi
   subst hi
   exact absurd hend.1 hk
 ·intro t ht
  rcases all t ht with h | rfl
  ·exact (hof t h).1
  ·rw[hend.1];omega
 ·intro t ht
  rcases all t ht with h | rfl
  ·exact (hof t h).2.1
  ·rw[hend.2.1];omega
 ·intro t ht
  rcases all t ht with h | rfl
  ·exact (hof t h).2.2.1
  ·rw[hend.2.2.1];simp
 ·intro t ht hk
  rcases all t ht with h | rfl
  ·exact (hof t h).2.2.2.1 hk
  ·rw[hend.1] at hk;omega
 ·intro t ht hk
  rcases all t ht with h | rfl
  ·exact (hof t h).2.2.2.2 hk
  ·rw[hend.1] at hk;omega
 ·intro t ht
  rcases all t ht with h | rfl
  ·exact hat t h
  ·rw[hend.2.2.2];omega
end
end Go.Proofs.YtbbblmedoagncaaGreatDoor
