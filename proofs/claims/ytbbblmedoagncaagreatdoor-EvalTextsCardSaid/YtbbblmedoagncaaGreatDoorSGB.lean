/- Count, Lib, Mem, Fold, Num, VBase, Valid, List, Bytes, Args -/
import Derived.Test.YtbbblmedoagncaaGreatDoorProg
import Derived.Test.YtbbblmedoagncaaGreatDoorSShelf
import Derived.Test.YtbbblmedoagncaaGreatDoorSGA
import Derived.Test.YtbbblmedoagncaaGreatDoorRows
import Derived.WalkKit
import Derived.WalkMore
import Derived.Lib.Walk
import Derived.Lib.RuneCount
import Derived.Laws.RangeString
import Derived.Laws.RangeAny
import Derived.LoopTactic
import Derived.Below
import Derived.Shelf.Unicode.DecodeSlow
import Derived.Shelf.Strings.BuilderRune
import Derived.Shelf.Strings.Builder2Cap
import Derived.Shelf.Strings.BuilderK
import Derived.BigCall
import Derived.Lib.OthersKept
import Derived.WalkSpells
import Derived.Lib.Hide
import Derived.Lib.LazyBuf
import Derived.Laws.CopyOwn
import Derived.Laws.BytesString
import Derived.Laws.MakeOwn
import Derived.Laws.OwnMore
import Derived.Lib.UnsafeStr
import Derived.Lib.FrozenHead
import Derived.WalkLawsBesides
import Derived.Shelf.Strconv.ErrVarParseInt
import Derived.Shelf.Strconv.Clone
import Derived.Shelf.Strings.Prefix
import Derived.Shelf.Small.Strs
import Derived.Shelf.Small.Wraps
import Derived.Lib.SmallJoins
import Derived.Shelf.Unicode.ValidAny
import Derived.Laws.AppendOwn
import Derived.Deep.DeepFit
import Derived.Laws.AppendOwnNone
import Derived.Laws.BytesArg
import Derived.Maps.AppendAt
import Derived.RegionTactic
import Derived.Lib.SlBytesConst
import Derived.ProofKit
import Derived.SizedLaws
import Derived.Carry
import Derived.OpenShut
import Derived.SliceStrings
import Derived.Deep.Grids
namespace Go.Proofs.YtbbblmedoagncaaGreatDoor
section
open _root_.Go.Proofs.Tryz
set_option maxHeartbeats 1000000
open Go.RowKit
theorem count_iter (s:ByteArray) (w:World) (hs:s.size<9223372036854775807) :
  Calls prog 117 #[.string s] w fun e w'=>e=.returned (.int .i64 (Lib.runeCount s))∧∃ pos,w'=w.iter s pos:=by
 go_enter func117,ntmps117
 go_wp2
 go_loopw [3] (fun n w'=>∃ (pos b acc:Nat),w'=w.iter s pos∧n=.int .i64 acc∧acc+Lib.runeCountFrom s b pos=Lib.runeCount s∧s.size≤pos+b∧acc≤pos) (fun _ w'=>s.size - w'.iterPos w.heap.size)
 case atStart=>exact⟨0,s.size,0,rfl,rfl,by simp[Lib.runeCount],by omega,Nat.le_refl _⟩
 case round =>
  obtain⟨pos,b,acc,rfl,rfl,hc,hb,ha⟩:=hrel
  by_cases hp:pos<s.size
  ·have hnx:∀ ty,(Instr.next (.pointer (some ⟨w.heap.size,0,none⟩)) true ty).run prog (w.iter s pos)=_:=fun ty=>run_next_any w s pos ty hp
   have hwd:=Lib.decode_width_pos s pos hp
   go_wp2
   go_roundw
   case rel =>
    cases b with
    | zero=>omega
    | succ b =>
     refine⟨pos+(Utf8.decode s pos).2,b,acc+1,rfl,by go_num,?_,by omega,by omega⟩
     rw[← hc]
     simp[Lib.runeCountFrom,hp]
     omega
   case measure =>
    simp
    omega
  ·have hnx:∀ ty,(Instr.next (.pointer (some ⟨w.heap.size,0,none⟩)) true ty).run prog (w.iter s pos)=_:=fun ty=>run_next_end w s pos ty hp
   go_wp2
   go_ret
   rw[Lib.runeCountFrom_end s b pos hp,Nat.add_zero] at hc
   subst hc
   exact⟨rfl,_,rfl⟩
theorem iter_below (w:World) (s:ByteArray) (pos:Nat):Below w.heap.size w (w.iter s pos):=(Below.refl _ w).alloc (Nat.le_refl _) _
theorem count_any (s:ByteArray) (w:World) (hs:s.size<9223372036854775807) :
  Calls prog 117 #[.string s] w fun e w'=>e=.returned (.int .i64 (Lib.runeCount s))∧Below w.heap.size w w' :=
 (count_iter s w hs).mono fun _ _ ⟨he,_,hw⟩=>⟨he,hw ▸ iter_below w s _⟩
end
section
open _root_.Go.Proofs.Tryz
open Go.RowKit
def Tabs (w:World):Prop:=Lib.Utf8Tabs 1 2 w
theorem Tabs.later {w w':World} (h:Tabs w) (hb:Below w.heap.size w w'):Tabs w':=Utf8Tabs_below h hb
theorem tailList (s:ByteArray) (pos:Nat):(s.extract pos s.size).data.toList=s.data.toList.drop pos:=by
 rw[Lib.extract_data,List.take_of_length_le (by rw[List.length_drop,← Lib.size_eq];omega)]
theorem bWriteString (B b:Nat) (bs:List Value) (s:ByteArray) (w:World) (h:Lib.IsBuilderF 200 5 B b bs w) (hlen:bs.length+s.size≤140737488355328) (hBw:B≤w.heap.size) :
  Calls prog 155 #[.pointer (some ⟨b,0,none⟩),.string s] w fun e w'=>e=.returned (.tuple #[.int .i64 s.size,.nilIface])∧(Lib.BuilderAtF 200 5 B b (.pointer (some ⟨b,0,none⟩)) (bs++Lib.strCells s) w'∧Below B w w'∧Lib.OthersKept 5 (some b) w w') :=
 Any.Builder_WriteString_k more166 Tryz.extraB B b bs s w h hlen hBw
theorem bWriteRune (B b:Nat) (bs:List Value) (r:Int) (hr0:-2147483648≤r) (hr1:r≤2147483647) (w:World) (h:Lib.IsBuilderF 200 5 B b bs w) (hlen:bs.length+4≤140737488355328) (hBw:B≤w.heap.size) :
  Calls prog 156 #[.pointer (some ⟨b,0,none⟩),.int .i32 r] w fun e w'=>e=.returned (.tuple #[.int .i64 (Lib.runeCells r).length,.nilIface])∧(Lib.BuilderAtF 200 5 B b (.pointer (some ⟨b,0,none⟩)) (bs++Lib.runeCells r) w'∧Below B w w'∧Lib.OthersKept 5 (some b) w w') :=
 Any.Builder_WriteRune_k more168 Tryz.extraB B b bs r hr0 hr1 w h hlen hBw
theorem bString (B b:Nat) (l:List UInt8) (w:World) (h:Lib.IsBuilderF 200 5 B b (Lib.byteCells l) w) (hBw:B≤w.heap.size) :
  Calls prog 157 #[.pointer (some ⟨b,0,none⟩)] w fun e w'=>e=.returned (.string ⟨l.toArray⟩)∧(Lib.IsBuilderF 200 5 B b (Lib.byteCells l) w'∧Below B w w'∧Lib.OthersKept 5 (some b) w w') :=
 Any.Builder_String_any_k more169 Tryz.extraB B b l w h hBw
end
section
open Go.RowKit
variable {P:Program}
theorem strCells_bytes (s:ByteArray):Lib.strCells s=Lib.byteCells s.data.toList:=by
 unfold Lib.strCells Lib.byteCells;rfl
theorem foldl_bytes:∀ (l:List UInt8) (s:ByteArray),(l.map fun x=>(x.toNat:Int)).foldl (fun r n=>r.push (UInt8.ofNat n.toNat)) s=⟨(s.data.toList++l).toArray⟩
 | [],s=>by simp
 | x :: l,s=>by
  simp only[List.map_cons,List.foldl_cons]
  rw[foldl_bytes l]
  simp[ByteArray.push]
theorem run_string_of (w:World) (src dst e:TypeId) (g cap:Nat) (l:List UInt8) (n:Nat) (hn:l.length=n)
  (hs:P.underlying src=some (.slice e)) (he:P.underlying e=some (.int .u8)) (hd:P.underlying dst=some .string)
  (hc:∀ j v,(Lib.byteCells l)[j]?=some v→w.cell? ⟨g,j,none⟩=some v) :
  (convert src dst (.slice (some ⟨g,0,none⟩) n cap)).run P w=.ok (.string ⟨l.toArray⟩) w:=by
 rw[run_convert_bytes_string w src dst e _ _ _ hs he hd]
 have h1:(loadCells ⟨g,0,none⟩ n).run P w=.ok ((l.map fun x=>(x.toNat:Int)).map (Value.int .u8)).toArray w:=by
  have:=run_loadCells_list (P:=P) (w:=w) ⟨g,0,none⟩ (Lib.byteCells l) (by
   intro j v hv
   have:=hc j v hv
   have e:(⟨g,0,none⟩:Addr).add j=⟨g,j,none⟩:=by unfold Addr.add;split<;>simp_all
   rw[e];exact this)
  rw[Lib.byteCells_length,hn] at this
  rw[this]
  simp[Lib.byteCells,Function.comp]
 rw[run_bytesToString w _ _ _ _ h1,foldl_bytes]
 rfl
end
section
open Go.RowKit
theorem drop_ne (s:ByteArray) (pos:Nat) (h:pos<s.size):s.data.toList.drop pos≠[]:=by
 intro e;have:=congrArg List.length e;rw[List.length_drop,← Lib.size_eq] at this;simp at this;omega
theorem drop_nil (s:ByteArray) (pos:Nat) (h:¬ pos<s.size):s.data.toList.drop pos=[]:=List.drop_eq_nil_of_le (by rw[← Lib.size_eq];omega)
theorem width_in (s:ByteArray) (pos:Nat) (h:pos<s.size):1≤(Utf8.decode s pos).2∧pos+(Utf8.decode s pos).2≤s.size:=by
 have h1:=Lib.width_pos s pos
 have h2:=Lib.decodeL_le _ (drop_ne s pos h)
 rw[Lib.decodeL_drop,List.length_drop,← Lib.size_eq] at h2
 omega
theorem width_four (s:ByteArray) (pos:Nat):(Utf8.decode s pos).2≤4:=by
 rw[Lib.decode_at];unfold Lib.decodeN;repeat' split
 all_goals simp
theorem alloc_at (w:World) (o:Obj):(w.alloc o).heap[w.heap.size]?=some o:=by show (w.heap.push o)[w.heap.size]?=_;simp
theorem alloc_size (w:World) (o:Obj):(w.alloc o).heap.size=w.heap.size+1:=by show (w.heap.push o).size=_;simp
theorem builderAt_later {T e:TypeId} {B b:Nat} {p:Value} {bs:List Value} {w w':World} (h:Lib.BuilderAtF T e B b p bs w) (hb:Below w.heap.size w w'):Lib.BuilderAtF T e B b p bs w':=by
 obtain⟨hB,v,hbk,hown,hne⟩:=h
 refine⟨hB,v,(hb.block b (Array.getElem?_eq_some_iff.1 hbk).1).trans hbk,⟨hown.1,?_⟩,hne⟩
 rcases hown.2 with hn | ⟨g,cap,cur,fz,hv,hbg,hg,rest⟩
 ·exact .inl hn
 ·exact .inr ⟨g,cap,cur,fz,hv,hbg,(hb.block g (Array.getElem?_eq_some_iff.1 hg).1).trans hg,rest⟩
theorem builder_later {T e:TypeId} {B b:Nat} {bs:List Value} {w w':World} (h:Lib.IsBuilderF T e B b bs w) (hb:Below w.heap.size w w'):Lib.IsBuilderF T e B b bs w' :=
 h.elim (fun x=>.inl (builderAt_later x hb)) (fun x=>.inr (builderAt_later x hb))
theorem ret_int {k:IntKind} {a b:Int} (h:a=b):Ending.returned (.int k a)=.returned (.int k b):=by rw[h]
theorem ret_bool {a b:Bool} (h:a=b):Ending.returned (.bool a)=.returned (.bool b):=by rw[h]
end
section
open _root_.Go.Proofs.Tryz
set_option maxHeartbeats 1000000
open Go.RowKit
theorem isSpace_any (r:Int) (w:World):Calls prog 172 #[.int .i32 r] w fun e w'=>e=.returned (.bool (decide (SpaceP r)))∧w'=w:=by
 go_enter func172,ntmps172
 go_wp2
 all_goals
  go_ret
  refine⟨ret_bool ?_,rfl⟩
  simp only[beq_iff_eq,beq_eq_false_iff_ne,ne_eq] at *
  first | exact (decide_eq_true (by unfold SpaceP;omega)).symm | exact (decide_eq_false (by unfold SpaceP;omega)).symm
theorem isLetter_any (r:Int) (w:World):Calls prog 173 #[.int .i32 r] w fun e w'=>e=.returned (.bool (decide (LetterP r)))∧w'=w:=by
 go_enter func173,ntmps173
 go_wp2
 all_goals
  go_ret
  refine⟨ret_bool ?_,rfl⟩
  try simp only[beq_iff_eq,beq_eq_false_iff_ne,ne_eq] at *
  first | exact (decide_eq_true (by unfold LetterP;omega)).symm | exact (decide_eq_false (by unfold LetterP;omega)).symm
theorem space_yes (r:Int) (w:World) (h:SpaceP r):Calls prog 172 #[.int .i32 r] w fun e w'=>e=.returned (.bool true)∧w'=w :=
 (isSpace_any r w).mono fun _ _ ⟨he,hw⟩=>⟨by rw[he,decide_eq_true h],hw⟩
theorem space_no (r:Int) (w:World) (h:¬ SpaceP r):Calls prog 172 #[.int .i32 r] w fun e w'=>e=.returned (.bool false)∧w'=w :=
 (isSpace_any r w).mono fun _ _ ⟨he,hw⟩=>⟨by rw[he,decide_eq_false h],hw⟩
theorem letter_yes (r:Int) (w:World) (h:LetterP r):Calls prog 173 #[.int .i32 r] w fun e w'=>e=.returned (.bool true)∧w'=w :=
 (isLetter_any r w).mono fun _ _ ⟨he,hw⟩=>⟨by rw[he,decide_eq_true h],hw⟩
theorem letter_no (r:Int) (w:World) (h:¬ LetterP r):Calls prog 173 #[.int .i32 r] w fun e w'=>e=.returned (.bool false)∧w'=w :=
 (isLetter_any r w).mono fun _ _ ⟨he,hw⟩=>⟨by rw[he,decide_eq_false h],hw⟩
theorem class_any (r:Int) (w:World):Calls prog 85 #[.int .i32 r] w fun e w'=>e=.returned (.int .i64 (classZ r))∧w=w':=by
 by_cases hd:48≤r∧r≤57
 ·have hz:classZ r=2:=by unfold classZ;rw[if_pos hd]
  rw[hz];clear hz
  obtain⟨h1,h2⟩:=hd
  go_enter func85,ntmps85
  go_wp2
  go_ret
  exact⟨rfl,rfl⟩
 ·by_cases hs:SpaceP r
  ·have hz:classZ r=3:=by unfold classZ;rw[if_neg hd,if_pos hs]
   rw[hz];clear hz
   have c:=space_yes r w hs
   go_enter func85,ntmps85
   go_wp2_with (go_at_call 172;refine c.mono ?_;rintro e w' ⟨rfl,rfl⟩)
   all_goals first | (go_ret;exact⟨rfl,rfl⟩) | (exfalso;simp at *;omega)
  ·have c:=space_no r w hs
   by_cases hl:LetterP r
   ·have hz:classZ r=1:=by unfold classZ;rw[if_neg hd,if_neg hs,if_pos hl]
    rw[hz];clear hz
    have c2:=letter_yes r w hl
    go_enter func85,ntmps85
    go_wp2_with first | (go_at_call 172;refine c.mono ?_;rintro e w' ⟨rfl,rfl⟩) | (go_at_call 173;refine c2.mono ?_;rintro e w' ⟨rfl,rfl⟩)
    all_goals first | (go_ret;exact⟨rfl,rfl⟩) | (exfalso;simp at *;omega)
   ·have hz:classZ r=0:=by unfold classZ;rw[if_neg hd,if_neg hs,if_neg hl]
    rw[hz];clear hz
    have c2:=letter_no r w hl
    go_enter func85,ntmps85
    go_wp2_with first | (go_at_call 172;refine c.mono ?_;rintro e w' ⟨rfl,rfl⟩) | (go_at_call 173;refine c2.mono ?_;rintro e w' ⟨rfl,rfl⟩)
    all_goals first | (go_ret;exact⟨rfl,rfl⟩) | (exfalso;simp at *;omega)
end
section
open _root_.Go.Proofs.Tryz
open Go.RowKit
theorem hasPrefix_any (s p:ByteArray) (w:World) :
  Calls prog 250 #[.string s,.string p] w fun e w'=>e=.returned (.bool (Lib.hasPrefix s.data.toList p.data.toList))∧w'=w :=
 Any.strings_HasPrefix more99 s p w
theorem indexByte_any (s:ByteArray) (c:Int) (w:World) :
  Calls prog 251 #[.string s,.int .u8 c] w fun e w'=>e=.returned (.int .i64 (Lib.indexByte s.data.toList c.toNat.toUInt8))∧w'=w :=
 Any.strings_IndexByte more137 s c w
theorem size_list (s:ByteArray):s.data.toList.length=s.size:=(Lib.size_eq s).symm
theorem emp (s:ByteArray):s.toList.isEmpty=decide (s.data.toList=[]):=by
 rw[← decide_eq_emptyBytes]
 refine decide_eq_decide.2 ⟨fun h=>by rw[h];rfl,fun h=>?_⟩
 obtain⟨⟨l⟩⟩:=s
 simp at h;subst h;rfl
theorem cells_of_alloc (w:World) (cs:Array Value) (t:TypeId) (i:Nat):(w.alloc (.cells cs t)).cell? ⟨w.heap.size,i,none⟩=cs[i]?:=by
 rw[Lib.cell_of_heap (alloc_at w _)]
theorem below_alloc (w:World) (o:Obj):Below w.heap.size w (w.alloc o):=(Below.refl _ _).alloc (Nat.le_refl _) _
structure Three (w:World) (g:Nat) (a b c:Value):Prop where
 lt:g<w.heap.size
 c0:w.cell? ⟨g,0,none⟩=some a
 c1:w.cell? ⟨g,1,none⟩=some b
 c2:w.cell? ⟨g,2,none⟩=some c
 f0:w.frozen? ⟨g,0,none⟩=false
 f1:w.frozen? ⟨g,1,none⟩=false
 f2:w.frozen? ⟨g,2,none⟩=false
theorem Three.later {w w':World} {g:Nat} {a b c:Value} (h:Three w g a b c) (hb:Below w.heap.size w w'):Three w' g a b c :=
 ⟨Nat.lt_of_lt_of_le h.lt hb.size,(hb.cell (p:=⟨g,0,none⟩) h.lt).trans h.c0,(hb.cell (p:=⟨g,1,none⟩) h.lt).trans h.c1,(hb.cell (p:=⟨g,2,none⟩) h.lt).trans h.c2,
  (hb.frozen (p:=⟨g,0,none⟩) h.lt).trans h.f0,(hb.frozen (p:=⟨g,1,none⟩) h.lt).trans h.f1,(hb.frozen (p:=⟨g,2,none⟩) h.lt).trans h.f2⟩
theorem Three.alloc {w:World} {g:Nat} {a b c:Value} (h:Three w g a b c) (o:Obj):Three (w.alloc o) g a b c:=h.later (below_alloc w o)
theorem Three.drew {w:World} {g:Nat} {a b c:Value} (h:Three w g a b c):Three w.drew g a b c:=⟨h.lt,h.c0,h.c1,h.c2,h.f0,h.f1,h.f2⟩
theorem Three.set {w:World} {g:Nat} {a b c:Value} (h:Three w g a b c) (u v z:Value):Three (((w.setCell ⟨g,0,none⟩ u).setCell ⟨g,1,none⟩ v).setCell ⟨g,2,none⟩ z) g u v z:=by
 obtain⟨hl,h0,h1,h2,f0,f1,f2⟩:=h
 refine⟨by simpa using hl,?_,?_,?_,?_,?_,?_⟩
 all_goals simp[h0,h1,h2,f0,f1,f2,go_sem]
theorem three_new (w:World) (a b c:Value) (t:TypeId):Three (w.alloc (.cells #[a,b,c] t)) w.heap.size a b c:=by
 have hk:w.heap.size<(w.alloc (.cells #[a,b,c] t)).heap.size:=by rw[alloc_size];omega
 refine⟨hk,?_,?_,?_,?_,?_,?_⟩
 ·rw[cells_of_alloc];rfl
 ·rw[cells_of_alloc];rfl
 ·rw[cells_of_alloc];rfl
 all_goals simp
theorem three_later {w w1:World} {a b c:Value} {t:TypeId} (hb:Below (w.alloc (.cells #[a,b,c] t)).heap.size (w.alloc (.cells #[a,b,c] t)) w1):Three w1 w.heap.size a b c:=(three_new w a b c t).later hb
theorem below_to {w w0 w1:World} (h:Below w.heap.size w w0) (hb:Below w0.heap.size w0 w1):Below w.heap.size w w1:=h.trans (hb.mono h.size)
theorem clone_any (s:ByteArray) (w:World) (h:s.size≤281474976710656) :
  Calls prog 50 #[.string s] w fun e w'=>e=.returned (.string s)∧Below w.heap.size w w':=by
 have c:=fun w=>Any.stringslite_Clone more316 s w h
 go_enter func50,ntmps50
 go_wp2_with fail
 refine (c _).mono ?_
 rintro e w1 ⟨rfl,hb⟩
 go_wp2
 go_ret
 exact⟨rfl,hb⟩
section
open Go.Lib Go.Shelf
structure Errs (w:World):Prop where
 syn:∃ t p,w.cell? ⟨5,0,none⟩=some (.iface t p)
 rng:∃ t p,w.cell? ⟨6,0,none⟩=some (.iface t p)
structure Env7 (w:World):Prop where
 tabs:Tabs w
 errs:Errs w
theorem Errs.later {w w':World} (h:Errs w) (hb:Below w.heap.size w w'):Errs w':=by
 obtain⟨⟨t,p,h1⟩,⟨u,q,h2⟩⟩:=h
 exact⟨⟨t,p,(hb.cell (p:=⟨5,0,none⟩) (lt_of_cell h1)).trans h1⟩,⟨u,q,(hb.cell (p:=⟨6,0,none⟩) (lt_of_cell h2)).trans h2⟩⟩
theorem Env7.later {w w':World} (h:Env7 w) (hb:Below w.heap.size w w'):Env7 w':=⟨h.tabs.later hb,h.errs.later hb⟩
theorem parse_any (t:ByteArray) (w:World) (hs:t.size≤1099511627776) (hE:Errs w) :
  Calls prog 175 #[.string t,.int .i64 10,.int .i64 64] w fun e w'=>((∃ v,parseIntB 64 t.data.toList=.ok v∧e=.returned (.tuple #[.int .i64 v,.nilIface]))∨(∃ v u a,(∀ z,parseIntB 64 t.data.toList≠.ok z)∧e=.returned (.tuple #[.int .i64 v,.iface u (.pointer (some a))])))∧Below w.heap.size w w':=by
 obtain⟨⟨u,p,h1⟩,⟨q,r,h2⟩⟩:=hE
 cases hp:parseIntB 64 t.data.toList with
 | ok v =>
  refine (Any.strconv_ParseInt_10_at64_ok more174 t (by omega) v hp w).mono ?_
  rintro e w' ⟨rfl,h | ⟨x,h⟩⟩
  ·exact⟨.inl ⟨v,rfl,rfl⟩,h ▸ Below.refl _ _⟩
  ·exact⟨.inl ⟨v,rfl,rfl⟩,by rw[h];exact Go.Joins.below_bytesWorld _ _ _ _ (Nat.le_refl _)⟩
 | range =>
  refine (Any.strconv_ParseInt_10_at64_range more174 t (by omega) hp _ w h2 (Or.inr ⟨_,_,rfl⟩)).mono ?_
  rintro e w' ⟨N,rfl,-,-,hb⟩
  exact⟨.inr ⟨_,_,_,(fun z h=>by cases h),rfl⟩,hb⟩
 | _ =>
  refine (Any.strconv_ParseInt_10_at64_syntax more174 t (by omega) hp _ w h1 (Or.inr ⟨_,_,rfl⟩)).mono ?_
  rintro e w' ⟨N,rfl,-,-,hb⟩
  exact⟨.inr ⟨_,_,_,(fun z h=>by cases h),rfl⟩,hb⟩
end
end
section
open _root_.Go.Proofs.Tryz
set_option maxHeartbeats 400000
open Go.RowKit
theorem validString_any (s:ByteArray) (w:World) (hs:s.size≤9223372036854775807) (hT:Tabs w) :
  Calls prog 231 #[.string s] w fun e w'=>e=.returned (.bool (validL s.data.toList))∧Below w.heap.size w w':=by
 have:=Any.utf8_ValidString more196 s w hs hT
 rw[validD_eq] at this
 exact this
theorem valid_any (s:ByteArray) (w:World) (hs:s.size≤9223372036854775807) (hT:Tabs w) :
  Calls prog 188 #[.string s] w fun e w'=>e=.returned (.bool (validL s.data.toList))∧Below w.heap.size w w':=by
 have c:=validString_any s w hs hT
 generalize validL s.data.toList=V at c ⊢
 go_enter func188,ntmps188
 go_wp2_with (go_at_call 231;refine c.mono ?_;rintro e w' ⟨rfl,hb⟩)
 go_ret
 exact⟨rfl,hb⟩
end
section
open Go.RowKit
theorem own_iterAt {w:World} {B:Nat} {e:TypeId} {z:Nat} {v:Value} {n:Nat} {xs:List Value} (h:w.ownsRow B e z v n xs) {k:Nat} {s:ByteArray} {pos:Nat} (hk:w.heap[k]?=some (.stringIter s pos)) (pos':Nat):(w.iterAt k s pos').ownsRow B e z v n xs:=by
 refine⟨h.1,?_⟩
 rcases h.2 with hn | ⟨g,cap,cur,hv,hbg,hg,rest⟩
 ·exact .inl hn
 ·have hkg:g≠k:=by intro e1;rw[e1,hk] at hg;cases hg
  exact .inr ⟨g,cap,cur,hv,hbg,(Lib.iterAt_other w k g s pos' hkg).trans hg,rest⟩
theorem own_later {w w':World} {B:Nat} {e:TypeId} {z:Nat} {v:Value} {n:Nat} {xs:List Value} (h:w.ownsRow B e z v n xs) (hb:Below w.heap.size w w'):w'.ownsRow B e z v n xs:=by
 refine⟨h.1,?_⟩
 rcases h.2 with hn | ⟨g,cap,cur,hv,hbg,hg,rest⟩
 ·exact .inl hn
 ·exact .inr ⟨g,cap,cur,hv,hbg,(hb.block g (Array.getElem?_eq_some_iff.1 hg).1).trans hg,rest⟩
theorem iter_ne {w:World} {B:Nat} {e:TypeId} {z:Nat} {v:Value} {n:Nat} {xs:List Value} (h:w.ownsRow B e z v n xs) {k:Nat} {s:ByteArray} {pos:Nat} (hk:w.heap[k]?=some (.stringIter s pos)):some k≠v.ownBlock:=by
 rcases h.2 with ⟨rfl,_⟩ | ⟨g,cap,cur,rfl,hbg,hg,rest⟩
 ·simp[Value.ownBlock]
 ·simp only[Value.ownBlock,ne_eq,Option.some.injEq]
  intro e1;rw[← e1,hk] at hg;cases hg
end
section
open _root_.Go.Proofs.Tryz
open Go.ChangeShapes Go.WideShapes Go.ChangeAt Go.RowKit
theorem own:ownKnob prog.godebug=none:=by kernel_rfl
theorem laidOut:laidOutB prog=true:=by kernel_rfl
def Bs (w:World) (A:Option Addr) (L:List UInt8):Prop:=0<L.length→∃ b off,A=some ⟨b,off,none⟩∧∀ j,j<L.length→w.cell? ⟨b,off+j,none⟩=some (.int .u8 ((L.getD j 0).toNat:Int))
theorem Bs.nil (w:World) (A:Option Addr):Bs w A []:=fun h=>absurd h (by decide)
theorem Bs.lt {w:World} {b off:Nat} {L:List UInt8} (h0:0<L.length) (h:∀ j,j<L.length→w.cell? ⟨b,off+j,none⟩=some (.int .u8 ((L.getD j 0).toNat:Int))):b<w.heap.size:=by
 have:=h 0 h0
 rcases Nat.lt_or_ge b w.heap.size with hlt | hge
 ·exact hlt
 ·simp[World.cell?,Array.getElem?_eq_none hge] at this
theorem Bs.below {w w':World} {A:Option Addr} {L:List UInt8} (h:Bs w A L) (hb:Below w.heap.size w w'):Bs w' A L:=fun h0=>by
 obtain⟨b,off,e,hc⟩:=h h0
 have hl:=Bs.lt h0 hc
 exact⟨b,off,e,fun j hj=>(hb.cell (p:=⟨b,off+j,none⟩) hl).trans (hc j hj)⟩
theorem Bs.drew {w:World} {A:Option Addr} {L:List UInt8} (h:Bs w A L):Bs w.drew A L:=h
end
section
open Go.ChangeShapes Go.WideShapes Go.ChangeAt Go.RowKit
def Els {α:Type} (f:α→Value) (d:α) (w:World) (A:Option Addr) (l:List α):Prop:=0<l.length→∃ b off,A=some ⟨b,off,none⟩∧∀ j,j<l.length→w.cell? ⟨b,off+j,none⟩=some (f (l.getD j d))
section
variable {α:Type} {f:α→Value} {d:α} {w w':World} {A:Option Addr} {l:List α}
theorem Els.nil (w:World) (A:Option Addr):Els f d w A []:=fun h=>absurd h (by simp)
theorem Els.below (h:Els f d w A l) (hb:Below w.heap.size w w'):Els f d w' A l:=fun h0=>by
 obtain⟨b,off,e,hc⟩:=h h0
 have hl:b<w.heap.size:=by
  have:=hc 0 h0
  rcases Nat.lt_or_ge b w.heap.size with hlt | hge
  ·exact hlt
  ·simp[World.cell?,Array.getElem?_eq_none hge] at this
 exact⟨b,off,e,fun j hj=>(hb.cell (p:=⟨b,off+j,none⟩) hl).trans (hc j hj)⟩
theorem Els.of_cells {a:Addr} {zs:List α} {len:Nat} (hl:len≤zs.length) (hc:∀ i,i<zs.length→w.cell? (a.add i)=some (f (zs.getD i d))):Els f d w (some a) (zs.take len):=fun h0=>by
 rw[List.length_take] at h0
 obtain⟨b,off,spot⟩:=a
 have hspot:spot=none:=by simpa[Addr.add] using World.cell?_spot (hc 0 (by omega))
 subst hspot
 refine⟨b,off,rfl,fun j hj=>?_⟩
 rw[List.length_take] at hj
 have h2:=hc j (by omega)
 rw[add_plain] at h2
 rw[h2,List.getD_eq_getElem?_getD,List.getD_eq_getElem?_getD,List.getElem?_take,if_pos (by omega)]
end
abbrev Is (w:World) (A:Option Addr) (Z:List Int):Prop:=Els (fun z=>.int .i64 z) 0 w A Z
abbrev Ts (w:World) (A:Option Addr) (S:List ByteArray):Prop:=Els (fun s=>.string s) ByteArray.empty w A S
theorem open_texts {H:Type} {enc:TypeId × Value→H} {P:Program} {w:World} {base:Nat} {t e:TypeId} {v:Value} {d:DataW H} {p:List MemPlace} (ht:P.underlying t=some (.slice e)) (he:P.underlying e=some .string) (hc:P.cellsOf e=1)
  (hval:Value.okWide P w .any base t v) (h:DataW.Trod enc P w 0 (fun _=>true) true t v d p) :
  ∃ (A:Option Addr) (S X:List ByteArray) (cap:Nat),v=.slice A S.length cap∧S.length≤cap∧Ts w A S∧(d=.nil∧S=[]∨d=.slice (strs S) (strs X)∧cap=S.length+X.length)∧(A=none→cap=0):=by
 obtain⟨a0,len0,cap0,rfl⟩:=okWide_slice ht hval
 obtain⟨fuel,hf⟩:=h
 rcases open_strings ht he hc hf with ⟨hcs,hx⟩ | ⟨a,len,cap,zs,hcs,_,hl,hm,hz,hx,hcell,hwz⟩
 ·simp[Value.cells] at hcs
  obtain⟨rfl,rfl,rfl⟩:=hcs
  simp only[Prod.mk.injEq] at hx
  exact⟨none,[],[],0,rfl,Nat.le_refl _,Els.nil _ _,.inl ⟨hx.1,rfl⟩,fun _=>rfl⟩
 ·simp[Value.cells] at hcs
  obtain⟨rfl,rfl,rfl⟩:=hcs
  simp only[Prod.mk.injEq] at hx
  obtain⟨rfl,rfl⟩:=hx
  simp only[if_true] at hz
  have hlen:(zs.take len0).length=len0:=by rw[List.length_take];omega
  exact⟨some a,zs.take len0,zs.drop len0,cap0,by rw[hlen],by omega,Els.of_cells (by omega) hcell,.inr ⟨rfl,by rw[hlen,List.length_drop];omega⟩,fun h=>by cases h⟩
end
end Go.Proofs.YtbbblmedoagncaaGreatDoor
