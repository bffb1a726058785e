/- UpM, Up, EvM -/
import Derived.Test.YtbbblmedoagncaaGreatDoorSGA
import Derived.Test.YtbbblmedoagncaaGreatDoorSGB
import Derived.Test.YtbbblmedoagncaaGreatDoorSGG
import Derived.Shelf.Unicode.DecodeAny
import Derived.BigCall
import Derived.Lib.OthersKept
namespace Go.Proofs.YtbbblmedoagncaaGreatDoor
section
open Go.Lib
def LowP (r:Int):Prop:=(97≤r∧r≤122)∨(224≤r∧r≤246)∨(248≤r∧r≤254)∨(945≤r∧r≤961)∨(963≤r∧r≤969)∨(1072≤r∧r≤1103)
instance (r:Int):Decidable (LowP r):=by unfold LowP;infer_instance
def upperZ (r:Int):Int:=if LowP r then r - 32 else if r=962 then 931 else r
theorem upper_low {r:Int} (h:LowP r):upperZ r=r - 32:=by unfold upperZ;rw[if_pos h]
theorem upper_same {r:Int} (h:¬ LowP r) (h2:r≠962):upperZ r=r:=by unfold upperZ;rw[if_neg h,if_neg h2]
theorem upper_962:upperZ 962=931:=by decide
def foldPc (x:Pc):List UInt8:=if x.1=65533 then x.2 else Lib.encodeRune (upperZ x.1)
def foldL (l:List UInt8):List UInt8:=(pcs l).flatMap foldPc
theorem foldL_nil:foldL []=[]:=rfl
theorem foldL_step (l:List UInt8) (hne:l≠[]):foldL l=foldPc ((Lib.decodeL l).1,l.take (Lib.decodeL l).2)++foldL (l.drop (Lib.decodeL l).2):=by
 unfold foldL;rw[pcs_step l hne];simp
def foldP (x:Pc):Pc:=if bad x then x else ((upperZ x.1).toNat,encodeRune (upperZ x.1))
theorem scalar_upper (r:Int) (h:Scalar r):Scalar (upperZ r):=by
 unfold Scalar at *
 unfold upperZ
 split
 ·rename_i h2;unfold LowP at h2;omega
 ·split<;>omega
theorem foldPc_eq (l:List UInt8) (hne:l≠[]):foldPc ((decodeL l).1,l.take (decodeL l).2)=(foldP ((decodeL l).1,l.take (decodeL l).2)).2:=by
 unfold foldPc foldP
 by_cases hb:bad ((decodeL l).1,l.take (decodeL l).2)
 ·rw[if_pos hb,if_pos hb.1]
 ·rw[if_neg hb]
  by_cases h:(decodeL l).1=65533
  ·rw[if_pos h]
   have:=encode_decode l hne (fun x=>hb ((bad_iff l hne).2 x))
   dsimp only
   rw[← this,h]
   have e:upperZ ((65533:Nat):Int)=((65533:Nat):Int):=by decide
   rw[e]
  ·rw[if_neg h]
theorem foldP_solid (l:List UInt8) (hb:¬ bad ((decodeL l).1,l.take (decodeL l).2)):Solid (foldP ((decodeL l).1,l.take (decodeL l).2)):=by
 unfold foldP;rw[if_neg hb]
 exact solid_encode _ (scalar_upper _ (scalar_of l))
theorem encode_head (r:Int) (h:Scalar r):((encodeRune r).getD 0 0).toNat / 64≠2:=by
 have:=(solid_encode r h).2 []
 rw[List.append_nil] at this
 intro hc
 rw[decodeL_N,decodeN_cont _ _ _ _ _ hc] at this
 simp only[Prod.mk.injEq] at this
 have h2:=this.2
 have h1:r=65533:=by unfold Scalar at h;omega
 subst h1
 revert h2;decide
theorem getD_app_first (a t:List UInt8) (h:a≠[]):(a++t).getD 0 0=a.getD 0 0:=getD_app_left a t 0 (List.length_pos_iff.2 h)
theorem bad_split (l:List UInt8) (hne:l≠[]) (hb:bad ((decodeL l).1,l.take (decodeL l).2)):∃ c r,l=c :: r∧decodeL l=(65533,1)∧l.take (decodeL l).2=[c]∧l.drop (decodeL l).2=r:=by
 obtain⟨h1,h2⟩:=(bad_iff l hne).1 hb
 cases l with
 | nil=>exact absurd rfl hne
 | cons c r=>exact⟨c,r,rfl,Prod.ext h1 h2,by rw[h2];rfl,by rw[h2];rfl⟩
theorem fold_conts (y:List UInt8):∀ k,(∀ j,j<k→j<(foldL y).length∧((foldL y).getD j 0).toNat / 64=2)→∀ j,j<k→j<y.length∧y.getD j 0=(foldL y).getD j 0:=by
 induction y using pcs_induct with
 | h0=>intro k h j hj;have:=(h j hj).1;rw[foldL_nil] at this;simp at this
 | h1 y hne ih =>
  intro k h j hj
  have h00:=h 0 (by omega)
  rw[foldL_step y hne] at h00
  by_cases hb:bad ((decodeL y).1,y.take (decodeL y).2)
  ·obtain⟨c,r,rfl,hd,ht,hr⟩:=bad_split y hne hb
   have e:foldL (c :: r)=c :: foldL r:=by
    rw[foldL_step _ hne,ht,hr,hd]
    unfold foldPc;rw[if_pos rfl];rfl
   rw[e] at h ⊢
   cases j with
   | zero=>exact⟨by simp,rfl⟩
   | succ j =>
    rw[hr] at ih
    have:=ih (k - 1) (fun i hi=>by
     have:=h (i+1) (by omega)
     simpa using this) j (by omega)
    simpa using this
  ·exfalso
   have hs:=foldP_solid y hb
   rw[foldPc_eq y hne] at h00
   rw[getD_app_first _ _ hs.1] at h00
   have hh:=h00.2
   unfold foldP at hh
   rw[if_neg hb] at hh
   exact encode_head _ (scalar_upper _ (scalar_of y)) hh
theorem bad_stays (c : UInt8) (r : List UInt8) (h : decodeL (c :: r) = (65533, 1)) : decodeL (c :: foldL r) = (65533, 1) := by
  have g1 : ∀ (t : List UInt8) k, (c :: t).getD (k + 1) 0 = t.getD k 0 := fun t k => by simp [List.getD]
  have g0 : ∀ t : List UInt8, (c :: t).getD 0 0 = c := fun t => rfl
  rw [decodeL_N] at h ⊢
  rw [g0, show (1 : Nat) = 0 + 1 from rfl, g1, show (2 : Nat) = 1 + 1 from rfl, g1, show (3 : Nat) = 2 + 1 from rfl, g1] at h
  rw [g0, show (1 : Nat) = 0 + 1 from rfl, g1, show (2 : Nat) = 1 + 1 from rfl, g1, show (3 : Nat) = 2 + 1 from rfl, g1]
  simp only [List.length_cons] at h ⊢
  have hc := fold_conts r
  rcases decodeN_shape ((foldL r).length + 1) c.toNat ((foldL r).getD 0 0).toNat ((foldL r).getD 1 0).toNat ((foldL r).getD 2 0).toNat with ⟨a, e⟩ | ⟨a1, a2, a3, av, e⟩ | ⟨a1, a2, a3, a4, av, asr, e⟩ | ⟨a1, a2, a3, a4, a5, av, aw, e⟩ | e
  · rw [decodeN_one _ _ _ _ _ a] at h; simp only [Prod.mk.injEq] at h; omega
  · have k := hc 1 (fun j hj => by obtain rfl : j = 0 := by omega
                                   exact ⟨by omega, a3⟩)
    have k0 := k 0 (by omega)
    rw [← k0.2] at a3 av
    rw [decodeN_two _ _ _ _ _ a1 (by omega) a3 av] at h; simp only [Prod.mk.injEq] at h; omega
  · have k := hc 2 (fun j hj => by rcases (by omega : j = 0 ∨ j = 1) with rfl | rfl
                                   · exact ⟨by omega, a3⟩
                                   · exact ⟨by omega, a4⟩)
    have k0 := k 0 (by omega)
    have k1 := k 1 (by omega)
    rw [← k0.2] at a3 av asr; rw [← k1.2] at a4 av asr
    rw [decodeN_three _ _ _ _ _ a1 (by omega) a3 a4 av asr] at h; simp only [Prod.mk.injEq] at h; omega
  · have k := hc 3 (fun j hj => by rcases (by omega : j = 0 ∨ j = 1 ∨ j = 2) with rfl | rfl | rfl
                                   · exact ⟨by omega, a3⟩
                                   · exact ⟨by omega, a4⟩
                                   · exact ⟨by omega, a5⟩)
    have k0 := k 0 (by omega)
    have k1 := k 1 (by omega)
    have k2 := k 2 (by omega)
    rw [← k0.2] at a3 av aw; rw [← k1.2] at a4 av aw; rw [← k2.2] at a5 av aw
    rw [decodeN_four _ _ _ _ _ a1 (by omega) a3 a4 a5 av aw] at h; simp only [Prod.mk.injEq] at h; omega
  · exact e
theorem pcs_fold (l:List UInt8):pcs (foldL l)=(pcs l).map foldP:=by
 induction l using pcs_induct with
 | h0=>rfl
 | h1 l hne ih =>
  rw[pcs_step l hne,List.map_cons,foldL_step l hne]
  by_cases hb:bad ((decodeL l).1,l.take (decodeL l).2)
  ·obtain⟨c,r,rfl,hd,ht,hr⟩:=bad_split l hne hb
   rw[hr] at ih
   rw[ht,hr,hd]
   have e1:foldPc (((65533,1):Nat × Nat).1,[c])=[c]:=by unfold foldPc;rw[if_pos rfl]
   have e2:foldP (((65533,1):Nat × Nat).1,[c])=(65533,[c]):=by unfold foldP;rw[if_pos ⟨rfl,rfl⟩]
   rw[e1,e2]
   show pcs (c :: foldL r)=_
   have hd2:=bad_stays c r hd
   rw[pcs_step _ (by simp),hd2,← ih]
   rfl
  ·rw[foldPc_eq l hne,pcs_cons_solid _ _ (foldP_solid l hb),ih]
theorem upper_nonneg (r:Nat):0≤upperZ (r:Int):=by
 unfold upperZ
 split
 ·rename_i h;unfold LowP at h;omega
 ·split<;>omega
theorem foldP_bad (x:Pc):bad (foldP x)↔bad x:=by
 unfold foldP
 by_cases hb:bad x
 ·rw[if_pos hb]
 ·rw[if_neg hb]
  refine⟨fun h=>?_,fun h=>absurd h hb⟩
  exfalso
  have h1:=h.1
  have h2:=h.2
  dsimp only at h1 h2
  have h0:=upper_nonneg x.1
  have e:upperZ (x.1:Int)=65533:=by omega
  rw[e] at h2
  revert h2;decide
theorem count_fold (l:List UInt8):countL (foldL l)=countL l:=by unfold countL;rw[pcs_fold,List.length_map]
theorem valid_fold (l:List UInt8):validL (foldL l)=validL l:=by
 unfold validL;rw[pcs_fold,List.all_map]
 congr 1;funext x
 simp only[Function.comp,foldP_bad x]
end
section
open Lib (hid)
open _root_.Go.Proofs.Tryz
set_option maxHeartbeats 400000
open Go.RowKit
theorem decodeGo_tail (s:ByteArray) (pos:Nat) (h:pos<s.size):Lib.decodeGo (s.extract pos s.size)=Utf8.decode s pos:=by
 have hsz:(s.extract pos s.size).size≠0:=by rw[Lib.size_eq,tailList,List.length_drop,← Lib.size_eq];omega
 unfold Lib.decodeGo
 rw[if_neg hsz,← Lib.decodeL_drop s pos,← tailList]
 rfl
theorem decodeRune_any (s:ByteArray) (w:World) (hT:Tabs w) :
  Calls prog 256 #[.string s] w fun e w'=>e=.returned (.tuple #[.int .i32 (Lib.decodeGo s).1,.int .i64 (Lib.decodeGo s).2])∧Below w.heap.size w w' :=
 Any.utf8_DecodeRuneInString more197 s w hT
theorem width_any (s:ByteArray) (w:World) (hT:Tabs w) :
  Calls prog 208 #[.string s] w fun e w'=>e=.returned (.int .i64 (Lib.decodeGo s).2)∧Below w.heap.size w w':=by
 have c:=decodeRune_any s w hT
 generalize (Lib.decodeGo s).1=R at c
 generalize (Lib.decodeGo s).2=K at c ⊢
 go_enter func208,ntmps208
 go_wp2_with (go_at_call 256;refine c.mono ?_;rintro e w' ⟨rfl,hb⟩)
 go_ret
 exact⟨rfl,hb⟩
theorem width_at (s:ByteArray) (pos:Nat) (h:pos<s.size) (w:World) (hT:Tabs w) :
  Calls prog 208 #[.string (s.extract pos s.size)] w fun e w'=>e=.returned (.int .i64 (Utf8.decode s pos).2)∧Below w.heap.size w w':=by
 have:=width_any (s.extract pos s.size) w hT
 rw[decodeGo_tail s pos h] at this
 exact this
theorem bGrow (B b n:Nat) (w:World) (hB:B≤b) (hbk:w.heap[b]?=some (.cells #[.pointer none,.slice none 0 0] 200 (0,0))) (hBw:B≤w.heap.size) (hn:n≤281474976710656) :
  Calls prog 159 #[.pointer (some ⟨b,0,none⟩),.int .i64 n] w fun e w'=>e=.returned (.tuple #[])∧(Lib.IsBuilderF 200 5 B b [] w'∧Below B w w') :=
 (Any.Builder_Grow_fresh more165 Tryz.extraB B b n w hB hbk hBw hn).mono fun _ _ ⟨he,hb,hw⟩=>⟨he,Lib.IsBuilderF.of (.inr hb),hw⟩
theorem upper_any (r:Int) (w:World):Calls prog 209 #[.int .i32 r] w fun e w'=>e=.returned (.int .i32 (upperZ r))∧w=w':=by
 go_enter func209,ntmps209
 go_wp2
 all_goals
  go_ret
  refine⟨ret_int ?_,rfl⟩
  try simp only[beq_iff_eq,beq_eq_false_iff_ne,ne_eq] at *
  first
  | exact (upper_low (by unfold LowP;omega)).symm
  | exact (upper_same (by unfold LowP;omega) (by omega)).symm
  | (subst r;exact upper_962.symm)
theorem foldL_at (s:ByteArray) (pos:Nat) (h:pos<s.size) :
  foldL (s.data.toList.drop pos)=foldPc ((Utf8.decode s pos).1,(s.data.toList.drop pos).take (Utf8.decode s pos).2)++foldL (s.data.toList.drop (pos+(Utf8.decode s pos).2)):=by
 rw[foldL_step _ (drop_ne s pos h),Lib.decodeL_drop,List.drop_drop]
theorem upperZ_range (r:Int) (h0:0≤r) (h1:r≤1114111):0≤upperZ r∧upperZ r≤1114111:=by
 unfold upperZ
 split
 ·rename_i h;unfold LowP at h;omega
 ·split<;>omega
def FoldRel (s:ByteArray) (B K:Nat) (w wr:World) (pos:Nat) (acc:List UInt8):Prop :=
 Lib.IsBuilderF 200 5 B B (Lib.byteCells acc) wr∧wr.heap[K]?=some (.stringIter s pos)∧Below B w wr∧acc++foldL (s.data.toList.drop pos)=foldL s.data.toList∧acc.length≤4 * pos∧pos≤s.size
theorem fold_bad (s:ByteArray) (pos:Nat) (h:(Utf8.decode s pos).1=65533) (acc:List UInt8) :
  Lib.byteCells acc++Lib.strCells (s.extract pos (pos+(Utf8.decode s pos).2))=Lib.byteCells (acc++foldPc ((Utf8.decode s pos).1,(s.data.toList.drop pos).take (Utf8.decode s pos).2)):=by
 rw[strCells_bytes,Lib.byteCells_append,Lib.extract_data]
 unfold foldPc;rw[if_pos h,Nat.add_sub_cancel_left]
theorem fold_good (s:ByteArray) (pos:Nat) (h:¬ (Utf8.decode s pos).1=65533) (acc:List UInt8) :
  Lib.byteCells acc++Lib.runeCells (upperZ (Utf8.decode s pos).1)=Lib.byteCells (acc++foldPc ((Utf8.decode s pos).1,(s.data.toList.drop pos).take (Utf8.decode s pos).2)):=by
 rw[Lib.byteCells_append]
 unfold foldPc;rw[if_neg h,Lib.byteCells_encodeRune]
theorem foldPc_len (s:ByteArray) (pos:Nat):(foldPc ((Utf8.decode s pos).1,(s.data.toList.drop pos).take (Utf8.decode s pos).2)).length≤4:=by
 unfold foldPc
 split
 ·have:=width_four s pos;simp only[List.length_take];omega
 ·have:=Lib.runeCells_le (upperZ (Utf8.decode s pos).1);rw[Lib.runeCells_length] at this;exact this.2
theorem fold_any (s:ByteArray) (w:World) (hs:s.size≤17592186044416) (hT:Tabs w) :
  Calls prog 125 #[.string s] w fun e w'=>e=.returned (.string ⟨(foldL s.data.toList).toArray⟩)∧Below w.heap.size w w':=by
 go_enter func125,ntmps125
 go_wp2_with (go_at_call 159;refine (bGrow w.heap.size w.heap.size s.size _ (Nat.le_refl _) ?hb ?hl (by omega)).mono ?_)
 case hb=>exact alloc_at w _
 case hl=>rw[alloc_size];omega
 rintro e wG ⟨rfl,hG,hbG0⟩
 have hbG:Below w.heap.size w wG:=((Below.refl _ w).alloc (Nat.le_refl _) _).trans hbG0
 have hK0:w.heap.size<wG.heap.size:=by
  obtain⟨_,v,hv,_⟩ | ⟨_,v,hv,_⟩:=hG
  all_goals exact (Array.getElem?_eq_some_iff.1 hv).1
 clear hbG0
 have h0:FoldRel s w.heap.size wG.heap.size w (wG.iter s 0) 0 [] :=
  ⟨hG.alloc _,World.iter_heap wG s 0,hbG.alloc (by omega) _,rfl,by simp,by omega⟩
 clear hG hbG
 go_wp2
 go_loopw [] (fun wr=>∃ pos acc,FoldRel s w.heap.size wG.heap.size w wr pos acc) (fun wr=>s.size - wr.iterPos wG.heap.size)
 case atStart=>exact⟨0,[],h0⟩
 case round =>
  obtain⟨pos,acc,hI,hit,hbw,hacc,hal,hps⟩:=hrel
  have hsz:wG.heap.size<wr.heap.size:=(Array.getElem?_eq_some_iff.1 hit).1
  have hTr:Tabs wr:=hT.later hbw
  by_cases hp:pos<s.size
  ·have hnx:∀ ty,(Instr.next (.pointer (some ⟨wG.heap.size,0,none⟩)) true ty).run prog wr=_:=fun ty=>Lib.run_next_any_at wr wG.heap.size s pos ty hit hp
   obtain⟨hw1,hw2⟩:=width_in s pos hp
   have hw4:=width_four s pos
   have hr:=Lib.rune_le s pos
   have hI2:=hI.iterAt hit (pos+(Utf8.decode s pos).2)
   have hit2:=Lib.iterAt_heap wr wG.heap.size s pos (pos+(Utf8.decode s pos).2) hit
   have hbw2:=Lib.below_iterAt hbw (k:=wG.heap.size) (by omega) s (pos+(Utf8.decode s pos).2)
   have hsz2:w.heap.size≤(wr.iterAt wG.heap.size s (pos+(Utf8.decode s pos).2)).heap.size:=by rw[Lib.iterAt_size];omega
   have hTr2:Tabs (wr.iterAt wG.heap.size s (pos+(Utf8.decode s pos).2)):=hT.later hbw2
   have hst:=hid (foldL_at s pos hp)
   have hlen:=hid (foldPc_len s pos)
   have hacc':=hid hacc
   have HIT:=hid hit
   clear hacc hI hit hbw hTr
   by_cases hb:(Utf8.decode s pos).1=65533
   ·have hbb:(((Utf8.decode s pos).1:Int) == 65533)=true:=by rw[hb];rfl
    have hfp:=hid (fold_bad s pos hb acc)
    have HB:=hid hb
    clear hb
    go_wp2_with fail
    refine (width_at s pos hp _ hTr2).mono ?_
    rintro e w1 ⟨rfl,hb1⟩
    have hI3:=builder_later hI2 hb1
    have hit3:=(hb1.block wG.heap.size (Array.getElem?_eq_some_iff.1 hit2).1).trans hit2
    have hbw3:=hbw2.trans (hb1.mono hsz2)
    have hsz3:w.heap.size≤w1.heap.size:=Nat.le_trans hsz2 hb1.size
    have hex:(s.extract pos (pos+(Utf8.decode s pos).2)).size≤4:=by rw[ByteArray.size_extract];omega
    clear hI2 hit2 hbw2 hb1 hTr2
    go_wp2_with fail
    refine (bWriteString w.heap.size w.heap.size _ (s.extract pos (pos+(Utf8.decode s pos).2)) _ hI3 (by rw[Lib.byteCells_length];omega) hsz3).mono ?_
    rintro e w2 ⟨rfl,h1,b1,k1⟩
    rw[hfp.out] at h1
    have hit4:=k1.iter hit3 (by omega)
    go_wp2
    go_roundw
    case rel =>
     refine⟨pos+(Utf8.decode s pos).2,_,Or.inr h1,hit4,hbw3.trans b1,?_,?_,hw2⟩
     ·rw[List.append_assoc,← hst.out];exact hacc'.out
     ·have:=hlen.out;rw[List.length_append];omega
    case measure =>
     simp only[World.iterPos,hit4,HIT.out]
     omega
   ·have hbb:(((Utf8.decode s pos).1:Int) == 65533)=false:=beq_eq_false_iff_ne.2 (by omega)
    have hfp:=hid (fold_good s pos hb acc)
    have hu:=upperZ_range ((Utf8.decode s pos).1:Int) (by omega) (by omega)
    clear hb hTr2
    go_wp2_with fail
    refine (upper_any _ _).mono ?_
    rintro e w1 ⟨rfl,rfl⟩
    go_wp2_with fail
    refine (bWriteRune w.heap.size w.heap.size _ _ (by omega) (by omega) _ hI2 (by rw[Lib.byteCells_length];omega) hsz2).mono ?_
    rintro e w2 ⟨rfl,h1,b1,k1⟩
    rw[hfp.out] at h1
    have hit4:=k1.iter hit2 (by omega)
    go_wp2
    go_roundw
    case rel =>
     refine⟨pos+(Utf8.decode s pos).2,_,Or.inr h1,hit4,hbw2.trans b1,?_,?_,hw2⟩
     ·rw[List.append_assoc,← hst.out];exact hacc'.out
     ·have:=hlen.out;rw[List.length_append];omega
    case measure =>
     simp only[World.iterPos,hit4,HIT.out]
     omega
  ·have hnx:∀ ty,(Instr.next (.pointer (some ⟨wG.heap.size,0,none⟩)) true ty).run prog wr=_:=fun ty=>Lib.run_next_end_at wr wG.heap.size s pos ty hit hp
   have hacc':=hid hacc
   clear hacc
   go_wp2_with fail
   refine (bString w.heap.size w.heap.size acc _ hI (by omega)).mono ?_
   rintro e w1 ⟨rfl,_,b1,_⟩
   go_wp2
   go_ret
   have:=hacc'.out
   rw[drop_nil s pos hp,foldL_nil,List.append_nil] at this
   subst this
   exact⟨rfl,hbw.trans b1⟩
end
section
structure Va where
 k:Int
 n:Int
 s:List UInt8
def blankV:Va:=⟨0,0,[]⟩
def badV (n:Int):Va:=⟨4,n,[]⟩
def numV (n:Int):Va:=if -9223372036854775808≤n∧n≤9223372036854775807 then ⟨1,n,[]⟩ else badV 1
def truV (b:Bool):Va:=⟨2,if b then 1 else 0,[]⟩
def texV (s:List UInt8):Va:=if 100<countL s then badV 4 else ⟨3,0,s⟩
def wrongV (a:Va):Va:=if a.k=4 then a else badV 3
def wantV (K:Int) (a f:Va):Va:=if a.k=K then f else wrongV a
def numOp (op a b:Int):Va :=
 if op=7 then numV (a+b) else if op=8 then numV (a - b) else if op=9 then numV (a * b)
 else if b=0 then badV 2 else if op=10 then numV (Int.tdiv a b) else numV (Int.tmod a b)
def holdB (op:Int) (lt eq:Bool):Bool:=if op=12 then eq else if op=13 then !eq else if op=14 then lt else lt || eq
def cmpV (op:Int) (a b:Va):Va :=
 if a.k=1 then wantV 1 b (truV (holdB op (decide (a.n<b.n)) (decide (a.n=b.n))))
 else if a.k=3 then wantV 3 b (truV (holdB op (decide (a.s<b.s)) (decide (a.s=b.s))))
 else if a.k=2 then (if op=14∨op=15 then badV 3 else wantV 2 b (truV (holdB op false (decide (a.n=b.n)))))
 else wrongV a
def hasV (a:Va):Bool:=decide (a.k≠0∧a.k≠4)
def opV (op:Int) (vs:List Va):Va :=
 let a:=vs.getD 0 blankV
 let b:=vs.getD 1 blankV
 let c:=vs.getD 2 blankV
 if op=5 then wantV 1 a (numV (0 - a.n))
 else if 7≤op∧op≤11 then wantV 1 a (wantV 1 b (numOp op a.n b.n))
 else if op=6 then wantV 2 a (truV (decide (a.n≠1)))
 else if op=16 then wantV 2 a (if a.n=1 then wantV 2 b b else a)
 else if op=17 then wantV 2 a (if a.n=1 then a else wantV 2 b b)
 else if 12≤op∧op≤15 then cmpV op a b
 else if op=18 then wantV 2 a (if a.n=1 then b else c)
 else if op=19 then wantV 3 a ⟨1,(countL a.s:Int),[]⟩
 else if op=20 then wantV 3 a (wantV 3 b (texV (a.s++b.s)))
 else if op=21 then wantV 3 a (wantV 1 b ⟨3,0,cutL a.s b.n.toNat⟩)
 else if op=23 then wantV 3 a (texV (foldL a.s))
 else blankV
def nameV:List ByteArray→List Va→ByteArray→Va
 | [],_,_=>blankV
 | _ :: _,[],_=>blankV
 | n :: ns,v :: vs,s=>if n=s then (if checkB v.k v.n v.s then v else blankV) else nameV ns vs s
def strAt (ks:List Ex):List UInt8:=match ks with | []=>[] | k :: _=>k.str
mutual
def evalE (N:List ByteArray) (V:List Va):Ex→Va
 | .mk op n s ks=>if op=1 then ⟨1,n,[]⟩ else if op=2 then ⟨3,0,s⟩ else if op=3 then ⟨2,n,[]⟩ else if op=4 then nameV N V ⟨s.toArray⟩
  else if op=22 then truV (hasV (nameV N V ⟨(strAt ks).toArray⟩)) else opV op (evalL N V ks)
def evalL (N:List ByteArray) (V:List Va):List Ex→List Va
 | []=>[]
 | e :: es=>evalE N V e :: evalL N V es
end
def Va.ok (a:Va):Prop:=checkB a.k a.n a.s=true∧-9223372036854775808≤a.n∧a.n≤9223372036854775807
theorem ok_blank:blankV.ok:=⟨by decide,by decide,by decide⟩
theorem ok_bad {n:Int} (h1:1≤n) (h2:n≤4):(badV n).ok:=⟨by simp[badV,checkB,h1,h2],by show _≤n;omega,by show n≤_;omega⟩
theorem ok_num (n:Int):(numV n).ok:=by
 unfold numV
 split
 ·rename_i h;exact⟨by simp[checkB],h.1,h.2⟩
 ·exact ok_bad (by decide) (by decide)
theorem ok_tru (b:Bool):(truV b).ok:=by cases b<;>exact⟨by decide,by decide,by decide⟩
theorem ok_tex {s:List UInt8} (h:validL s=true):(texV s).ok:=by
 unfold texV
 split
 ·exact ok_bad (by decide) (by decide)
 ·rename_i hc;exact⟨by simp[checkB,h];omega,by show _≤(0:Int);decide,by show (0:Int)≤_;decide⟩
theorem ok_wrong {a:Va} (h:a.ok):(wrongV a).ok:=by
 unfold wrongV
 split
 ·exact h
 ·exact ok_bad (by decide) (by decide)
theorem ok_want {K:Int} {a f:Va} (ha:a.ok) (hf:a.k=K→f.ok):(wantV K a f).ok:=by
 unfold wantV
 split
 ·rename_i h;exact hf h
 ·exact ok_wrong ha
theorem Va.ok.text {a:Va} (h:a.ok) (hk:a.k=3):validL a.s=true∧countL a.s≤100∧a.n=0:=by
 obtain⟨k,n,s⟩:=a
 obtain rfl:k=3:=hk
 rcases check_kind h.1 with h | h | h | h | h
 ·exact absurd (show (3:Int)=0 from h.1) (by decide)
 ·exact absurd (show (3:Int)=1 from h.1) (by decide)
 ·exact absurd (show (3:Int)=2 from h.1) (by decide)
 ·exact⟨h.2.2.1,h.2.2.2,h.2.1⟩
 ·exact absurd (show (3:Int)=4 from h.1) (by decide)
theorem Va.ok.truth {a:Va} (h:a.ok) (hk:a.k=2):(a.n=0∨a.n=1)∧a.s=[]:=by
 obtain⟨k,n,s⟩:=a
 obtain rfl:k=2:=hk
 rcases check_kind h.1 with h | h | h | h | h
 ·exact absurd (show (2:Int)=0 from h.1) (by decide)
 ·exact absurd (show (2:Int)=1 from h.1) (by decide)
 ·exact h.2
 ·exact absurd (show (2:Int)=3 from h.1) (by decide)
 ·exact absurd (show (2:Int)=4 from h.1) (by decide)
theorem Va.ok.num {a:Va} (h:a.ok) (hk:a.k=1):a.s=[]:=by
 obtain⟨k,n,s⟩:=a
 obtain rfl:k=1:=hk
 rcases check_kind h.1 with h | h | h | h | h
 ·exact absurd (show (1:Int)=0 from h.1) (by decide)
 ·exact h.2
 ·exact absurd (show (1:Int)=2 from h.1) (by decide)
 ·exact absurd (show (1:Int)=3 from h.1) (by decide)
 ·exact absurd (show (1:Int)=4 from h.1) (by decide)
theorem ok_numOp (op a b:Int):(numOp op a b).ok:=by
 unfold numOp
 repeat' split
 all_goals first | exact ok_num _ | exact ok_bad (by decide) (by decide)
theorem ok_cmp (op:Int) {a b:Va} (ha:a.ok) (hb:b.ok):(cmpV op a b).ok:=by
 unfold cmpV
 repeat' split
 all_goals first | exact ok_want hb (fun _=>ok_tru _) | exact ok_bad (by decide) (by decide) | exact ok_wrong ha
theorem ok_name (N:List ByteArray) (V:List Va) (s:ByteArray) (hV:∀ v ∈ V,-9223372036854775808≤v.n∧v.n≤9223372036854775807):(nameV N V s).ok:=by
 induction N generalizing V with
 | nil=>rw[nameV];exact ok_blank
 | cons n ns ih =>
  cases V with
  | nil=>rw[nameV];exact ok_blank
  | cons v vs =>
   rw[nameV]
   split
   ·split
    ·rename_i h;exact⟨h,hV v (List.mem_cons_self ..)⟩
    ·exact ok_blank
   ·exact ih vs (fun v hv=>hV v (List.mem_cons_of_mem _ hv))
theorem valid_app {a b:List UInt8} (ha:validL a=true) (hb:validL b=true):validL (a++b)=true:=by
 have e:=pcs_append a b ha
 unfold validL at *
 rw[e,List.all_append,ha,hb];rfl
theorem valid_cutL {a:List UInt8} (n:Nat) (ha:validL a=true):validL (cutL a n)=true:=by
 unfold validL at *
 unfold cutL
 rw[pcs_take]
 rw[List.all_eq_true] at ha ⊢
 exact fun x hx=>ha x (List.mem_of_mem_take hx)
theorem ok_op (op:Int) (vs:List Va) (h:∀ v ∈ vs,v.ok):(opV op vs).ok:=by
 have g:∀ i,(vs.getD i blankV).ok:=fun i=>by
  rw[List.getD_eq_getElem?_getD]
  cases hi:vs[i]? with
  | none=>exact ok_blank
  | some t=>exact h t (List.mem_of_getElem? hi)
 have ga:=g 0
 have gb:=g 1
 have gc:=g 2
 unfold opV
 dsimp only
 generalize vs.getD 0 blankV=a at *
 generalize vs.getD 1 blankV=b at *
 generalize vs.getD 2 blankV=c at *
 by_cases c1:op=5
 ·rw[if_pos c1];exact ok_want ga (fun _=>ok_num _)
 rw[if_neg c1]
 by_cases c2:7≤op∧op≤11
 ·rw[if_pos c2];exact ok_want ga (fun _=>ok_want gb (fun _=>ok_numOp _ _ _))
 rw[if_neg c2]
 by_cases c3:op=6
 ·rw[if_pos c3];exact ok_want ga (fun _=>ok_tru _)
 rw[if_neg c3]
 by_cases c4:op=16
 ·rw[if_pos c4]
  refine ok_want ga (fun _=>?_)
  split
  ·exact ok_want gb (fun _=>gb)
  ·exact ga
 rw[if_neg c4]
 by_cases c5:op=17
 ·rw[if_pos c5]
  refine ok_want ga (fun _=>?_)
  split
  ·exact ga
  ·exact ok_want gb (fun _=>gb)
 rw[if_neg c5]
 by_cases c6:12≤op∧op≤15
 ·rw[if_pos c6];exact ok_cmp _ ga gb
 rw[if_neg c6]
 by_cases c7:op=18
 ·rw[if_pos c7]
  refine ok_want ga (fun _=>?_)
  split
  ·exact gb
  ·exact gc
 rw[if_neg c7]
 by_cases c8:op=19
 ·rw[if_pos c8]
  refine ok_want ga (fun hk=>⟨by simp[checkB],?_,?_⟩)
  ·show _≤((countL a.s:Nat):Int);omega
  ·show ((countL a.s:Nat):Int)≤_;have:=(ga.text hk).2.1;omega
 rw[if_neg c8]
 by_cases c9:op=20
 ·rw[if_pos c9];exact ok_want ga (fun hk=>ok_want gb (fun hk2=>ok_tex (valid_app (ga.text hk).1 (gb.text hk2).1)))
 rw[if_neg c9]
 by_cases c10:op=21
 ·rw[if_pos c10]
  refine ok_want ga (fun hk=>ok_want gb (fun _=>⟨?_,by show _≤(0:Int);decide,by show (0:Int)≤_;decide⟩))
  have h1:=ga.text hk
  have h2:=valid_cutL b.n.toNat h1.1
  have h3:=count_cut a.s b.n.toNat
  simp[checkB,h2]
  omega
 rw[if_neg c10]
 by_cases c11:op=23
 ·rw[if_pos c11];exact ok_want ga (fun hk=>ok_tex (by rw[valid_fold];exact (ga.text hk).1))
 rw[if_neg c11]
 exact ok_blank
mutual
theorem ok_eval (N:List ByteArray) (V:List Va) (hV:∀ v ∈ V,-9223372036854775808≤v.n∧v.n≤9223372036854775807):∀ (e:Ex),allB e=true→fitE e→(evalE N V e).ok
 | .mk op n s ks,h,hf=>by
  rw[allB] at h
  rw[fitE] at hf
  simp only[Bool.and_eq_true] at h
  obtain⟨hp,hk⟩:=h
  unfold partB Ex.op Ex.num Ex.str Ex.kids at hp
  dsimp only at hp
  simp only[Bool.and_eq_true] at hp
  obtain⟨⟨-,hp⟩,-⟩:=hp
  rw[evalE]
  unfold plainB at hp
  split
  ·rename_i c
   rw[if_pos c] at hp
   simp only[Bool.and_eq_true,decide_eq_true_eq] at hp
   exact⟨by simp[checkB],by show _≤n;omega,hf.1⟩
  rename_i c
  rw[if_neg c] at hp
  split
  ·rename_i c
   rw[if_pos c] at hp
   unfold textB at hp
   simp only[Bool.and_eq_true,decide_eq_true_eq] at hp
   exact⟨by simp[checkB,hp.2.1,hp.2.2],by show _≤(0:Int);decide,by show (0:Int)≤_;decide⟩
  rename_i c
  rw[if_neg c] at hp
  split
  ·rename_i c
   rw[if_pos c] at hp
   simp only[Bool.and_eq_true,decide_eq_true_eq] at hp
   exact⟨by simp[checkB,hp.1],by show _≤n;omega,hf.1⟩
  split
  ·exact ok_name N V _ hV
  split
  ·exact ok_tru _
  ·exact ok_op _ _ (ok_evalL N V hV ks hk hf.2)
theorem ok_evalL (N:List ByteArray) (V:List Va) (hV:∀ v ∈ V,-9223372036854775808≤v.n∧v.n≤9223372036854775807):∀ (es:List Ex),allBL es=true→fitL es→∀ v ∈ evalL N V es,v.ok
 | [],_,_=>by rw[evalL];intro v hv;cases hv
 | e :: es,h,hf=>by
  rw[allBL] at h
  rw[fitL] at hf
  simp only[Bool.and_eq_true] at h
  rw[evalL]
  intro v hv
  rcases List.mem_cons.1 hv with rfl | hv
  ·exact ok_eval N V hV e h.1 hf.1
  ·exact ok_evalL N V hV es h.2 hf.2 v hv
end
def evA (N:List ByteArray) (V:List Va) (e:Ex):Va:=if chkB e then evalE N V e else blankV
end
end Go.Proofs.YtbbblmedoagncaaGreatDoor
