/- RvF, RvQ, RvW, RvN -/
import Derived.Test.YtbbblmedoagncaaGreatDoorSHA
import Derived.Test.YtbbblmedoagncaaGreatDoorSHG
import Derived.Test.YtbbblmedoagncaaGreatDoorSGE
import Derived.Test.YtbbblmedoagncaaGreatDoorSHC
import Derived.Test.YtbbblmedoagncaaGreatDoorSGW
import Derived.Test.YtbbblmedoagncaaGreatDoorSEY
import Derived.Test.YtbbblmedoagncaaGreatDoorProg
import Derived.Deep.QuietTactic
import Derived.BigQuiet
import Derived.IntWalk
import Derived.WalkSpells
import Derived.Lib.Hide
import Derived.WalkMore
namespace Go.Proofs.YtbbblmedoagncaaGreatDoor
section
open Lib (hid)
open _root_.Go.Proofs.Tryz
set_option maxHeartbeats 2000000
set_option maxRecDepth 100000
open Go.RowKit
theorem piece_bytes (l:List UInt8) (k:Nat) (x:Pc) (h:(pcs l)[k]?=some x):(l.drop (flat ((pcs l).take k)).length).take x.2.length=x.2∧(flat ((pcs l).take k)).length+x.2.length≤l.length:=by
 have e:l=flat ((pcs l).take k)++(x.2++flat ((pcs l).drop (k+1))):=by
  have h1:(pcs l).drop k=x :: (pcs l).drop (k+1):=by
   obtain⟨hlt,rfl⟩:=List.getElem?_eq_some_iff.1 h
   exact List.drop_eq_getElem_cons hlt
  have:=flat_pcs l
  rw[← List.take_append_drop k (pcs l),flat_append,h1,flat_cons] at this
  exact this.symm
 generalize flat ((pcs l).take k)=A at e ⊢
 generalize flat ((pcs l).drop (k+1))=B at e
 subst e
 rw[List.drop_left,List.take_left]
 simp only[List.length_append]
 exact⟨trivial,by omega⟩
theorem app_list' (a b:ByteArray):(a++b).data.toList=a.data.toList++b.data.toList:=by
 rw[ByteArray.data_append,Array.toList_append]
theorem app_size' (a b:ByteArray):(a++b).size=a.size+b.size:=by
 rw[Lib.size_eq,app_list',List.length_append,← Lib.size_eq,← Lib.size_eq]
theorem refUpper_any (r:Int) (w:World):Calls prog 259 #[.int .i32 r] w fun e w'=>e=.returned (.int .i32 (upperZ r))∧w=w':=by
 go_enter func259,ntmps259
 go_wp2
 all_goals
  go_ret
  refine⟨ret_int ?_,rfl⟩
  try simp only[beq_iff_eq,beq_eq_false_iff_ne,ne_eq] at *
  first
  | exact (upper_low (by unfold LowP;omega)).symm
  | exact (upper_same (by unfold LowP;omega) (by omega)).symm
  | (subst r;decide)
theorem scalar_mem (l:List UInt8):∀ x ∈ pcs l,Scalar (x.1:Int):=by
 induction l using pcs_induct with
 | h0=>intro x hx;cases hx
 | h1 l hne ih =>
  intro x hx
  rw[pcs_step l hne] at hx
  rcases List.mem_cons.1 hx with rfl | hx
  ·exact scalar_of l
  ·exact ih x hx
theorem fold_flat (l:List UInt8):flat ((pcs l).map foldP)=foldL l:=by rw[← pcs_fold,flat_pcs]
def RefFoldRel (P:List Pc) (T:ByteArray) (k:Nat):Prop :=
 T.data.toList=flat ((P.take k).map foldP)∧k≤P.length∧T.size≤4 * k
theorem refFold_step (P:List Pc) (T t:ByteArray) (k:Nat) (x:Pc) (h:RefFoldRel P T k) (hx:P[k]?=some x) (ht:t.data.toList=(foldP x).2) (h4:t.size≤4):RefFoldRel P (T++t) (k+1):=by
 obtain⟨h1,h2,h3⟩:=h
 have hlt:=(List.getElem?_eq_some_iff.1 hx).1
 refine⟨?_,by omega,by rw[app_size'];omega⟩
 rw[app_list',h1,ht,List.take_add_one,hx,List.map_append,flat_append]
 simp[flat]
theorem refFold_any (s:ByteArray) (w:World) (hs:s.size≤1099511627776) :
  Calls prog 214 #[.string s] w fun e w'=>e=.returned (.string ⟨(foldL s.data.toList).toArray⟩)∧Below w.heap.size w w':=by
 obtain⟨P,hP⟩:∃ P,pcs s.data.toList=P:=⟨_,rfl⟩
 have hcP:=pieces_P s P hP w hs
 have hPs:=pieces_len s P hP
 have hpb:=piece_bytes s.data.toList
 have hff:=fold_flat s.data.toList
 have hsc:=scalar_mem s.data.toList
 rw[hP] at hpb hff hsc
 have h0:RefFoldRel P ⟨#[]⟩ 0:=⟨rfl,Nat.zero_le _,Nat.le_refl _⟩
 obtain⟨R,hR⟩:∃ R:ByteArray,(⟨(foldL s.data.toList).toArray⟩:ByteArray)=R:=⟨_,rfl⟩
 have hRl:R.data.toList=flat (P.map foldP):=by rw[← hR,hff]
 rw[hR]
 have HRL:=hid hRl
 have H0:=hid h0
 have HPB:=hid hpb
 have HSC:=hid hsc
 have HCP:=hid hcP
 clear hP hcP hpb hff h0 hR hRl hsc
 go_enter func214,ntmps214
 go_wp2_with fail
 refine HCP.out.mono ?_
 rintro e w1 ⟨ao,cap,rfl,hnc,b1,hg⟩
 have HG:=hid hg
 clear hg
 go_wp2
 go_loopw [3,5] (fun tv iv wr=>∃ T k,RefFoldRel P T k∧tv=.string T∧iv=.int .i64 (k:Int)∧Below w1.heap.size w1 wr) (fun _ iv _=>P.length - (Go.RowKit.intOf iv).toNat)
 case atStart=>exact⟨_,0,H0.out,rfl,rfl,Below.refl _ _⟩
 case round =>
  obtain⟨T,k,hrel,rfl,rfl,hbw⟩:=hrel
  have hTsz:=hrel.2.2
  have hk:=hrel.2.1
  have HREL:=hid hrel
  clear hrel
  by_cases hlt:k<P.length
  ·obtain⟨g,rfl,hgl,hcells⟩:=HG.out (by omega)
   obtain⟨x,hx⟩:∃ x,P[k]?=some x:=⟨_,List.getElem?_eq_getElem hlt⟩
   obtain⟨hc0',hc1',hc2',hc3'⟩:=hcells k x hx
   have hc0:=(hbw.cell (p:=⟨g,k * 4,none⟩) hgl).trans hc0'
   have hc2:=(hbw.cell (p:=⟨g,k * 4+2,none⟩) hgl).trans hc2'
   have hc3:=(hbw.cell (p:=⟨g,k * 4+3,none⟩) hgl).trans hc3'
   have hkz:(k:Int)<(P.length:Int):=by omega
   have hkz0:(0:Int)≤(k:Int):=by omega
   by_cases hb:bad x
   ·obtain⟨hb1,hb2⟩:=HPB.out k x hx
    obtain⟨F,hF⟩:∃ F,(flat (P.take k)).length=F:=⟨_,rfl⟩
    rw[hF] at hc0 hb1 hb2
    rw[hb.2] at hb1 hb2
    rw[← Lib.size_eq] at hb2
    have hnew:RefFoldRel P (T++s.extract F (F+1)) (k+1):=by
     have hxl:(s.extract F (F+1)).data.toList=x.2:=by rw[Lib.extract_data,Nat.add_sub_cancel_left];exact hb1
     refine refFold_step P T _ k x HREL.out hx ?_ ?_
     ·rw[hxl];unfold foldP;rw[if_pos hb]
     ·rw[Lib.size_eq,hxl,hb.2];omega
    rw[decide_eq_true hb] at hc3
    have e1:IntKind.i64.wrap ((F:Int)+1)=(F:Int)+1:=IntWalk.i64_in _ (by omega)
    have e2:((F:Int)+1).toNat=F+1:=by omega
    have hFX:(F:Int)+1≤(s.size:Int):=by omega
    have hFX2:(F:Int)≤(F:Int)+1:=by omega
    have HNEW:=hid hnew
    clear hcells hx hc0' hc1' hc2' hc3' hb1 hnew hF hb hc2
    go_wp2
    go_quiet (fail)
    go_wp2
    exact⟨⟨_,k+1,HNEW.out,rfl,by go_num,hbw.trans ⟨rfl,rfl,rfl,Nat.le_refl _,fun _ _=>rfl⟩⟩,by simp only[Go.RowKit.intOf];omega⟩
   ·have hsx:=HSC.out x (List.mem_of_getElem? hx)
    have hsu:=scalar_upper _ hsx
    have cU:=refUpper_any (x.1:Int)
    have cB:=fun W=>refBytes_any (upperZ (x.1:Int)) W hsu
    obtain⟨t,ht⟩:∃ t:ByteArray,(⟨(Lib.encodeRune (upperZ (x.1:Int))).toArray⟩:ByteArray)=t:=⟨_,rfl⟩
    rw[ht] at cB
    have htl:t.data.toList=(foldP x).2:=by rw[← ht];unfold foldP;rw[if_neg hb]
    have ht4:t.size≤4:=by
     rw[← ht,Lib.size_eq]
     have:=Lib.runeCells_le (upperZ (x.1:Int));rw[Lib.runeCells_length] at this;exact this.2
    have hnew:=refFold_step P T t k x HREL.out hx htl ht4
    rw[decide_eq_false hb] at hc3
    have HNEW:=hid hnew
    have CU:=hid cU
    have CB:=hid cB
    clear hcells hx hc0' hc1' hc2' hc3' hnew hb hc0 hsx hsu cU cB ht htl
    go_wp2_with fail
    refine (CU.out _).mono ?_
    rintro e w2 ⟨rfl,rfl⟩
    go_wp2_with fail
    refine (CB.out _).mono ?_
    rintro e w3 ⟨rfl,b3⟩
    have hbw3:=hbw.trans (b3.mono hbw.size)
    go_wp2
    go_roundw
    case rel=>exact⟨_,k+1,HNEW.out,rfl,by go_num,hbw3⟩
    case measure=>simp only[Go.RowKit.intOf];omega
  ·have hkz:¬ ((k:Int)<(P.length:Int)):=by omega
   have hfin:Ending.returned (Value.string T)=.returned (.string R):=by
    have e:T.data.toList=R.data.toList:=by rw[HREL.out.1,HRL.out,List.take_of_length_le (by omega)]
    have:T=R:=by cases T;cases R;simp only[ByteArray.mk.injEq];exact Array.toList_inj.1 e
    rw[this]
   have HFIN:=hid hfin
   clear hfin
   go_wp2
   go_ret
   exact⟨HFIN.out,b1.trans (hbw.mono b1.size)⟩
theorem cut_big (l:List UInt8) (n:Int) (h:((pcs l).length:Int)≤n):cutL l n.toNat=l:=by
 unfold cutL;rw[List.take_of_length_le (by omega),flat_pcs]
theorem refCut_any (s:ByteArray) (n:Int) (w:World) (hs:s.size≤1099511627776) :
  Calls prog 215 #[.string s,.int .i64 n] w fun e w'=>e=.returned (.string ⟨(cutL s.data.toList n.toNat).toArray⟩)∧Below w.heap.size w w':=by
 obtain⟨P,hP⟩:∃ P,pcs s.data.toList=P:=⟨_,rfl⟩
 have hcP:=pieces_P s P hP w hs
 have hPs:=pieces_len s P hP
 obtain⟨T,hT⟩:∃ T:ByteArray,(⟨(cutL s.data.toList n.toNat).toArray⟩:ByteArray)=T:=⟨_,rfl⟩
 rw[hT]
 have HP:=hid hP
 have HT:=hid hT
 have HCP:=hid hcP
 clear hP hcP hT
 by_cases h1:n<1
 ·have hT0:T=⟨#[]⟩:=by rw[← HT.out,show n.toNat=0 by omega,cutL_zero]
  have HT0:=hid hT0
  clear hT0
  go_enter func215,ntmps215
  go_wp2_with fail
  refine HCP.out.mono ?_
  rintro e w1 ⟨ao,cap,rfl,hnc,b1,hg⟩
  clear hg
  go_wp2
  go_ret
  exact⟨congrArg (fun t=>Ending.returned (Value.string t)) HT0.out.symm,b1⟩
 ·by_cases h2:(P.length:Int)≤n
  ·have hT0:T=s:=by
    rw[← HT.out,cut_big _ _ (by rw[HP.out];exact h2)]
   have HT0:=hid hT0
   clear hT0
   go_enter func215,ntmps215
   go_wp2_with fail
   refine HCP.out.mono ?_
   rintro e w1 ⟨ao,cap,rfl,hnc,b1,hg⟩
   clear hg
   go_wp2
   go_ret
   exact⟨congrArg (fun t=>Ending.returned (Value.string t)) HT0.out.symm,b1⟩
  ·obtain⟨k,rfl⟩:=Int.eq_ofNat_of_zero_le (show 0≤n by omega)
   have hk:k<P.length:=by omega
   obtain⟨x,hx⟩:∃ x,P[k]?=some x:=⟨_,List.getElem?_eq_getElem hk⟩
   have hTl:T.data.toList=flat (P.take k):=by
    rw[← HT.out];simp only[Int.toNat_natCast];unfold cutL;rw[HP.out]
   have hfl:(flat (P.take k)).length≤s.size:=by
    have:=cutL_le s.data.toList k;unfold cutL at this;rw[HP.out,← Lib.size_eq] at this;exact this
   obtain⟨F,hF⟩:∃ F,(flat (P.take k)).length=F:=⟨_,rfl⟩
   have hT0:Ending.returned (Value.string (s.extract 0 F))=.returned (.string T):=by
    have e:(s.extract 0 F).data.toList=T.data.toList:=by
     rw[headList,hTl,← hF]
     have:=flat_prefix s.data.toList k
     rw[HP.out] at this;exact this
    have:s.extract 0 F=T:=by
     generalize s.extract 0 F=t at e
     cases t;cases T;simp only[ByteArray.mk.injEq];exact Array.toList_inj.1 e
    rw[this]
   have HT0:=hid hT0
   have HX:=hid hx
   have HF:=hid hF
   rw[hF] at hfl
   clear hT0 hTl hF hx
   go_enter func215,ntmps215
   go_wp2_with fail
   refine HCP.out.mono ?_
   rintro e w1 ⟨ao,cap,rfl,hnc,b1,hg⟩
   obtain⟨g,rfl,hgl,hcells⟩:=hg (by omega)
   obtain⟨hc0,-,-,-⟩:=hcells k x HX.out
   rw[HF.out] at hc0
   clear hcells hg
   go_wp2
   go_ret
   exact⟨HT0.out,b1⟩
end
section
open Lib (hid)
open _root_.Go.Proofs.Tryz
set_option maxHeartbeats 1000000
open Go.RowKit
def RCom (w:World) (a:Va) (e:Ending) (w':World):Prop:=e=.returned (V3 a.k a.n ⟨a.s.toArray⟩)∧Below w.heap.size w w'
def ZB (w:World) (g:Nat):Prop:=g<w.heap.size∧NB w g∧w.cell? ⟨g,0,none⟩=some (.int .i64 0)∧w.cell? ⟨g,1,none⟩=some (.int .i64 0)∧w.cell? ⟨g,2,none⟩=some (.string ⟨#[]⟩)
theorem ZB.later {w w':World} {g:Nat} (h:ZB w g) (hb:Below w.heap.size w w'):ZB w' g:=by
 obtain⟨h0,h1,h2,h3,h4⟩:=h
 exact⟨Nat.lt_of_lt_of_le h0 hb.size,h1.same (hb.block _ h0),(hb.cell (p:=⟨g,0,none⟩) h0).trans h2,(hb.cell (p:=⟨g,1,none⟩) h0).trans h3,(hb.cell (p:=⟨g,2,none⟩) h0).trans h4⟩
theorem ZB.new (w:World):ZB (w.alloc (.cells #[.int .i64 0,.int .i64 0,.string ⟨#[]⟩] 39)) w.heap.size:=by
 refine⟨by rw[alloc_size];omega,NB.new _ _ _,?_,?_,?_⟩<;>(rw[cells_of_alloc];rfl)
def VB (w:World) (g:Nat) (k n:Int) (t:List UInt8):Prop:=g<w.heap.size∧w.cell? ⟨g,0,none⟩=some (.int .i64 k)∧w.cell? ⟨g,1,none⟩=some (.int .i64 n)∧w.cell? ⟨g,2,none⟩=some (.string ⟨t.toArray⟩)
theorem VB.later {w w':World} {g:Nat} {k n:Int} {t:List UInt8} (h:VB w g k n t) (hb:Below w.heap.size w w'):VB w' g k n t:=by
 obtain⟨h0,h2,h3,h4⟩:=h
 exact⟨Nat.lt_of_lt_of_le h0 hb.size,(hb.cell (p:=⟨g,0,none⟩) h0).trans h2,(hb.cell (p:=⟨g,1,none⟩) h0).trans h3,(hb.cell (p:=⟨g,2,none⟩) h0).trans h4⟩
theorem VB.new (w:World) (k n:Int) (t:List UInt8):VB (w.alloc (.cells #[.int .i64 k,.int .i64 n,.string ⟨t.toArray⟩] 39)) w.heap.size k n t:=by
 refine⟨by rw[alloc_size];omega,?_,?_,?_⟩<;>(rw[cells_of_alloc];rfl)
theorem put3_at {w w1:World} {g:Nat} (a:Va) (h:Below w.heap.size w w1) (hg:w.heap.size≤g):Below w.heap.size w (((w1.setCell ⟨g,0,none⟩ (.int .i64 a.k)).setCell ⟨g,1,none⟩ (.int .i64 a.n)).setCell ⟨g,2,none⟩ (.string ⟨a.s.toArray⟩)) :=
 ((h.setCell (p:=⟨g,0,none⟩) hg _).setCell (p:=⟨g,1,none⟩) hg _).setCell (p:=⟨g,2,none⟩) hg _
theorem rbad_any (n:Int) (w:World):Calls prog 211 #[.int .i64 n] w (RCom w (badV n)):=by
 go_enter func211,ntmps211
 go_wp2_with fail
 exact bodyPost_ret (v:=V3 4 n ⟨#[]⟩) (by simp[results,results211,go_sem]) rfl ⟨rfl,below_alloc w _⟩
theorem rnum_any (n:Int) (w:World):Calls prog 127 #[.int .i64 n] w (RCom w ⟨1,n,[]⟩):=by
 go_enter func127,ntmps127
 go_wp2_with fail
 exact bodyPost_ret (v:=V3 1 n ⟨#[]⟩) (by simp[results,results127,go_sem]) rfl ⟨rfl,below_alloc w _⟩
theorem rtruth_any (b:Bool) (w:World):Calls prog 128 #[.bool b] w (RCom w (truV b)):=by
 cases b
 ·go_enter func128,ntmps128
  go_wp2_with fail
  exact bodyPost_ret (v:=V3 2 0 ⟨#[]⟩) (by simp[results,results128,go_sem]) rfl ⟨rfl,below_alloc w _⟩
 ·go_enter func128,ntmps128
  go_wp2_with fail
  exact bodyPost_ret (v:=V3 2 1 ⟨#[]⟩) (by simp[results,results128,go_sem]) rfl ⟨rfl,below_alloc w _⟩
theorem rtext_any (s:List UInt8) (w:World) (hs:s.length≤100000):Calls prog 213 #[.string ⟨s.toArray⟩] w (RCom w (texV s)):=by
 have hsz:(⟨s.toArray⟩:ByteArray).size=s.length:=List.size_toArray
 have z:=ZB.new w
 have hb:=below_alloc w (.cells #[.int .i64 0,.int .i64 0,.string ⟨#[]⟩] 39)
 obtain⟨w1,hw1⟩:∃ w1,w.alloc (.cells #[.int .i64 0,.int .i64 0,.string ⟨#[]⟩] 39)=w1:=⟨_,rfl⟩
 rw[hw1] at z hb
 have c:=refCount_any ⟨s.toArray⟩ w1 (by omega)
 have e:(⟨s.toArray⟩:ByteArray).data.toList=s:=rfl
 rw[e] at c
 have HZ:=hid z
 have HB:=hid hb
 clear e z hb hsz hs
 by_cases h:100<countL s
 ·have hz:(100:Int)<(countL s:Int):=by omega
  have HT:=hid (show texV s=badV 4 by unfold texV;rw[if_pos h])
  clear h
  generalize (countL s:Int)=K at *
  go_enter func213,ntmps213
  go_wp2_with fail
  refine c.mono ?_
  rintro e w2 ⟨rfl,b2⟩
  have c3:Calls prog 211 #[.int .i64 4] w2 fun e w'=>e=.returned (V3 4 4 ⟨#[]⟩)∧Below w2.heap.size w2 w':=rbad_any 4 w2
  have HB2:=hid (below_to HB.out b2)
  have HZ2:=hid (HZ.out.later b2)
  clear c b2
  go_wp2_with fail
  refine c3.mono ?_
  rintro e w3 ⟨rfl,b3⟩
  obtain⟨hl,hn,z0,z1,z2⟩:=HZ2.out.later b3
  have f0:=(hn.weak 0).2
  have f1:=(hn.weak 1).2
  have f2:=(hn.weak 2).2
  have B:Hid (Below w.heap.size w (((w3.setCell ⟨w.heap.size,0,none⟩ (.int .i64 4)).setCell ⟨w.heap.size,1,none⟩ (.int .i64 4)).setCell ⟨w.heap.size,2,none⟩ (.string ⟨#[]⟩))):=hid (put3_at (g:=w.heap.size) (badV 4) (below_to HB2.out b3) (Nat.le_refl _))
  clear c3 b3 hn
  go_wp2_with fail
  exact bodyPost_ret (v:=V3 4 4 ⟨#[]⟩) (by simp[results,results213,go_sem, *]) rfl ⟨by rw[HT.out];rfl,B.out⟩
 ·have hz:¬ (100:Int)<(countL s:Int):=by omega
  have HT:=hid (show texV s=⟨3,0,s⟩ by unfold texV;rw[if_neg h])
  clear h
  generalize (countL s:Int)=K at *
  go_enter func213,ntmps213
  go_wp2_with fail
  refine c.mono ?_
  rintro e w2 ⟨rfl,b2⟩
  obtain⟨hl,hn,z0,z1,z2⟩:=HZ.out.later b2
  have f0:=(hn.weak 0).2
  have f1:=(hn.weak 1).2
  have f2:=(hn.weak 2).2
  have B:Hid (Below w.heap.size w (((w2.setCell ⟨w.heap.size,0,none⟩ (.int .i64 3)).setCell ⟨w.heap.size,1,none⟩ (.int .i64 0)).setCell ⟨w.heap.size,2,none⟩ (.string ⟨s.toArray⟩))):=hid (put3_at (g:=w.heap.size) ⟨3,0,s⟩ (below_to HB.out b2) (Nat.le_refl _))
  clear c b2 hn
  go_wp2_with fail
  exact bodyPost_ret (v:=V3 3 0 ⟨s.toArray⟩) (by simp[results,results213,go_sem, *]) rfl ⟨by rw[HT.out],B.out⟩
theorem ent (w:World) (op n:Int) (s:ByteArray) (kv:Value):∃ w1 w2,w.alloc (.cells #[.int .i64 op,.int .i64 n,.string s,kv] 24)=w1∧w1.alloc (.cells #[.int .i64 0,.int .i64 0,.string ⟨#[]⟩] 39)=w2 ∧
  Hid (w.heap.size≤w1.heap.size)∧Hid (Below w.heap.size w w2)∧Hid (ZB w2 w1.heap.size)∧Hid (Four w2 w.heap.size (.int .i64 op) (.int .i64 n) (.string s) kv):=by
 have hX:=four_new w (.int .i64 op) (.int .i64 n) (.string s) kv 24
 have hb1:=below_alloc w (.cells #[.int .i64 op,.int .i64 n,.string s,kv] 24)
 generalize w.alloc (.cells #[.int .i64 op,.int .i64 n,.string s,kv] 24)=w1 at *
 have hb2:=below_alloc w1 (.cells #[.int .i64 0,.int .i64 0,.string ⟨#[]⟩] 39)
 exact⟨w1,_,rfl,rfl,hid hb1.size,hid (below_to hb1 hb2),hid (ZB.new w1),hid (hX.later hb2)⟩
theorem vbl (w:World) (k n:Int) (t:List UInt8):∃ x,w.alloc (.cells #[.int .i64 k,.int .i64 n,.string ⟨t.toArray⟩] 39)=x∧Hid (VB x w.heap.size k n t)∧Below w.heap.size w x :=
 ⟨_,rfl,hid (VB.new w k n t),below_alloc w _⟩
theorem fin_at {w w1 w2 wk:World} (HB:Hid (Below w.heap.size w w2)) (T:Hid (Below w2.heap.size w2 wk)) (G:Hid (w.heap.size≤w1.heap.size)) (HZ:Hid (ZB w2 w1.heap.size)) (k n:Int) (t:ByteArray) :
  wk.cell? ⟨w1.heap.size,0,none⟩=some (.int .i64 0)∧wk.cell? ⟨w1.heap.size,1,none⟩=some (.int .i64 0)∧wk.cell? ⟨w1.heap.size,2,none⟩=some (.string ⟨#[]⟩) ∧
  wk.frozen? ⟨w1.heap.size,0,none⟩=false∧wk.frozen? ⟨w1.heap.size,1,none⟩=false∧wk.frozen? ⟨w1.heap.size,2,none⟩=false ∧
  Hid (Below w.heap.size w (((wk.setCell ⟨w1.heap.size,0,none⟩ (.int .i64 k)).setCell ⟨w1.heap.size,1,none⟩ (.int .i64 n)).setCell ⟨w1.heap.size,2,none⟩ (.string t))):=by
 obtain⟨-,zn,z0,z1,z2⟩:=HZ.out.later T.out
 have h:=below_to HB.out T.out
 exact⟨z0,z1,z2,(zn.weak 0).2,(zn.weak 1).2,(zn.weak 2).2,hid (((h.setCell (p:=⟨w1.heap.size,0,none⟩) G.out _).setCell (p:=⟨w1.heap.size,1,none⟩) G.out _).setCell (p:=⟨w1.heap.size,2,none⟩) G.out _)⟩
def okW (K:Int) (a:Va):Bool:=decide (a.k≠4∧a.k≠0∧(K=0∨a.k=K))
end
section
open Lib (hid)
open _root_.Go.Proofs.Tryz
set_option maxHeartbeats 4000000
set_option maxRecDepth 100000
open Go.RowKit
theorem rwant_A (g:Nat) (K:Int) (m:Int) (t:List UInt8) (op n:Int) (s:ByteArray) (kv:Value) (w:World)
  (cK:∀ w',Below w.heap.size w w'→Calls prog 51 #[.pointer (some ⟨g,0,none⟩),.agg #[.int .i64 op,.int .i64 n,.string s,kv]] w' (RCom w' ⟨4,m,t⟩)) :
  Calls prog 210 #[.pointer (some ⟨g,0,none⟩),.agg #[.int .i64 op,.int .i64 n,.string s,kv],.int .i64 K] w fun e w'=>e=.returned (.tuple #[V3 4 m ⟨t.toArray⟩,.bool false])∧Below w.heap.size w w':=by
 obtain⟨w1,w2,hw1,hw2,G1,HB,HZ,HX⟩:=ent w op n s kv
 obtain⟨-,e0,e1,e2,e3,-⟩:=HX.out
 have c:Calls prog 51 #[.pointer (some ⟨g,0,none⟩),.agg #[.int .i64 op,.int .i64 n,.string s,kv]] w2 fun e w'=>e=.returned (V3 4 m ⟨t.toArray⟩)∧Below w2.heap.size w2 w':=cK w2 HB.out
 clear cK
 go_enter func210,ntmps210
 go_wp2_with fail
 refine c.mono ?_
 rintro e w3 ⟨rfl,b3⟩
 obtain⟨w4,hw4,HV,d⟩:=vbl w3 4 m t
 have T4:=hid (below_to b3 d)
 obtain⟨-,v0,v1,v2⟩:=HV.out
 clear b3 d c e0 e1 e2 e3
 obtain⟨z0,z1,z2,f0,f1,f2,B6⟩:=fin_at HB T4 G1 HZ 4 m ⟨t.toArray⟩
 go_wp2_with fail
 exact bodyPost_ret (v:=.tuple #[V3 4 m ⟨t.toArray⟩,.bool false]) (by simp[results,results210,go_sem, *]) rfl ⟨rfl,B6.out⟩
theorem rwant_B (g:Nat) (K:Int) (m:Int) (t:List UInt8) (op n:Int) (s:ByteArray) (kv:Value) (w:World)
  (cK:∀ w',Below w.heap.size w w'→Calls prog 51 #[.pointer (some ⟨g,0,none⟩),.agg #[.int .i64 op,.int .i64 n,.string s,kv]] w' (RCom w' ⟨0,m,t⟩)) :
  Calls prog 210 #[.pointer (some ⟨g,0,none⟩),.agg #[.int .i64 op,.int .i64 n,.string s,kv],.int .i64 K] w fun e w'=>e=.returned (.tuple #[V3 4 3 ⟨#[]⟩,.bool false])∧Below w.heap.size w w':=by
 obtain⟨w1,w2,hw1,hw2,G1,HB,HZ,HX⟩:=ent w op n s kv
 obtain⟨-,e0,e1,e2,e3,-⟩:=HX.out
 have c:Calls prog 51 #[.pointer (some ⟨g,0,none⟩),.agg #[.int .i64 op,.int .i64 n,.string s,kv]] w2 fun e w'=>e=.returned (V3 0 m ⟨t.toArray⟩)∧Below w2.heap.size w2 w':=cK w2 HB.out
 clear cK
 go_enter func210,ntmps210
 go_wp2_with fail
 refine c.mono ?_
 rintro e w3 ⟨rfl,b3⟩
 obtain⟨w4,hw4,HV,d⟩:=vbl w3 0 m t
 have T4:=hid (below_to b3 d)
 obtain⟨-,v0,v1,v2⟩:=HV.out
 clear b3 d c e0 e1 e2 e3
 have c5:Calls prog 211 #[.int .i64 3] w4 fun e w'=>e=.returned (V3 4 3 ⟨#[]⟩)∧Below w4.heap.size w4 w':=rbad_any 3 w4
 go_wp2_with fail
 refine c5.mono ?_
 rintro e w5 ⟨rfl,b5⟩
 obtain⟨z0,z1,z2,f0,f1,f2,B6⟩:=fin_at HB (hid (below_to T4.out b5)) G1 HZ 4 3 ⟨#[]⟩
 clear c5 b5 v0 v1 v2
 go_wp2_with fail
 exact bodyPost_ret (v:=.tuple #[V3 4 3 ⟨#[]⟩,.bool false]) (by simp[results,results210,go_sem, *]) rfl ⟨rfl,B6.out⟩
theorem rwant_C (g:Nat) (K k:Int) (h4:k≠4) (h0:k≠0) (hK:K≠0) (hkK:k≠K) (m:Int) (t:List UInt8) (op n:Int) (s:ByteArray) (kv:Value) (w:World)
  (cK:∀ w',Below w.heap.size w w'→Calls prog 51 #[.pointer (some ⟨g,0,none⟩),.agg #[.int .i64 op,.int .i64 n,.string s,kv]] w' (RCom w' ⟨k,m,t⟩)) :
  Calls prog 210 #[.pointer (some ⟨g,0,none⟩),.agg #[.int .i64 op,.int .i64 n,.string s,kv],.int .i64 K] w fun e w'=>e=.returned (.tuple #[V3 4 3 ⟨#[]⟩,.bool false])∧Below w.heap.size w w':=by
 obtain⟨w1,w2,hw1,hw2,G1,HB,HZ,HX⟩:=ent w op n s kv
 obtain⟨-,e0,e1,e2,e3,-⟩:=HX.out
 have c:Calls prog 51 #[.pointer (some ⟨g,0,none⟩),.agg #[.int .i64 op,.int .i64 n,.string s,kv]] w2 fun e w'=>e=.returned (V3 k m ⟨t.toArray⟩)∧Below w2.heap.size w2 w':=cK w2 HB.out
 clear cK
 have hk4:(k == 4)=false:=beq_eq_false_iff_ne.2 h4
 have hk0:(k == 0)=false:=beq_eq_false_iff_ne.2 h0
 have hK0:(K != 0)=true:=by simp[hK]
 have hKk:(k != K)=true:=by simp[hkK]
 clear h4 h0 hK hkK
 go_enter func210,ntmps210
 go_wp2_with fail
 refine c.mono ?_
 rintro e w3 ⟨rfl,b3⟩
 obtain⟨w4,hw4,HV,d⟩:=vbl w3 k m t
 have T4:=hid (below_to b3 d)
 obtain⟨-,v0,v1,v2⟩:=HV.out
 clear b3 d c e0 e1 e2 e3
 have c5:Calls prog 211 #[.int .i64 3] w4 fun e w'=>e=.returned (V3 4 3 ⟨#[]⟩)∧Below w4.heap.size w4 w':=rbad_any 3 w4
 go_wp2_with fail
 refine c5.mono ?_
 rintro e w5 ⟨rfl,b5⟩
 obtain⟨z0,z1,z2,f0,f1,f2,B6⟩:=fin_at HB (hid (below_to T4.out b5)) G1 HZ 4 3 ⟨#[]⟩
 clear c5 b5 v0 v1 v2
 go_wp2_with fail
 exact bodyPost_ret (v:=.tuple #[V3 4 3 ⟨#[]⟩,.bool false]) (by simp[results,results210,go_sem, *]) rfl ⟨rfl,B6.out⟩
theorem rwant_D (g:Nat) (k:Int) (h4:k≠4) (h0:k≠0) (m:Int) (t:List UInt8) (op n:Int) (s:ByteArray) (kv:Value) (w:World)
  (cK:∀ w',Below w.heap.size w w'→Calls prog 51 #[.pointer (some ⟨g,0,none⟩),.agg #[.int .i64 op,.int .i64 n,.string s,kv]] w' (RCom w' ⟨k,m,t⟩)) :
  Calls prog 210 #[.pointer (some ⟨g,0,none⟩),.agg #[.int .i64 op,.int .i64 n,.string s,kv],.int .i64 0] w fun e w'=>e=.returned (.tuple #[V3 k m ⟨t.toArray⟩,.bool true])∧Below w.heap.size w w':=by
 obtain⟨w1,w2,hw1,hw2,G1,HB,HZ,HX⟩:=ent w op n s kv
 obtain⟨-,e0,e1,e2,e3,-⟩:=HX.out
 have c:Calls prog 51 #[.pointer (some ⟨g,0,none⟩),.agg #[.int .i64 op,.int .i64 n,.string s,kv]] w2 fun e w'=>e=.returned (V3 k m ⟨t.toArray⟩)∧Below w2.heap.size w2 w':=cK w2 HB.out
 clear cK
 have hk4:(k == 4)=false:=beq_eq_false_iff_ne.2 h4
 have hk0:(k == 0)=false:=beq_eq_false_iff_ne.2 h0
 clear h4 h0
 go_enter func210,ntmps210
 go_wp2_with fail
 refine c.mono ?_
 rintro e w3 ⟨rfl,b3⟩
 obtain⟨w4,hw4,HV,d⟩:=vbl w3 k m t
 have T4:=hid (below_to b3 d)
 obtain⟨-,v0,v1,v2⟩:=HV.out
 clear b3 d c e0 e1 e2 e3
 obtain⟨z0,z1,z2,f0,f1,f2,B6⟩:=fin_at HB T4 G1 HZ k m ⟨t.toArray⟩
 go_wp2_with fail
 exact bodyPost_ret (v:=.tuple #[V3 k m ⟨t.toArray⟩,.bool true]) (by simp[results,results210,go_sem, *]) rfl ⟨rfl,B6.out⟩
theorem rwant_E (g:Nat) (k:Int) (h4:k≠4) (h0:k≠0) (m:Int) (t:List UInt8) (op n:Int) (s:ByteArray) (kv:Value) (w:World)
  (cK:∀ w',Below w.heap.size w w'→Calls prog 51 #[.pointer (some ⟨g,0,none⟩),.agg #[.int .i64 op,.int .i64 n,.string s,kv]] w' (RCom w' ⟨k,m,t⟩)) :
  Calls prog 210 #[.pointer (some ⟨g,0,none⟩),.agg #[.int .i64 op,.int .i64 n,.string s,kv],.int .i64 k] w fun e w'=>e=.returned (.tuple #[V3 k m ⟨t.toArray⟩,.bool true])∧Below w.heap.size w w':=by
 obtain⟨w1,w2,hw1,hw2,G1,HB,HZ,HX⟩:=ent w op n s kv
 obtain⟨-,e0,e1,e2,e3,-⟩:=HX.out
 have c:Calls prog 51 #[.pointer (some ⟨g,0,none⟩),.agg #[.int .i64 op,.int .i64 n,.string s,kv]] w2 fun e w'=>e=.returned (V3 k m ⟨t.toArray⟩)∧Below w2.heap.size w2 w':=cK w2 HB.out
 clear cK
 have hk4:(k == 4)=false:=beq_eq_false_iff_ne.2 h4
 have hk0:(k == 0)=false:=beq_eq_false_iff_ne.2 h0
 have hK0:(k != 0)=true:=by simp[h0]
 have hKk:(k != k)=false:=by simp
 clear h4 h0
 go_enter func210,ntmps210
 go_wp2_with fail
 refine c.mono ?_
 rintro e w3 ⟨rfl,b3⟩
 obtain⟨w4,hw4,HV,d⟩:=vbl w3 k m t
 have T4:=hid (below_to b3 d)
 obtain⟨-,v0,v1,v2⟩:=HV.out
 clear b3 d c e0 e1 e2 e3
 obtain⟨z0,z1,z2,f0,f1,f2,B6⟩:=fin_at HB T4 G1 HZ k m ⟨t.toArray⟩
 go_wp2_with fail
 exact bodyPost_ret (v:=.tuple #[V3 k m ⟨t.toArray⟩,.bool true]) (by simp[results,results210,go_sem, *]) rfl ⟨rfl,B6.out⟩
theorem rwant_yes (g:Nat) (K:Int) (a:Va) (ha:a.ok) (hk:okW K a=true) (op n:Int) (s:ByteArray) (kv:Value) (w:World)
  (cK:∀ w',Below w.heap.size w w'→Calls prog 51 #[.pointer (some ⟨g,0,none⟩),.agg #[.int .i64 op,.int .i64 n,.string s,kv]] w' (RCom w' a)) :
  Calls prog 210 #[.pointer (some ⟨g,0,none⟩),.agg #[.int .i64 op,.int .i64 n,.string s,kv],.int .i64 K] w fun e w'=>e=.returned (.tuple #[V3 a.k a.n ⟨a.s.toArray⟩,.bool true])∧Below w.heap.size w w':=by
 obtain⟨k,m,t⟩:=a
 unfold okW at hk
 rw[decide_eq_true_eq] at hk
 obtain⟨h4,h0,rfl | h⟩:=hk
 ·exact rwant_D g k h4 h0 m t op n s kv w cK
 ·dsimp only at h
  subst h
  exact rwant_E g k h4 h0 m t op n s kv w cK
theorem rwant_no (g:Nat) (K:Int) (a:Va) (hk:okW K a=false) (op n:Int) (s:ByteArray) (kv:Value) (w:World)
  (cK:∀ w',Below w.heap.size w w'→Calls prog 51 #[.pointer (some ⟨g,0,none⟩),.agg #[.int .i64 op,.int .i64 n,.string s,kv]] w' (RCom w' a)) :
  Calls prog 210 #[.pointer (some ⟨g,0,none⟩),.agg #[.int .i64 op,.int .i64 n,.string s,kv],.int .i64 K] w fun e w'=>e=.returned (.tuple #[V3 (wrongV a).k (wrongV a).n ⟨(wrongV a).s.toArray⟩,.bool false])∧Below w.heap.size w w':=by
 obtain⟨k,m,t⟩:=a
 unfold okW at hk
 rw[decide_eq_false_iff_not] at hk
 dsimp only at hk
 by_cases h4:k=4
 ·subst h4
  exact rwant_A g K m t op n s kv w cK
 ·have e:wrongV ⟨k,m,t⟩=badV 3:=by unfold wrongV;rw[if_neg h4]
  rw[e]
  by_cases h0:k=0
  ·subst h0
   exact rwant_B g K m t op n s kv w cK
  ·exact rwant_C g K k h4 h0 (fun h=>hk ⟨h4,h0,.inl h⟩) (fun h=>hk ⟨h4,h0,.inr h⟩) m t op n s kv w cK
theorem rvname_any (N:List ByteArray) (V:List Va) (A B:Option Addr) (cA cB g:Nat) (s:ByteArray) (w:World) (hK:Knows w N V A B) (g0:w.cell? ⟨g,0,none⟩=some (.slice A N.length cA)) (g1:w.cell? ⟨g,1,none⟩=some (.slice B V.length cB)) :
  Calls prog 129 #[.pointer (some ⟨g,0,none⟩),.string s] w (RCom w (nameV N V s)):=by
 have hgl:=World.block_lt_of_cell? w _ g0
 have z:=ZB.new w
 have hb:=below_alloc w (.cells #[.int .i64 0,.int .i64 0,.string ⟨#[]⟩] 39)
 have g0:=(hb.cell (p:=⟨g,0,none⟩) hgl).trans g0
 have g1:=(hb.cell (p:=⟨g,1,none⟩) hgl).trans g1
 have hK:=hK.later hb
 obtain⟨w1,hw1⟩:∃ w1,w.alloc (.cells #[.int .i64 0,.int .i64 0,.string ⟨#[]⟩] 39)=w1:=⟨_,rfl⟩
 rw[hw1] at z hb g0 g1 hK
 have HZ:=hid z
 have HB:=hid hb
 have HK:=hid hK
 have hlN:=hK.ln
 clear z hb hK hgl
 go_enter func129,ntmps129
 go_wp2_with fail
 go_loopg [5] (N.length) (fun n s5 wr=>∃ k:Nat,k+n=N.length∧s5=.int .i64 (k:Int)∧wr=w1∧Hid (∀ j:Nat,j<k→N[j]?≠some s))
 case atStart=>exact⟨0,by omega,rfl,rfl,hid (fun j hj=>absurd hj (by omega))⟩
 case round =>
  obtain⟨k,hkn,rfl,rfl,HW⟩:=hrel
  have HKN:=hid hkn
  by_cases hk:k<N.length
  ·have hkz:(k:Int)<(N.length:Int):=by omega
   have hk0:(0:Int)≤(k:Int):=by omega
   have hk9:(k:Int)≤4611686018427387904:=by omega
   obtain⟨ba,oa,rfl,hca⟩:=HK.out.names (by omega)
   have hcell:=hca k hk
   obtain⟨nm,hnm⟩:∃ nm,N[k]?=some nm:=⟨_,List.getElem?_eq_getElem hk⟩
   rw[List.getD_eq_getElem?_getD,hnm] at hcell
   have hcell2:wr.cell? ⟨ba,oa+k,none⟩=some (.string nm):=hcell
   have HM:=hid hnm
   clear hca hcell hkn hnm
   by_cases hn:nm=s
   ·subst hn
    have hnn:(nm.toList == nm.toList)=true:=by simp
    have hnq:(nm.toList != nm.toList)=false:=by simp
    by_cases hv:k<V.length
    ·have hvz:(k:Int)<(V.length:Int):=by omega
     have hvy:¬ (V.length:Int)≤(k:Int):=by omega
     obtain⟨gb,ob,rfl,hcb⟩:=HK.out.vals (by omega)
     obtain⟨v,hvk⟩:∃ v,V[k]?=some v:=⟨_,List.getElem?_eq_getElem hv⟩
     obtain⟨v0,v1,v2⟩:=hcb k v hvk
     have HN:=hid (nameV_at HM.out HW.out hvk)
     have cC:=refCheck_any v.k v.n ⟨v.s.toArray⟩ wr
     have eC:(⟨v.s.toArray⟩:ByteArray).data.toList=v.s:=rfl
     rw[eC] at cC
     clear hcb hvk HM HW eC
     obtain⟨bc,hbc⟩:∃ bc,checkB v.k v.n v.s=bc:=⟨_,rfl⟩
     rw[hbc] at HN cC
     have gbl:=World.block_lt_of_cell? wr _ v0
     obtain⟨K,m,t⟩:=v
     dsimp only at v0 v1 v2 cC
     clear hbc
     cases bc with
     | true =>
      go_wp2_with fail
      refine cC.mono ?_
      rintro e w2 ⟨rfl,b2⟩
      have v0:=(b2.cell (p:=⟨gb,ob+k * 3,none⟩) gbl).trans v0
      have v1:=(b2.cell (p:=⟨gb,ob+k * 3+1,none⟩) gbl).trans v1
      have v2:=(b2.cell (p:=⟨gb,ob+k * 3+2,none⟩) gbl).trans v2
      have g1:=(b2.cell (p:=⟨g,1,none⟩) (World.block_lt_of_cell? wr _ g1)).trans g1
      obtain⟨hl,hn,z0,z1,z2⟩:=HZ.out.later b2
      have B6:=hid (put3_at (g:=w.heap.size) ⟨K,m,t⟩ (below_to HB.out b2) (Nat.le_refl _))
      have f0:=(hn.weak 0).2
      have f1:=(hn.weak 1).2
      have f2:=(hn.weak 2).2
      clear hn b2 cC hw1
      go_wp2_with fail
      exact bodyPost_ret (v:=V3 K m ⟨t.toArray⟩) (by simp[results,results129,go_sem, *]) rfl ⟨by rw[HN.out];rfl,B6.out⟩
     | false =>
      go_wp2_with fail
      refine cC.mono ?_
      rintro e w2 ⟨rfl,b2⟩
      obtain⟨hl,hn,z0,z1,z2⟩:=HZ.out.later b2
      have B6:=hid (put3_at (g:=w.heap.size) ⟨0,0,[]⟩ (below_to HB.out b2) (Nat.le_refl _))
      have f0:=(hn.weak 0).2
      have f1:=(hn.weak 1).2
      have f2:=(hn.weak 2).2
      clear hn b2 cC hw1
      go_wp2_with fail
      exact bodyPost_ret (v:=V3 0 0 ⟨#[]⟩) (by simp[results,results129,go_sem, *]) rfl ⟨by rw[HN.out];rfl,B6.out⟩
    ·have hvz:¬ (k:Int)<(V.length:Int):=by omega
     have hvy:(V.length:Int)≤(k:Int):=by omega
     have HN:=hid (nameV_short HW.out (by omega:V.length≤k))
     obtain⟨hl,hn,z0,z1,z2⟩:=HZ.out
     have B6:=hid (put3_at (g:=w.heap.size) ⟨0,0,[]⟩ HB.out (Nat.le_refl _))
     have f0:=(hn.weak 0).2
     have f1:=(hn.weak 1).2
     have f2:=(hn.weak 2).2
     clear hn hw1 HM HW
     go_wp2_with fail
     exact bodyPost_ret (v:=V3 0 0 ⟨#[]⟩) (by simp[results,results129,go_sem, *]) rfl ⟨by rw[HN.out];rfl,B6.out⟩
   ·have hnn:(nm.toList == s.toList)=false:=txt_ne hn
    have hnq:(nm.toList != s.toList)=true:=by simp[bne,hnn]
    have HNX:Hid (∀ j:Nat,j<k+1→N[j]?≠some s):=hid (by
     intro j hj hd
     rcases Nat.lt_or_eq_of_le (Nat.le_of_lt_succ hj) with h | h
     ·exact HW.out j h hd
     ·subst h
      rw[HM.out] at hd
      exact hn (Option.some.inj hd))
    clear hw1 HW HM
    go_wp2_with fail
    go_roundg (N.length - (k+1))
    case measure=>have:=HKN.out;omega
    case rel=>exact⟨k+1,by have:=HKN.out;omega,by go_num,rfl,HNX⟩
  ·have hkz:¬ (k:Int)<(N.length:Int):=by omega
   have HN:=hid (nameV_none (N:=N) (V:=V) (s:=s) (by
    intro j hd
    have:=(List.getElem?_eq_some_iff.1 hd).1
    exact HW.out j (by omega) hd))
   obtain⟨hl,hn,z0,z1,z2⟩:=HZ.out
   have B6:=hid (put3_at (g:=w.heap.size) ⟨0,0,[]⟩ HB.out (Nat.le_refl _))
   have f0:=(hn.weak 0).2
   have f1:=(hn.weak 1).2
   have f2:=(hn.weak 2).2
   clear hn hw1 HW
   go_wp2_with fail
   exact bodyPost_ret (v:=V3 0 0 ⟨#[]⟩) (by simp[results,results129,go_sem, *]) rfl ⟨by rw[HN.out];rfl,B6.out⟩
end
section
open Lib (hid)
open _root_.Go.Proofs.Tryz
set_option maxHeartbeats 1000000
open Go.RowKit
def inZ (x:Int):Bool:=decide (-9223372036854775808≤x∧x≤9223372036854775807)
theorem inZ_yes {x:Int} (h:-9223372036854775808≤x∧x≤9223372036854775807):inZ x=true:=decide_eq_true h
theorem inZ_no {x:Int} (h:¬ (-9223372036854775808≤x∧x≤9223372036854775807)):inZ x=false:=decide_eq_false h
def Res2 (x:Int) (w:World) (e:Ending) (w':World):Prop:=∃ c,e=.returned (.tuple #[.int .i64 c,.bool (inZ x)])∧w=w'∧(inZ x=true→c=x)
theorem res_yes {x c:Int} {w:World} (h:-9223372036854775808≤x∧x≤9223372036854775807) (hc:c=x):Res2 x w (.returned (.tuple #[.int .i64 c,.bool true])) w:=⟨c,by rw[inZ_yes h],rfl,fun _=>hc⟩
theorem res_no {x c:Int} {w:World} (h:¬ (-9223372036854775808≤x∧x≤9223372036854775807)):Res2 x w (.returned (.tuple #[.int .i64 c,.bool false])) w:=⟨c,by rw[inZ_no h],rfl,fun h2=>by rw[inZ_no h] at h2;cases h2⟩
theorem res_of {x c:Int} {b:Bool} {w:World} (h:b=inZ x) (hc:inZ x=true→c=x):Res2 x w (.returned (.tuple #[.int .i64 c,.bool b])) w:=⟨c,by rw[h],rfl,hc⟩
theorem wrap_two (x:Int) (h:-18446744073709551616≤x∧x≤18446744073709551615):(wrap64 x=x∧(-9223372036854775808≤x∧x≤9223372036854775807))∨(wrap64 x=x - 18446744073709551616∧9223372036854775807<x)∨(wrap64 x=x+18446744073709551616∧x < -9223372036854775808):=by
 unfold wrap64;omega
theorem rsum_any (a b:Int) (w:World) (ha:-9223372036854775808≤a∧a≤9223372036854775807) (hb:-9223372036854775808≤b∧b≤9223372036854775807) :
  Calls prog 217 #[.int .i64 a,.int .i64 b] w (Res2 (a+b) w):=by
 obtain⟨c,hc⟩:∃ c,wrap64 (a+b)=c:=⟨_,rfl⟩
 have H:Hid (Res2 (a+b) w (.returned (.tuple #[.int .i64 c,.bool (decide (0≤b) == decide (a≤c))])) w):=hid (by
  subst hc
  rcases wrap_two (a+b) (by omega) with ⟨e,h⟩ | ⟨e,h⟩ | ⟨e,h⟩
  ·refine res_of ?_ (fun _=>e)
   rw[inZ_yes h,e]
   by_cases h0:0≤b
   ·rw[decide_eq_true h0,decide_eq_true (by omega)];rfl
   ·rw[decide_eq_false h0,decide_eq_false (by omega)];rfl
  ·refine res_of ?_ (fun h2=>by rw[inZ_no (by omega)] at h2;cases h2)
   rw[inZ_no (by omega),e,decide_eq_true (show 0≤b by omega),decide_eq_false (by omega)];rfl
  ·refine res_of ?_ (fun h2=>by rw[inZ_no (by omega)] at h2;cases h2)
   rw[inZ_no (by omega),e,decide_eq_false (show ¬ 0≤b by omega),decide_eq_true (by omega)];rfl)
 clear ha hb
 go_enter func217,ntmps217
 go_wp2_with fail
 exact bodyPost_ret (v:=.tuple #[.int .i64 c,.bool (decide (0≤b) == decide (a≤c))]) (by simp[results,results217,go_sem,hc]) rfl H.out
theorem neg_wrap {x:Nat} (h1:0<x) (h2:x≤9223372036854775808):IntKind.u64.wrap (-IntKind.u64.wrap (-(x:Int)))=(x:Int):=by
 simp only[IntKind.wrap,IntKind.bits,IntKind.signed];simp;omega
theorem neg_back {m:Nat} (h:m≤9223372036854775808):wrap64 (IntKind.u64.wrap (-(m:Int)))=-(m:Int):=by
 unfold wrap64
 simp only[IntKind.wrap,IntKind.bits,IntKind.signed]
 simp;omega
theorem quo_u {x:Nat}:IntKind.u64.wrap (Int.tdiv 9223372036854775808 (x:Int))=((9223372036854775808 / x:Nat):Int):=by
 have e:Int.tdiv 9223372036854775808 (x:Int)=((9223372036854775808 / x:Nat):Int):=rfl
 have h:9223372036854775808 / x≤9223372036854775808:=Nat.div_le_self _ _
 rw[e]
 generalize 9223372036854775808 / x=d at *
 simp only[IntKind.wrap,IntKind.bits,IntKind.signed];simp;omega
theorem mul_u {x y:Nat} (h:x * y≤9223372036854775808):IntKind.u64.wrap ((x:Int) * (y:Int))=((x * y:Nat):Int):=by
 rw[← Int.natCast_mul]
 generalize x * y=d at *
 simp only[IntKind.wrap,IntKind.bits,IntKind.signed];simp;omega
theorem big_of {x y:Nat} (hx:x≠0) (h:9223372036854775808 / x<y):9223372036854775808<x * y:=by
 have:=(Nat.div_lt_iff_lt_mul (Nat.pos_of_ne_zero hx)).1 h
 rwa [Nat.mul_comm] at this
theorem small_of {x y:Nat} (hx:x≠0) (h:¬ 9223372036854775808 / x<y):x * y≤9223372036854775808:=by
 have:=(Nat.le_div_iff_mul_le (Nat.pos_of_ne_zero hx)).1 (Nat.le_of_not_lt h)
 rwa [Nat.mul_comm] at this
theorem rprod_00 (x y:Nat) (w:World) (x1:x≤9223372036854775807) (y1:y≤9223372036854775807) :
  Calls prog 216 #[.int .i64 (x:Int),.int .i64 (y:Int)] w (Res2 ((x:Int) * (y:Int)) w):=by
 have ha1:¬ (x:Int)<0:=by omega
 have hb1:¬ (y:Int)<0:=by omega
 have ha2:(x:Int)≤9223372036854775807:=by omega
 have hb2:(y:Int)≤9223372036854775807:=by omega
 have hP:((x:Int) * (y:Int))=((x * y:Nat):Int):=by rw[Int.natCast_mul]
 rw[hP]
 clear hP
 by_cases hx0:x=0
 ·subst hx0
  have H:Hid (Res2 0 w (.returned (.tuple #[.int .i64 0,.bool true])) w):=hid (res_yes (by simp) (by simp))
  clear x1
  go_enter func216,ntmps216
  go_wp2_with fail
  exact bodyPost_ret (v:=.tuple #[.int .i64 0,.bool true]) (by simp[results,results216,go_sem]) rfl H.out
 have hxz:((x:Int) != 0)=true:=by simp;omega
 have hxn:¬ (x:Int)=0:=by omega
 have hD:=quo_u (x:=x)
 by_cases hd:9223372036854775808 / x<y
 ·have hbig:=big_of hx0 hd
  have H:Hid (Res2 (((x * y:Nat):Int)) w (.returned (.tuple #[.int .i64 0,.bool false])) w):=hid (res_no (by omega))
  have hdz:((9223372036854775808 / x:Nat):Int)<(y:Int):=by omega
  generalize x * y=m at *
  generalize 9223372036854775808 / x=d at *
  clear hbig hd hx0
  go_enter func216,ntmps216
  go_wp2_with fail
  exact bodyPost_ret (v:=.tuple #[.int .i64 0,.bool false]) (by simp[results,results216,go_sem]) rfl H.out
 ·have hsm:=small_of hx0 hd
  have hM:=mul_u hsm
  have hdz:¬ ((9223372036854775808 / x:Nat):Int)<(y:Int):=by omega
  by_cases hlt:x * y=9223372036854775808
  ·have hz:¬ ((x * y:Nat):Int)<9223372036854775808:=by omega
   have H:Hid (∀ c,Res2 (((x * y:Nat):Int)) w (.returned (.tuple #[.int .i64 c,.bool false])) w):=hid (fun c=>res_no (by omega))
   generalize x * y=m at *
   generalize 9223372036854775808 / x=d at *
   clear hsm hd hx0 hlt
   go_enter func216,ntmps216
   go_wp2_with fail
   exact bodyPost_ret (v:=.tuple #[.int .i64 (wrap64 (m:Int)),.bool false]) (by simp[results,results216,go_sem]) rfl (H.out _)
  ·have hz:((x * y:Nat):Int)<9223372036854775808:=by omega
   have hwz:wrap64 ((x * y:Nat):Int)=((x * y:Nat):Int):=by unfold wrap64;omega
   have H:Hid (Res2 (((x * y:Nat):Int)) w (.returned (.tuple #[.int .i64 ((x * y:Nat):Int),.bool true])) w):=hid (res_yes (by omega) rfl)
   generalize x * y=m at *
   generalize 9223372036854775808 / x=d at *
   clear hsm hd hx0 hlt
   go_enter func216,ntmps216
   go_wp2_with fail
   exact bodyPost_ret (v:=.tuple #[.int .i64 (m:Int),.bool true]) (by simp[results,results216,go_sem]) rfl H.out
theorem rprod_01 (x y:Nat) (w:World) (x1:x≤9223372036854775807) (y0:0<y) (y1:y≤9223372036854775808) :
  Calls prog 216 #[.int .i64 (x:Int),.int .i64 (-(y:Int))] w (Res2 ((x:Int) * (-(y:Int))) w):=by
 have ha1:¬ (x:Int)<0:=by omega
 have hb1:-(y:Int)<0:=by omega
 have ha2:(x:Int)≤9223372036854775807:=by omega
 have hb2:-9223372036854775808≤-(y:Int):=by omega
 have hBw:=neg_wrap y0 y1
 have hP:((x:Int) * (-(y:Int)))=-((x * y:Nat):Int):=by rw[Int.natCast_mul,Int.mul_neg]
 rw[hP]
 clear hP
 by_cases hx0:x=0
 ·subst hx0
  have H:Hid (Res2 0 w (.returned (.tuple #[.int .i64 0,.bool true])) w):=hid (res_yes (by simp) (by simp))
  clear x1
  go_enter func216,ntmps216
  go_wp2_with fail
  exact bodyPost_ret (v:=.tuple #[.int .i64 0,.bool true]) (by simp[results,results216,go_sem]) rfl H.out
 have hxz:((x:Int) != 0)=true:=by simp;omega
 have hxn:¬ (x:Int)=0:=by omega
 have hD:=quo_u (x:=x)
 by_cases hd:9223372036854775808 / x<y
 ·have hbig:=big_of hx0 hd
  have H:Hid (Res2 (-((x * y:Nat):Int)) w (.returned (.tuple #[.int .i64 0,.bool false])) w):=hid (res_no (by omega))
  have hdz:((9223372036854775808 / x:Nat):Int)<(y:Int):=by omega
  generalize x * y=m at *
  generalize 9223372036854775808 / x=d at *
  clear hbig hd hx0
  go_enter func216,ntmps216
  go_wp2_with fail
  exact bodyPost_ret (v:=.tuple #[.int .i64 0,.bool false]) (by simp[results,results216,go_sem]) rfl H.out
 ·have hsm:=small_of hx0 hd
  have hM:=mul_u hsm
  have hdz:¬ ((9223372036854775808 / x:Nat):Int)<(y:Int):=by omega
  have hN:=neg_back hsm
  have hle:((x * y:Nat):Int)≤9223372036854775808:=by omega
  have H:Hid (Res2 (-((x * y:Nat):Int)) w (.returned (.tuple #[.int .i64 (-((x * y:Nat):Int)),.bool true])) w):=hid (res_yes (by omega) rfl)
  generalize x * y=m at *
  generalize 9223372036854775808 / x=d at *
  clear hsm hd hx0
  go_enter func216,ntmps216
  go_wp2_with fail
  exact bodyPost_ret (v:=.tuple #[.int .i64 (-(m:Int)),.bool true]) (by simp[results,results216,go_sem]) rfl H.out
theorem rprod_10 (x y:Nat) (w:World) (x0:0<x) (x1:x≤9223372036854775808) (y1:y≤9223372036854775807) :
  Calls prog 216 #[.int .i64 (-(x:Int)),.int .i64 (y:Int)] w (Res2 ((-(x:Int)) * (y:Int)) w):=by
 have ha1:-(x:Int)<0:=by omega
 have hb1:¬ (y:Int)<0:=by omega
 have ha2:-9223372036854775808≤-(x:Int):=by omega
 have hb2:(y:Int)≤9223372036854775807:=by omega
 have hA:=neg_wrap x0 x1
 have hP:((-(x:Int)) * (y:Int))=-((x * y:Nat):Int):=by rw[Int.natCast_mul,Int.neg_mul]
 rw[hP]
 clear hP
 have hx0:x≠0:=by omega
 have hxz:((x:Int) != 0)=true:=by simp;omega
 have hxn:¬ (x:Int)=0:=by omega
 have hD:=quo_u (x:=x)
 by_cases hd:9223372036854775808 / x<y
 ·have hbig:=big_of hx0 hd
  have H:Hid (Res2 (-((x * y:Nat):Int)) w (.returned (.tuple #[.int .i64 0,.bool false])) w):=hid (res_no (by omega))
  have hdz:((9223372036854775808 / x:Nat):Int)<(y:Int):=by omega
  generalize x * y=m at *
  generalize 9223372036854775808 / x=d at *
  clear hbig hd hx0
  go_enter func216,ntmps216
  go_wp2_with fail
  exact bodyPost_ret (v:=.tuple #[.int .i64 0,.bool false]) (by simp[results,results216,go_sem]) rfl H.out
 ·have hsm:=small_of hx0 hd
  have hM:=mul_u hsm
  have hdz:¬ ((9223372036854775808 / x:Nat):Int)<(y:Int):=by omega
  have hN:=neg_back hsm
  have hle:((x * y:Nat):Int)≤9223372036854775808:=by omega
  have H:Hid (Res2 (-((x * y:Nat):Int)) w (.returned (.tuple #[.int .i64 (-((x * y:Nat):Int)),.bool true])) w):=hid (res_yes (by omega) rfl)
  generalize x * y=m at *
  generalize 9223372036854775808 / x=d at *
  clear hsm hd hx0
  go_enter func216,ntmps216
  go_wp2_with fail
  exact bodyPost_ret (v:=.tuple #[.int .i64 (-(m:Int)),.bool true]) (by simp[results,results216,go_sem]) rfl H.out
theorem rprod_11 (x y:Nat) (w:World) (x0:0<x) (x1:x≤9223372036854775808) (y0:0<y) (y1:y≤9223372036854775808) :
  Calls prog 216 #[.int .i64 (-(x:Int)),.int .i64 (-(y:Int))] w (Res2 ((-(x:Int)) * (-(y:Int))) w):=by
 have ha1:-(x:Int)<0:=by omega
 have hb1:-(y:Int)<0:=by omega
 have ha2:-9223372036854775808≤-(x:Int):=by omega
 have hb2:-9223372036854775808≤-(y:Int):=by omega
 have hA:=neg_wrap x0 x1
 have hBw:=neg_wrap y0 y1
 have hP:((-(x:Int)) * (-(y:Int)))=((x * y:Nat):Int):=by rw[Int.natCast_mul,Int.neg_mul_neg]
 rw[hP]
 clear hP
 have hx0:x≠0:=by omega
 have hxz:((x:Int) != 0)=true:=by simp;omega
 have hxn:¬ (x:Int)=0:=by omega
 have hD:=quo_u (x:=x)
 by_cases hd:9223372036854775808 / x<y
 ·have hbig:=big_of hx0 hd
  have H:Hid (Res2 (((x * y:Nat):Int)) w (.returned (.tuple #[.int .i64 0,.bool false])) w):=hid (res_no (by omega))
  have hdz:((9223372036854775808 / x:Nat):Int)<(y:Int):=by omega
  generalize x * y=m at *
  generalize 9223372036854775808 / x=d at *
  clear hbig hd hx0
  go_enter func216,ntmps216
  go_wp2_with fail
  exact bodyPost_ret (v:=.tuple #[.int .i64 0,.bool false]) (by simp[results,results216,go_sem]) rfl H.out
 ·have hsm:=small_of hx0 hd
  have hM:=mul_u hsm
  have hdz:¬ ((9223372036854775808 / x:Nat):Int)<(y:Int):=by omega
  by_cases hlt:x * y=9223372036854775808
  ·have hz:¬ ((x * y:Nat):Int)<9223372036854775808:=by omega
   have H:Hid (∀ c,Res2 (((x * y:Nat):Int)) w (.returned (.tuple #[.int .i64 c,.bool false])) w):=hid (fun c=>res_no (by omega))
   generalize x * y=m at *
   generalize 9223372036854775808 / x=d at *
   clear hsm hd hx0 hlt
   go_enter func216,ntmps216
   go_wp2_with fail
   exact bodyPost_ret (v:=.tuple #[.int .i64 (wrap64 (m:Int)),.bool false]) (by simp[results,results216,go_sem]) rfl (H.out _)
  ·have hz:((x * y:Nat):Int)<9223372036854775808:=by omega
   have hwz:wrap64 ((x * y:Nat):Int)=((x * y:Nat):Int):=by unfold wrap64;omega
   have H:Hid (Res2 (((x * y:Nat):Int)) w (.returned (.tuple #[.int .i64 ((x * y:Nat):Int),.bool true])) w):=hid (res_yes (by omega) rfl)
   generalize x * y=m at *
   generalize 9223372036854775808 / x=d at *
   clear hsm hd hx0 hlt
   go_enter func216,ntmps216
   go_wp2_with fail
   exact bodyPost_ret (v:=.tuple #[.int .i64 (m:Int),.bool true]) (by simp[results,results216,go_sem]) rfl H.out
theorem rproduct_any (a b:Int) (w:World) (ha:-9223372036854775808≤a∧a≤9223372036854775807) (hb:-9223372036854775808≤b∧b≤9223372036854775807) :
  Calls prog 216 #[.int .i64 a,.int .i64 b] w (Res2 (a * b) w):=by
 by_cases h1:a<0
 ·obtain⟨x,rfl⟩:∃ x:Nat,a=-(x:Int):=⟨a.natAbs,by omega⟩
  by_cases h2:b<0
  ·obtain⟨y,rfl⟩:∃ y:Nat,b=-(y:Int):=⟨b.natAbs,by omega⟩
   exact rprod_11 x y w (by omega) (by omega) (by omega) (by omega)
  ·obtain⟨y,rfl⟩:∃ y:Nat,b=(y:Int):=⟨b.toNat,by omega⟩
   exact rprod_10 x y w (by omega) (by omega) (by omega)
 ·obtain⟨x,rfl⟩:∃ x:Nat,a=(x:Int):=⟨a.toNat,by omega⟩
  by_cases h2:b<0
  ·obtain⟨y,rfl⟩:∃ y:Nat,b=-(y:Int):=⟨b.natAbs,by omega⟩
   exact rprod_01 x y w (by omega) (by omega) (by omega)
  ·obtain⟨y,rfl⟩:∃ y:Nat,b=(y:Int):=⟨b.toNat,by omega⟩
   exact rprod_00 x y w (by omega) (by omega)
end
end Go.Proofs.YtbbblmedoagncaaGreatDoor
