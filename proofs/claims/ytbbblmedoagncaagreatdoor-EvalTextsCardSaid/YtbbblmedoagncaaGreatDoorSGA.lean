/- Pcs, CutMath, VText, VShow, Cls, Win, LexP, VHex -/
import Derived.Lib.TrimUEq
import Derived.Lib.MapLaws
import Derived.Lib.ValidLaws
import Derived.Lib.RuneBytes
import Derived.Lib.RuneCount
import Derived.Lib.ItoaNum
import Derived.Lib.ParseIntB
namespace Go.Proofs.YtbbblmedoagncaaGreatDoor
section
open Go.Lib
abbrev Pc:=Nat × List UInt8
def pcsF:Nat→List UInt8→List Pc
 | 0,_=>[]
 | f+1,l=>if l=[] then [] else ((decodeL l).1,l.take (decodeL l).2) :: pcsF f (l.drop (decodeL l).2)
def pcs (l:List UInt8):List Pc:=pcsF l.length l
theorem pcsF_fuel:∀ (n m:Nat) (l:List UInt8),l.length≤n→l.length≤m→pcsF n l=pcsF m l
 | 0,0,_,_,_=>rfl
 | 0,m+1,l,hn,_=>by
  have:l=[]:=List.eq_nil_of_length_eq_zero (by omega)
  subst this;simp[pcsF]
 | n+1,0,l,_,hm=>by
  have:l=[]:=List.eq_nil_of_length_eq_zero (by omega)
  subst this;simp[pcsF]
 | n+1,m+1,l,hn,hm=>by
  unfold pcsF
  by_cases hne:l=[]
  ·simp[hne]
  ·have hw:=decodeL_width l
   rw[if_neg hne,if_neg hne,pcsF_fuel n m (l.drop (decodeL l).2) (by rw[List.length_drop];omega) (by rw[List.length_drop];omega)]
theorem pcs_nil:pcs []=[]:=rfl
theorem pcs_step (l:List UInt8) (hne:l≠[]):pcs l=((decodeL l).1,l.take (decodeL l).2) :: pcs (l.drop (decodeL l).2):=by
 have hl:0<l.length:=List.length_pos_iff.2 hne
 have hw:=decodeL_width l
 obtain⟨n,hn⟩:∃ n,l.length=n+1:=⟨l.length - 1,by omega⟩
 unfold pcs
 rw[hn]
 show (if l=[] then [] else _)=_
 rw[if_neg hne,pcsF_fuel n (l.drop (decodeL l).2).length _ (by rw[List.length_drop];omega) (Nat.le_refl _)]
theorem pcs_induct {Q:List UInt8→Prop} (h0:Q []) (h1:∀ l,l≠[]→Q (l.drop (decodeL l).2)→Q l) (l:List UInt8):Q l:=by
 obtain⟨n,hn⟩:∃ n,l.length≤n:=⟨_,Nat.le_refl _⟩
 induction n generalizing l with
 | zero =>
  have:l=[]:=List.eq_nil_of_length_eq_zero (by omega)
  subst this;exact h0
 | succ n ih =>
  by_cases hne:l=[]
  ·subst hne;exact h0
  ·have hw:=decodeL_width l
   have hl:0<l.length:=List.length_pos_iff.2 hne
   exact h1 l hne (ih _ (by rw[List.length_drop];omega))
def flat (p:List Pc):List UInt8:=p.flatMap (·.2)
theorem flat_nil:flat []=[]:=rfl
theorem flat_cons (x:Pc) (p:List Pc):flat (x :: p)=x.2++flat p:=by simp[flat]
theorem flat_append (p q:List Pc):flat (p++q)=flat p++flat q:=by simp[flat]
theorem flat_pcs (l:List UInt8):flat (pcs l)=l:=by
 induction l using pcs_induct with
 | h0=>rfl
 | h1 l hne ih=>rw[pcs_step l hne,flat_cons,ih];exact List.take_append_drop _ _
def bad (x:Pc):Prop:=x.1=65533∧x.2.length=1
instance (x:Pc):Decidable (bad x):=by unfold bad;infer_instance
def runesL (l:List UInt8):List Nat:=(pcs l).map (·.1)
def countL (l:List UInt8):Nat:=(pcs l).length
def cutL (l:List UInt8) (n:Nat):List UInt8:=flat ((pcs l).take n)
theorem runeCount_pcs (s:ByteArray):∀ (f pos:Nat),s.size≤pos+f→runeCountFrom s f pos=(pcs (s.data.toList.drop pos)).length
 | 0,pos,h=>by
  have:s.data.toList.drop pos=[]:=List.drop_eq_nil_of_le (by rw[Array.length_toList];exact h)
  rw[this];rfl
 | f+1,pos,h=>by
  unfold runeCountFrom
  by_cases hp:pos<s.size
  ·have hne:s.data.toList.drop pos≠[]:=by
    intro e;have:=congrArg List.length e;rw[List.length_drop,Array.length_toList] at this
    have:s.size=s.data.size:=rfl
    simp at *;omega
   have hw:=width_pos s pos
   rw[if_pos hp,pcs_step _ hne,decodeL_drop,List.drop_drop,runeCount_pcs s f _ (by omega)]
   simp;omega
  ·have:s.data.toList.drop pos=[]:=List.drop_eq_nil_of_le (by rw[Array.length_toList];show s.size≤pos;omega)
   rw[if_neg hp,this];rfl
theorem runeCount_eq (s:ByteArray):runeCount s=countL s.data.toList:=by
 have:=runeCount_pcs s s.size 0 (by omega)
 simpa[runeCount,countL] using this
end
section
open Go.Lib
theorem decodeN_one (n b0 b1 b2 b3:Nat) (h:b0<128):decodeN n b0 b1 b2 b3=(b0,1):=by unfold decodeN;rw[if_pos h]
theorem decodeN_two (n b0 b1 b2 b3:Nat) (a1:b0 / 32=6) (a2:1<n) (a3:b1 / 64=2) (av:128≤b0 % 32 * 64+b1 % 64):decodeN n b0 b1 b2 b3=(b0 % 32 * 64+b1 % 64,2):=by
 unfold decodeN
 rw[if_neg (by omega),if_pos ⟨a1,a2,a3⟩,if_pos av]
theorem decodeN_three (n b0 b1 b2 b3:Nat) (a1:b0 / 16=14) (a2:2<n) (a3:b1 / 64=2) (a4:b2 / 64=2) (av:2048≤b0 % 16 * 4096+b1 % 64 * 64+b2 % 64) (as:b0 % 16 * 4096+b1 % 64 * 64+b2 % 64<55296∨57344≤b0 % 16 * 4096+b1 % 64 * 64+b2 % 64) :
  decodeN n b0 b1 b2 b3=(b0 % 16 * 4096+b1 % 64 * 64+b2 % 64,3):=by
 unfold decodeN
 rw[if_neg (by omega),if_neg (by omega),if_pos ⟨a1,⟨by omega,a3⟩,a2,a4⟩,if_pos ⟨av,by omega⟩]
theorem decodeN_four (n b0 b1 b2 b3:Nat) (a1:b0 / 8=30) (a2:3<n) (a3:b1 / 64=2) (a4:b2 / 64=2) (a5:b3 / 64=2) (av:65536≤b0 % 8 * 262144+b1 % 64 * 4096+b2 % 64 * 64+b3 % 64) (aw:b0 % 8 * 262144+b1 % 64 * 4096+b2 % 64 * 64+b3 % 64≤1114111) :
  decodeN n b0 b1 b2 b3=(b0 % 8 * 262144+b1 % 64 * 4096+b2 % 64 * 64+b3 % 64,4):=by
 unfold decodeN
 rw[if_neg (by omega),if_neg (by omega),if_neg (by omega),if_pos ⟨a1,⟨by omega,a3⟩,⟨by omega,a4⟩,a2,a5⟩,if_pos ⟨av,by omega⟩]
theorem decodeN_take (n m j b0 b1 b2 b3 c1 c2 c3:Nat) (hj:1≤j) (hm:m=min j n) (h1:1<j→c1=b1) (h2:2<j→c2=b2) (h3:3<j→c3=b3) (hw:(decodeN n b0 b1 b2 b3).2≤j):decodeN m b0 c1 c2 c3=decodeN n b0 b1 b2 b3:=by
 rcases decodeN_shape n b0 b1 b2 b3 with ⟨c,e⟩ | ⟨a1,a2,a3,av,e⟩ | ⟨a1,a2,a3,a4,av,as,e⟩ | ⟨a1,a2,a3,a4,a5,av,aw,e⟩ | e
 ·rw[e];exact decodeN_one _ _ _ _ _ c
 ·rw[e] at hw ⊢;dsimp only at hw
  have:=h1 (by omega);subst this
  exact decodeN_two _ _ _ _ _ a1 (by omega) a3 av
 ·rw[e] at hw ⊢;dsimp only at hw
  have:=h1 (by omega);subst this
  have:=h2 (by omega);subst this
  exact decodeN_three _ _ _ _ _ a1 (by omega) a3 a4 av as
 ·rw[e] at hw ⊢;dsimp only at hw
  have:=h1 (by omega);subst this
  have:=h2 (by omega);subst this
  have:=h3 (by omega);subst this
  exact decodeN_four _ _ _ _ _ a1 (by omega) a3 a4 a5 av aw
 ·rw[e]
  rcases decodeN_shape m b0 c1 c2 c3 with ⟨c,f⟩ | ⟨a1,a2,a3,av,f⟩ | ⟨a1,a2,a3,a4,av,as,f⟩ | ⟨a1,a2,a3,a4,a5,av,aw,f⟩ | f
  ·rw[decodeN_one _ _ _ _ _ c] at e;simp only[Prod.mk.injEq,and_true] at e;omega
  ·have:=h1 (by omega);subst this
   rw[decodeN_two n b0 c1 b2 b3 a1 (by omega) a3 av] at e;simp only[Prod.mk.injEq] at e;omega
  ·have:=h1 (by omega);subst this
   have:=h2 (by omega);subst this
   rw[decodeN_three n b0 c1 c2 b3 a1 (by omega) a3 a4 av as] at e;simp only[Prod.mk.injEq] at e;omega
  ·have:=h1 (by omega);subst this
   have:=h2 (by omega);subst this
   have:=h3 (by omega);subst this
   rw[decodeN_four n b0 c1 c2 c3 a1 (by omega) a3 a4 a5 av aw] at e;simp only[Prod.mk.injEq] at e;omega
  ·exact f
theorem getD_take (l:List UInt8) (j k:Nat) (h:k<j):(l.take j).getD k 0=l.getD k 0:=by
 simp[List.getD,h]
theorem decodeL_take (l:List UInt8) (j:Nat) (hw:(decodeL l).2≤j):decodeL (l.take j)=decodeL l:=by
 have h1:=decodeL_width l
 rw[decodeL_N] at hw h1
 rw[decodeL_N,decodeL_N,List.length_take,getD_take l j 0 (by omega)]
 exact decodeN_take l.length _ j _ _ _ _ _ _ _ (by omega) rfl (fun h=>by rw[getD_take l j 1 h]) (fun h=>by rw[getD_take l j 2 h]) (fun h=>by rw[getD_take l j 3 h]) hw
theorem flat_prefix (l:List UInt8) (m:Nat):l.take (flat ((pcs l).take m)).length=flat ((pcs l).take m):=by
 have e:flat ((pcs l).take m)++flat ((pcs l).drop m)=l:=by rw[← flat_append,List.take_append_drop,flat_pcs]
 generalize flat ((pcs l).take m)=A at e ⊢
 rw[← e,List.take_left]
theorem pcs_take (l:List UInt8):∀ m,pcs (flat ((pcs l).take m))=(pcs l).take m:=by
 induction l using pcs_induct with
 | h0=>intro m;simp[pcs_nil,flat_nil]
 | h1 l hne ih =>
  intro m
  cases m with
  | zero=>simp[flat_nil,pcs_nil]
  | succ m =>
   have hl:0<l.length:=List.length_pos_iff.2 hne
   have hw1:=decodeL_width l
   have hw2:=decodeL_le l hne
   have hpre:∃ k,flat ((pcs (l.drop (decodeL l).2)).take m)=(l.drop (decodeL l).2).take k:=⟨_,(flat_prefix _ m).symm⟩
   obtain⟨k,hk⟩:=hpre
   have e1:flat ((pcs l).take (m+1))=l.take ((decodeL l).2+k):=by
    rw[pcs_step l hne,List.take_succ_cons,flat_cons,hk]
    show l.take (decodeL l).2++_=_
    rw[List.take_add]
   have hd:=decodeL_take l ((decodeL l).2+k) (by omega)
   have hne2:l.take ((decodeL l).2+k)≠[]:=by
    intro h;have:=congrArg List.length h;rw[List.length_take] at this;simp only[List.length_nil] at this;omega
   rw[e1,pcs_step _ hne2,hd,List.take_take,Nat.min_eq_left (by omega)]
   rw[show (l.take ((decodeL l).2+k)).drop (decodeL l).2=(l.drop (decodeL l).2).take k by rw[List.drop_take,Nat.add_sub_cancel_left]]
   rw[← hk,ih m,pcs_step l hne,List.take_succ_cons]
theorem pcs_drop (l:List UInt8):∀ m,pcs (l.drop (flat ((pcs l).take m)).length)=(pcs l).drop m:=by
 induction l using pcs_induct with
 | h0=>intro m;simp[pcs_nil]
 | h1 l hne ih =>
  intro m
  cases m with
  | zero=>simp[flat_nil]
  | succ m =>
   have hw2:=decodeL_le l hne
   conv=>lhs;rw[pcs_step l hne]
   rw[List.take_succ_cons,flat_cons,List.length_append]
   show pcs (l.drop ((l.take (decodeL l).2).length+_))=_
   rw[List.length_take,Nat.min_eq_left hw2,← List.drop_drop,ih m,pcs_step l hne,List.drop_succ_cons]
theorem cutL_prefix (l:List UInt8) (m:Nat):l.take (cutL l m).length=cutL l m:=flat_prefix l m
theorem cutL_le (l:List UInt8) (m:Nat):(cutL l m).length≤l.length:=by
 have:=congrArg List.length (cutL_prefix l m);rw[List.length_take] at this;omega
theorem count_cut (l:List UInt8) (m:Nat):countL (cutL l m)=min m (countL l):=by
 unfold countL cutL;rw[pcs_take,List.length_take]
theorem cutL_nil (m:Nat):cutL [] m=[]:=by unfold cutL;simp[pcs_nil,flat_nil]
theorem cutL_zero (l:List UInt8):cutL l 0=[]:=by unfold cutL;simp[flat_nil]
theorem cutL_succ (l:List UInt8) (hne:l≠[]) (m:Nat):cutL l (m+1)=l.take (decodeL l).2++cutL (l.drop (decodeL l).2) m:=by
 unfold cutL;rw[pcs_step l hne,List.take_succ_cons,flat_cons]
end
section
open Go.Lib
def validL (l:List UInt8):Bool:=(pcs l).all fun x=>!decide (bad x)
theorem validD_eq (l:List UInt8):Lib.validD l=validL l:=by
 induction l using pcs_induct with
 | h0=>rfl
 | h1 l hne ih =>
  have hw:=Lib.decodeL_le l hne
  unfold validL at ih ⊢
  rw[Lib.validD_step l hne,pcs_step l hne,List.all_cons,← ih]
  have e:bad ((Lib.decodeL l).1,l.take (Lib.decodeL l).2)↔((Lib.decodeL l).1=65533∧(Lib.decodeL l).2=1):=by
   unfold bad;simp only[List.length_take,Nat.min_eq_left hw]
  by_cases hb:(Lib.decodeL l).1=65533∧(Lib.decodeL l).2=1
  ·rw[if_pos hb,decide_eq_true (e.2 hb)];rfl
  ·rw[if_neg hb,decide_eq_false (fun h=>hb (e.1 h))];rfl
def Solid (x:Pc):Prop:=x.2≠[]∧∀ t,decodeL (x.2++t)=(x.1,x.2.length)
theorem pcs_cons_solid (x:Pc) (t:List UInt8) (h:Solid x):pcs (x.2++t)=x :: pcs t:=by
 have hne:x.2++t≠[]:=by intro e;exact h.1 (List.append_eq_nil_iff.1 e).1
 rw[pcs_step _ hne,h.2 t,List.take_left,List.drop_left]
theorem pcs_solid:∀ (P:List Pc),(∀ x ∈ P,Solid x)→pcs (flat P)=P
 | [],_=>rfl
 | x :: P,h=>by
  rw[flat_cons,pcs_cons_solid x _ (h x (by simp)),pcs_solid P (fun y hy=>h y (by simp[hy]))]
theorem getD_app_left (a t:List UInt8) (k:Nat) (h:k<a.length):(a++t).getD k 0=a.getD k 0:=by
 simp[List.getD,List.getElem?_append_left h]
theorem solid_of_good (l:List UInt8) (hne:l≠[]) (hg:¬ ((decodeL l).1=65533∧(decodeL l).2=1)):Solid ((decodeL l).1,l.take (decodeL l).2):=by
 have hw1:=decodeL_width l
 have hw2:=decodeL_le l hne
 have hl:(l.take (decodeL l).2).length=(decodeL l).2:=by rw[List.length_take,Nat.min_eq_left hw2]
 refine⟨?_,fun t=>?_⟩
 ·intro e;have:=congrArg List.length e;dsimp only at this;rw[hl] at this;simp only[List.length_nil] at this;omega
 ·show decodeL (l.take (decodeL l).2++t)=((decodeL l).1,(l.take (decodeL l).2).length)
  rw[hl]
  have gd:∀ k,k<(decodeL l).2→(l.take (decodeL l).2++t).getD k 0=l.getD k 0:=fun k hk=>by rw[getD_app_left _ _ _ (by omega),getD_take _ _ _ hk]
  have hlen:(decodeL l).2≤(l.take (decodeL l).2++t).length:=by rw[List.length_append,hl];omega
  generalize l.take (decodeL l).2++t=m at gd hlen ⊢
  rw[decodeL_N l] at hg gd hlen ⊢
  rw[decodeL_N m]
  rcases decodeN_shape l.length (l.getD 0 0).toNat (l.getD 1 0).toNat (l.getD 2 0).toNat (l.getD 3 0).toNat with ⟨c,e⟩ | ⟨a1,a2,a3,av,e⟩ | ⟨a1,a2,a3,a4,av,asr,e⟩ | ⟨a1,a2,a3,a4,a5,av,aw,e⟩ | e
  all_goals rw[e] at hg gd hlen ⊢;dsimp only at hg gd hlen ⊢
  ·rw[gd 0 (by omega)];exact decodeN_one _ _ _ _ _ c
  ·rw[gd 0 (by omega),gd 1 (by omega)];exact decodeN_two _ _ _ _ _ a1 (by omega) a3 av
  ·rw[gd 0 (by omega),gd 1 (by omega),gd 2 (by omega)];exact decodeN_three _ _ _ _ _ a1 (by omega) a3 a4 av asr
  ·rw[gd 0 (by omega),gd 1 (by omega),gd 2 (by omega),gd 3 (by omega)];exact decodeN_four _ _ _ _ _ a1 (by omega) a3 a4 a5 av aw
  ·exact absurd ⟨rfl,rfl⟩ hg
theorem bad_iff (l:List UInt8) (hne:l≠[]):bad ((decodeL l).1,l.take (decodeL l).2)↔((decodeL l).1=65533∧(decodeL l).2=1):=by
 have hw:=decodeL_le l hne
 unfold bad;simp only[List.length_take,Nat.min_eq_left hw]
theorem solid_mem (l:List UInt8):∀ x ∈ pcs l,¬ bad x→Solid x:=by
 induction l using pcs_induct with
 | h0=>intro x hx;cases hx
 | h1 l hne ih =>
  intro x hx hb
  rw[pcs_step l hne] at hx
  rcases List.mem_cons.1 hx with rfl | hx
  ·exact solid_of_good l hne (fun h=>hb ((bad_iff l hne).2 h))
  ·exact ih x hx hb
theorem valid_solid (l:List UInt8) (h:validL l=true):∀ x ∈ pcs l,Solid x:=fun x hx=>by
 have:=List.all_eq_true.1 h x hx
 exact solid_mem l x hx (by simpa using this)
theorem pcs_append (a b:List UInt8) (h:validL a=true):pcs (a++b)=pcs a++pcs b:=by
 have:∀ (P:List Pc),(∀ x ∈ P,Solid x)→pcs (flat P++b)=P++pcs b:=by
  intro P
  induction P with
  | nil=>intro _;rfl
  | cons x P ih =>
   intro hP
   rw[flat_cons,List.append_assoc,pcs_cons_solid x _ (hP x (by simp)),ih (fun y hy=>hP y (by simp[hy]))];rfl
 have:=this (pcs a) (valid_solid a h)
 rwa [flat_pcs] at this
def Scalar (r:Int):Prop:=(0≤r∧r<55296)∨(57343<r∧r≤1114111)
theorem u8_of (x:Int) (h0:0≤x) (h1:x<256):(((x.toNat.toUInt8).toNat:Nat):Int)=x:=by
 simp;omega
theorem solid_encode (r:Int) (h:Scalar r):Solid (r.toNat,encodeRune r):=by
 unfold Scalar at h
 by_cases c1:r≤127
 ·refine⟨by unfold encodeRune;rw[encodeRuneZ_one (by omega) c1];simp,fun t=>?_⟩
  unfold encodeRune;rw[encodeRuneZ_one (by omega) c1,decodeL_N]
  have e:=u8_of r (by omega) (by omega)
  simp only[List.map_cons,List.map_nil,List.cons_append,List.nil_append,List.getD_cons_zero,List.length_cons,List.length_nil]
  generalize r.toNat.toUInt8=b at e ⊢
  rw[decodeN_one _ _ _ _ _ (by omega)]
  refine Prod.ext ?_ ?_<;>dsimp only<;>omega
 by_cases c2:r≤2047
 ·refine⟨by unfold encodeRune;rw[encodeRuneZ_two (by omega) c2];simp,fun t=>?_⟩
  unfold encodeRune;rw[encodeRuneZ_two (by omega) c2,decodeL_N]
  have e0:=u8_of (192+r / 64) (by omega) (by omega)
  have e1:=u8_of (128+r % 64) (by omega) (by omega)
  simp only[List.map_cons,List.map_nil,List.cons_append,List.nil_append,List.getD_cons_zero,List.getD_cons_succ,List.length_cons,List.length_nil]
  generalize (192+r / 64).toNat.toUInt8=b0 at e0 ⊢
  generalize (128+r % 64).toNat.toUInt8=b1 at e1 ⊢
  rw[decodeN_two _ _ _ _ _ (by omega) (by omega) (by omega) (by omega)]
  refine Prod.ext ?_ ?_<;>dsimp only<;>omega
 by_cases c3:r≤65535
 ·refine⟨by unfold encodeRune;rw[encodeRuneZ_three (by omega)];simp,fun t=>?_⟩
  unfold encodeRune;rw[encodeRuneZ_three (by omega),decodeL_N]
  have e0:=u8_of (224+r / 4096) (by omega) (by omega)
  have e1:=u8_of (128+r / 64 % 64) (by omega) (by omega)
  have e2:=u8_of (128+r % 64) (by omega) (by omega)
  simp only[List.map_cons,List.map_nil,List.cons_append,List.nil_append,List.getD_cons_zero,List.getD_cons_succ,List.length_cons,List.length_nil]
  generalize (224+r / 4096).toNat.toUInt8=b0 at e0 ⊢
  generalize (128+r / 64 % 64).toNat.toUInt8=b1 at e1 ⊢
  generalize (128+r % 64).toNat.toUInt8=b2 at e2 ⊢
  rw[decodeN_three _ _ _ _ _ (by omega) (by omega) (by omega) (by omega) (by omega) (by omega)]
  refine Prod.ext ?_ ?_<;>dsimp only<;>omega
 ·refine⟨by unfold encodeRune;rw[encodeRuneZ_four (by omega) (by omega)];simp,fun t=>?_⟩
  unfold encodeRune;rw[encodeRuneZ_four (by omega) (by omega),decodeL_N]
  have e0:=u8_of (240+r / 262144) (by omega) (by omega)
  have e1:=u8_of (128+r / 4096 % 64) (by omega) (by omega)
  have e2:=u8_of (128+r / 64 % 64) (by omega) (by omega)
  have e3:=u8_of (128+r % 64) (by omega) (by omega)
  simp only[List.map_cons,List.map_nil,List.cons_append,List.nil_append,List.getD_cons_zero,List.getD_cons_succ,List.length_cons,List.length_nil]
  generalize (240+r / 262144).toNat.toUInt8=b0 at e0 ⊢
  generalize (128+r / 4096 % 64).toNat.toUInt8=b1 at e1 ⊢
  generalize (128+r / 64 % 64).toNat.toUInt8=b2 at e2 ⊢
  generalize (128+r % 64).toNat.toUInt8=b3 at e3 ⊢
  rw[decodeN_four _ _ _ _ _ (by omega) (by omega) (by omega) (by omega) (by omega) (by omega) (by omega)]
  refine Prod.ext ?_ ?_<;>dsimp only<;>omega
theorem scalar_of (l:List UInt8):Scalar ((decodeL l).1:Int):=by
 unfold Scalar
 have k0:=(l.getD 0 0).toNat_lt
 rw[decodeL_N]
 rcases decodeN_shape l.length (l.getD 0 0).toNat (l.getD 1 0).toNat (l.getD 2 0).toNat (l.getD 3 0).toNat with ⟨c,e⟩ | ⟨a1,a2,a3,av,e⟩ | ⟨a1,a2,a3,a4,av,asr,e⟩ | ⟨a1,a2,a3,a4,a5,av,aw,e⟩ | e
 all_goals rw[e];dsimp only;omega
end
section
open Go.Lib
def checkB (K n:Int) (s:List UInt8):Bool :=
 if K=0 then decide (n=0) && decide (s=[])
 else if K=1 then decide (s=[])
 else if K=2 then decide (n=0∨n=1) && decide (s=[])
 else if K=3 then decide (n=0) && (validL s && decide (countL s≤100))
 else if K=4 then decide (1≤n∧n≤4) && decide (s=[])
 else false
def hx (d:Nat):UInt8:=if d<10 then UInt8.ofNat (48+d) else UInt8.ofNat (87+d)
def hexL (r:Nat):List UInt8:=[hx (r / 4096 % 16),hx (r / 256 % 16),hx (r / 16 % 16),hx (r % 16)]
def Ctrl (r:Nat):Prop:=r<32∨(127≤r∧r≤159)
instance (r:Nat):Decidable (Ctrl r):=by unfold Ctrl;infer_instance
def quoteR (r:Nat):List UInt8 :=
 if r=34∨r=92 then [92,UInt8.ofNat r] else if Ctrl r then 92 :: 117 :: hexL r else encodeRune (r:Int)
def quoteM (l:List UInt8):List UInt8:=(pcs l).flatMap fun x=>quoteR x.1
def quoteL (l:List UInt8):List UInt8:=34 :: (quoteM l++[34])
theorem quoteM_step (l:List UInt8) (hne:l≠[]):quoteM l=quoteR (decodeL l).1++quoteM (l.drop (decodeL l).2):=by
 unfold quoteM;rw[pcs_step l hne];simp
/- ### The items of a quoted text: what stands there, what it says -/
inductive It where
 | byte (b:UInt8)
 | esc (c:UInt8)
 | num (r:Nat)
def It.ok:It→Prop
 | .byte b=>b≠34∧b≠92
 | .esc c=>c=34∨c=92
 | .num r=>r<160
theorem encode_byte (r:Nat) (h:r<128):encodeRune (r:Int)=[UInt8.ofNat r]:=by
 unfold encodeRune;rw[encodeRuneZ_one (by omega) (by omega)];simp
theorem u8_nat (d:Nat) (h:d<256):(UInt8.ofNat d).toNat=d:=by simp;omega
theorem decDigits_ne (u:Nat):decDigits u≠[]:=by
 intro e;have:=decDigits_length u;rw[e] at this;have:=nDigits_pos u;simp at *;omega
theorem decDigits_digit (u:Nat):∀ b ∈ decDigits u,48≤b.toNat∧b.toNat≤57:=by
 induction u using Nat.strongRecOn with
 | _ u ih =>
  intro b hb
  rw[decDigits] at hb
  by_cases h:u<10
  ·rw[dif_pos h] at hb;simp only[List.mem_singleton] at hb;subst hb;rw[u8_nat _ (by omega)];omega
  ·rw[dif_neg h] at hb
   rcases List.mem_append.1 hb with hb | hb
   ·exact ih (u / 10) (by omega) b hb
   ·simp only[List.mem_singleton] at hb;subst hb;rw[u8_nat _ (by omega)];omega
theorem parseM_snoc (M:Nat):∀ (l:List UInt8) (acc v:Nat) (d:Nat),parseUintM M acc l=.ok v→d<10→v<1844674407370955162→v * 10+d≤M→parseUintM M acc (l++[UInt8.ofNat (48+d)])=.ok (v * 10+d)
 | [],acc,v,d,h,hd,hv,hM=>by
  simp only[parseUintM,NumEnd.ok.injEq] at h
  subst h
  have e:=u8_nat (48+d) (by omega)
  simp only[List.nil_append,parseUintM,e]
  rw[if_pos (by omega),if_neg (by omega),if_neg (by omega)]
  simp
 | c :: l,acc,v,d,h,hd,hv,hM=>by
  rw[List.cons_append]
  unfold parseUintM at h ⊢
  split at h
  ·rename_i hc
   rw[if_pos hc]
   split at h
   ·cases h
   ·rename_i h1
    rw[if_neg h1]
    split at h
    ·cases h
    ·rename_i h2
     rw[if_neg h2]
     exact parseM_snoc M l _ v d h hd hv hM
  ·cases h
theorem parseM_digits (M u:Nat) (hM:M≤18446744073709551615) (h:u≤M):parseUintM M 0 (decDigits u)=.ok u:=by
 induction u using Nat.strongRecOn with
 | _ u ih =>
  rw[decDigits]
  by_cases hu:u<10
  ·rw[dif_pos hu]
   have e:=u8_nat (48+u) (by omega)
   simp only[parseUintM,e]
   rw[if_pos (by omega),if_neg (by omega),if_neg (by omega)]
   simp
  ·rw[dif_neg hu]
   have:=parseM_snoc M _ 0 (u / 10) (u % 10) (ih (u / 10) (by omega) (by omega)) (by omega) (by omega) (by omega)
   rw[this];congr 1;omega
theorem parse_itoa (n:Int) (h0:-9223372036854775808≤n) (h1:n≤9223372036854775807):parseIntB 64 (itoa n)=.ok n:=by
 unfold itoa
 have eC:(2:Nat) ^ (64 - 1)=9223372036854775808:=by decide
 have eM:(2:Nat) ^ 64 - 1=18446744073709551615:=by decide
 by_cases hn:n<0
 ·rw[if_pos hn]
  have hp:parseUintB 64 (decDigits n.natAbs)=.ok n.natAbs:=by
   unfold parseUintB;rw[if_neg (decDigits_ne _),eM];exact parseM_digits _ _ (by omega) (by omega)
  simp only[parseIntB]
  rw[if_pos (.inr rfl),hp,eC]
  dsimp only
  rw[if_neg (by intro h;exact h.1 rfl),if_neg (by omega)]
  refine congrArg NumEnd.ok ?_
  rw[if_pos (show (45:UInt8).toNat=45 from rfl)]
  omega
 ·rw[if_neg hn]
  cases hd:decDigits n.toNat with
  | nil=>exact absurd hd (decDigits_ne _)
  | cons c r =>
   have hc:=decDigits_digit n.toNat c (by rw[hd];simp)
   have hp:parseUintB 64 (c :: r)=.ok n.toNat:=by
    rw[← hd]
    unfold parseUintB;rw[if_neg (decDigits_ne _),eM];exact parseM_digits _ _ (by omega) (by omega)
   simp only[parseIntB]
   rw[if_neg (by omega),hp,eC]
   dsimp only
   rw[if_neg (by omega),if_neg (by omega),if_neg (by omega)]
   congr 1;omega
theorem itoa_head (n:Int):∃ c r,itoa n=c :: r∧((c.toNat=45∧n<0∧r≠[])∨(48≤c.toNat∧c.toNat≤57∧0≤n)):=by
 unfold itoa
 by_cases hn:n<0
 ·rw[if_pos hn];exact⟨45,_,rfl,.inl ⟨rfl,hn,decDigits_ne _⟩⟩
 ·rw[if_neg hn]
  cases hd:decDigits n.toNat with
  | nil=>exact absurd hd (decDigits_ne _)
  | cons c r =>
   have hc:=decDigits_digit n.toNat c (by rw[hd];simp)
   exact⟨c,r,rfl,.inr ⟨hc.1,hc.2,by omega⟩⟩
theorem check_kind {K n:Int} {s:List UInt8} (h:checkB K n s=true) :
  (K=0∧n=0∧s=[])∨(K=1∧s=[])∨(K=2∧(n=0∨n=1)∧s=[])∨(K=3∧n=0∧validL s=true∧countL s≤100)∨(K=4∧1≤n∧n≤4∧s=[]):=by
 unfold checkB at h
 split at h
 ·simp at h;exact .inl ⟨by assumption,h.1,h.2⟩
 split at h
 ·simp at h;exact .inr (.inl ⟨by assumption,h⟩)
 split at h
 ·simp at h;exact .inr (.inr (.inl ⟨by assumption,h.1,h.2⟩))
 split at h
 ·simp at h;exact .inr (.inr (.inr (.inl ⟨by assumption,h.1,h.2.1,h.2.2⟩)))
 split at h
 ·simp at h;exact .inr (.inr (.inr (.inr ⟨by assumption,h.1.1,h.1.2,h.2⟩)))
 ·simp at h
end
section
def SpaceP (r:Int):Prop:=r=9∨r=10∨r=13∨r=32∨r=160∨r=12288
def LetterP (r:Int):Prop :=
 (97≤r∧r≤122)∨(65≤r∧r≤90)∨r=95∨r=170∨r=181∨r=186∨(192≤r∧r≤214)∨(216≤r∧r≤246)∨(248≤r∧r≤591)∨(913≤r∧r≤929)∨(931≤r∧r≤937)∨(945≤r∧r≤969)∨(1040≤r∧r≤1103)∨(19968≤r∧r≤40959)
instance (r:Int):Decidable (SpaceP r):=by unfold SpaceP;infer_instance
instance (r:Int):Decidable (LetterP r):=by unfold LetterP;infer_instance
def classZ (r:Int):Int:=if 48≤r∧r≤57 then 2 else if SpaceP r then 3 else if LetterP r then 1 else 0
theorem class_2 {r:Int} (h:48≤r∧r≤57):classZ r=2:=by unfold classZ;rw[if_pos h]
theorem class_3 {r:Int} (h:SpaceP r):classZ r=3:=by unfold classZ;rw[if_neg (by unfold SpaceP at h;omega),if_pos h]
theorem class_1 {r:Int} (h:LetterP r):classZ r=1:=by unfold classZ;rw[if_neg (by unfold LetterP at h;omega),if_neg (by unfold LetterP at h;unfold SpaceP;omega),if_pos h]
theorem class_0 {r:Int} (h:¬ (48≤r∧r≤57)) (h2:¬ SpaceP r) (h3:¬ LetterP r):classZ r=0:=by unfold classZ;rw[if_neg h,if_neg h2,if_neg h3]
theorem class_cases (r:Int):(classZ r=2∧48≤r∧r≤57)∨(classZ r=3∧SpaceP r)∨(classZ r=1∧LetterP r)∨(classZ r=0∧¬ (48≤r∧r≤57)∧¬ SpaceP r∧¬ LetterP r):=by
 by_cases h:48≤r∧r≤57
 ·exact .inl ⟨class_2 h,h⟩
 ·by_cases h2:SpaceP r
  ·exact .inr (.inl ⟨class_3 h2,h2⟩)
  ·by_cases h3:LetterP r
   ·exact .inr (.inr (.inl ⟨class_1 h3,h3⟩))
   ·exact .inr (.inr (.inr ⟨class_0 h h2 h3,h,h2,h3⟩))
end
section
open Go.Lib
theorem decodeN_cont (n b0 b1 b2 b3:Nat) (h:b0 / 64=2):decodeN n b0 b1 b2 b3=(65533,1):=by
 rcases decodeN_shape n b0 b1 b2 b3 with ⟨c,e⟩ | ⟨a1,a2,a3,av,e⟩ | ⟨a1,a2,a3,a4,av,as,e⟩ | ⟨a1,a2,a3,a4,a5,av,aw,e⟩ | e
 ·omega
 ·omega
 ·omega
 ·omega
 ·exact e
theorem decodeL_four (l:List UInt8):(decodeL l).2≤4:=by
 rw[decodeL_N]
 rcases decodeN_shape l.length (l.getD 0 0).toNat (l.getD 1 0).toNat (l.getD 2 0).toNat (l.getD 3 0).toNat with ⟨c,e⟩ | ⟨a1,a2,a3,av,e⟩ | ⟨a1,a2,a3,a4,av,as,e⟩ | ⟨a1,a2,a3,a4,a5,av,aw,e⟩ | e
 all_goals rw[e];simp
end
section
open Go.Lib
/- ### Pieces of a text -/
def Pcd (R:List Pc):Prop:=pcs (flat R)=R
theorem Pcd.of (l:List UInt8):Pcd (pcs l):=by unfold Pcd;rw[flat_pcs]
theorem flat_take_drop (R:List Pc) (m:Nat):flat (R.take m)++flat (R.drop m)=flat R:=by rw[← flat_append,List.take_append_drop]
theorem Pcd.drop {R:List Pc} (h:Pcd R) (m:Nat):Pcd (R.drop m):=by
 unfold Pcd at h ⊢
 have:=pcs_drop (flat R) m
 rw[h] at this
 rw[← this]
 have e:=flat_take_drop R m
 rw[← e,List.drop_left,flat_pcs]
theorem Pcd.take {R:List Pc} (h:Pcd R) (m:Nat):Pcd (R.take m):=by
 unfold Pcd at h ⊢
 have:=pcs_take (flat R) m
 rwa [h] at this
theorem Pcd.tail {x:Pc} {R:List Pc} (h:Pcd (x :: R)):Pcd R:=h.drop 1
structure Fit (x:Pc):Prop where
 ne:x.2≠[]
 le:x.2.length≤4
 sc:Scalar (x.1:Int)
 enc:¬ bad x→x.2=encodeRune (x.1:Int)
 solid:¬ bad x→Solid x
theorem Fit.one {x:Pc} (h:Fit x) (hx:x.1<128):x.2=[UInt8.ofNat x.1]:=by
 rw[h.enc (fun hb=>by have:=hb.1;omega),encode_byte x.1 hx]
theorem Fit.len {x:Pc} (h:Fit x) (hx:x.1<128):x.2.length=1:=by rw[h.one hx];rfl
theorem Fit.pos {x:Pc} (h:Fit x):0<x.2.length:=List.length_pos_iff.2 h.ne
theorem fit_head (l:List UInt8) (hne:l≠[]):Fit ((decodeL l).1,l.take (decodeL l).2):=by
 have hw1:=decodeL_width l
 have hw2:=decodeL_le l hne
 have hl:(l.take (decodeL l).2).length=(decodeL l).2:=by rw[List.length_take,Nat.min_eq_left hw2]
 refine⟨?_,?_,scalar_of l,?_,?_⟩
 ·intro e;have:=congrArg List.length e;dsimp only at this;rw[hl] at this;simp only[List.length_nil] at this;omega
 ·dsimp only;rw[hl];rw[decodeL_N];unfold decodeN;repeat' split
  all_goals simp
 ·intro hb;exact (encode_decode l hne (fun hc=>hb ((bad_iff l hne).2 hc))).symm
 ·intro hb;exact solid_of_good l hne (fun hc=>hb ((bad_iff l hne).2 hc))
theorem fit_mem (l:List UInt8):∀ x ∈ pcs l,Fit x:=by
 induction l using pcs_induct with
 | h0=>intro x hx;cases hx
 | h1 l hne ih =>
  intro x hx
  rw[pcs_step l hne] at hx
  rcases List.mem_cons.1 hx with rfl | hx
  ·exact fit_head l hne
  ·exact ih x hx
theorem Pcd.fit {R:List Pc} (h:Pcd R):∀ x ∈ R,Fit x:=by
 unfold Pcd at h
 intro x hx
 rw[← h] at hx
 exact fit_mem _ x hx
theorem Pcd.head {x:Pc} {R:List Pc} (h:Pcd (x :: R)):Fit x:=h.fit x (by simp)
/- ### Runes by their bytes -/
def encs (Rs:List Nat):List UInt8:=Rs.flatMap fun (r:Nat)=>encodeRune (r:Int)
theorem encs_snoc (a:List Nat) (r:Nat):encs (a++[r])=encs a++encodeRune (r:Int):=by simp[encs]
theorem pcs_encs (Rs:List Nat) (h:∀ r ∈ Rs,Scalar (r:Int)):pcs (encs Rs)=Rs.map fun (r:Nat)=>(r,encodeRune (r:Int)):=by
 have e:encs Rs=flat (Rs.map fun (r:Nat)=>(r,encodeRune (r:Int))):=by unfold encs flat;rw[List.flatMap_map]
 rw[e]
 refine pcs_solid _ ?_
 intro x hx
 obtain⟨r,hr,rfl⟩:=List.mem_map.1 hx
 have:=solid_encode (r:Int) (h r hr)
 rwa [Int.toNat_natCast] at this
theorem count_encs (Rs:List Nat) (h:∀ r ∈ Rs,Scalar (r:Int)):countL (encs Rs)=Rs.length:=by
 unfold countL;rw[pcs_encs Rs h,List.length_map]
/- ### Digits -/
def valN (l:List UInt8):Nat:=l.foldl (fun a c=>a * 10+(c.toNat - 48)) 0
theorem valN_snoc (l:List UInt8) (c:UInt8):valN (l++[c])=valN l * 10+(c.toNat - 48):=by simp[valN]
structure Fd where
 k:Nat
 s:List UInt8
 n:Nat
 j:Nat
def isDig (x:Pc):Bool:=decide (classZ (x.1:Int)=2)
def isWord (x:Pc):Bool:=decide (classZ (x.1:Int)=1∨classZ (x.1:Int)=2)
def numF (x:Pc) (R:List Pc):Option Fd :=
 if valN (flat (x :: R.takeWhile isDig))<9223372036854775808 then some ⟨1,[],valN (flat (x :: R.takeWhile isDig)),(R.takeWhile isDig).length⟩ else none
def nameF (x:Pc) (R:List Pc):Option Fd :=
 if (flat (x :: R.takeWhile isWord)).length≤24 then some ⟨3,flat (x :: R.takeWhile isWord),0,(R.takeWhile isWord).length⟩ else none
def hexV (r:Nat):Option Nat:=if 48≤r∧r≤57 then some (r - 48) else if 97≤r∧r≤102 then some (r - 87) else none
def digsF:Nat→Nat→List Pc→Option Nat
 | 0,v,_=>some v
 | _+1,_,[]=>none
 | n+1,v,x :: R =>
  match hexV x.1 with
  | none=>none
  | some d=>digsF n (v * 16+d) R
def escF:List Pc→Option (Nat × Nat)
 | []=>none
 | x :: R =>
  if x.1=34∨x.1=92 then some (x.1,1)
  else if x.1=117 then
   match digsF 4 0 R with
   | some v=>if 55296≤v∧v≤57343 then none else some (v,5)
   | none=>none
  else none
def textF:List Pc→List Nat→Nat→Option (List Nat × Nat)
 | [],_,_=>none
 | x :: R,Rs,k =>
  if bad x∨Ctrl x.1 then none
  else if x.1=34 then some (Rs,k)
  else if x.1=92 then
   match escF R with
   | none=>none
   | some (r,m)=>textF (R.drop m) (Rs++[r]) (k+1+m)
  else textF R (Rs++[x.1]) (k+1)
termination_by R=>R.length
decreasing_by all_goals simp;try omega
def textT (R:List Pc):Option Fd :=
 match textF R [] 0 with
 | none=>none
 | some (Rs,k)=>if Rs.length≤100 then some ⟨2,encs Rs,0,k+1⟩ else none
def isSign (r:Nat):Bool:=[43,45,42,47,37,40,41,44,61,60,62,38,124,33].contains r
def isTwo (r:Nat):Bool:=[60,62,33].contains r
def signF (x:Pc) (R:List Pc):Option Fd :=
 if isSign x.1 then
  if isTwo x.1∧R.head?.map (·.1)=some 61 then some ⟨4,[UInt8.ofNat x.1,61],0,1⟩ else some ⟨4,[UInt8.ofNat x.1],0,0⟩
 else none
def tokF (x:Pc) (R:List Pc):Option Fd :=
 if classZ (x.1:Int)=2 then numF x R else if classZ (x.1:Int)=1 then nameF x R else if x.1=34 then textT R else signF x R
structure Tk where
 k:Nat
 s:List UInt8
 n:Nat
 a:Nat
def Fd.tk (f:Fd) (a:Nat):Tk:=⟨f.k,f.s,f.n,a⟩
def ahead (a:List Tk):Except Nat (List Tk)→Except Nat (List Tk)
 | .ok l=>.ok (a++l)
 | .error p=>.error p
theorem ahead_nil (r:Except Nat (List Tk)):ahead [] r=r:=by cases r<;>rfl
theorem ahead_ahead (a b:List Tk) (r:Except Nat (List Tk)):ahead a (ahead b r)=ahead (a++b) r:=by cases r<;>simp[ahead]
def lexR:List Pc→Nat→Except Nat (List Tk)
 | [],_=>.ok []
 | x :: R,p =>
  if classZ (x.1:Int)=3 then lexR R (p+x.2.length)
  else
   match tokF x R with
   | none=>.error p
   | some f=>ahead [f.tk p] (lexR (R.drop f.j) (p+(flat (x :: R.take f.j)).length))
termination_by R=>R.length
decreasing_by all_goals simp;try omega
def lexL (l:List UInt8):Except Nat (List Tk):=lexR (pcs l) 0
theorem textF_nil (Rs:List Nat) (k:Nat):textF [] Rs k=none:=by rw[textF]
theorem textF_cons (x:Pc) (R:List Pc) (Rs:List Nat) (k:Nat):textF (x :: R) Rs k =
  if bad x∨Ctrl x.1 then none
  else if x.1=34 then some (Rs,k)
  else if x.1=92 then
   match escF R with
   | none=>none
   | some (r,m)=>textF (R.drop m) (Rs++[r]) (k+1+m)
  else textF R (Rs++[x.1]) (k+1):=by
 rw[textF]
theorem lexR_nil (p:Nat):lexR [] p=.ok []:=by rw[lexR]
theorem lexR_blank (x:Pc) (R:List Pc) (p:Nat) (h:classZ (x.1:Int)=3):lexR (x :: R) p=lexR R (p+x.2.length):=by rw[lexR,if_pos h]
theorem lexR_none (x:Pc) (R:List Pc) (p:Nat) (h:classZ (x.1:Int)≠3) (ht:tokF x R=none):lexR (x :: R) p=.error p:=by rw[lexR,if_neg h,ht]
theorem lexR_some (x:Pc) (R:List Pc) (p:Nat) (h:classZ (x.1:Int)≠3) (f:Fd) (ht:tokF x R=some f) :
  lexR (x :: R) p=ahead [f.tk p] (lexR (R.drop f.j) (p+(flat (x :: R.take f.j)).length)):=by rw[lexR,if_neg h,ht]
end
section
open Go.Lib
theorem enc_four (r:Nat):(encodeRune (r:Int)).length≤4:=by
 have:=encodeRuneZ_length (r:Int);unfold encodeRune;rw[List.length_map];exact this.2
end
end Go.Proofs.YtbbblmedoagncaaGreatDoor
