/- RxP, RxL, RxM, RxC -/
import Derived.Test.YtbbblmedoagncaaGreatDoorSGL
import Derived.Test.YtbbblmedoagncaaGreatDoorSMLexRL
namespace Go.Proofs.YtbbblmedoagncaaGreatDoor
section
open Lib (hid)
open _root_.Go.Proofs.Tryz
set_option maxHeartbeats 2000000
set_option maxRecDepth 100000
open Go.RowKit
structure XG (w0 w:World) (g:Nat) (T:List Tk) (h cap i:Nat) (bad:Int):Prop where
 env:EnvP w0
 base:Below w0.heap.size w0 w
 gz:w0.heap.size≤g
 good:GoodT T
 lt:i<T.length
 le:T.length≤cap
 big:T.length≤1000
 bad1:bad≤1000
 obj:w.heap[g]?=some (.cells #[.slice (some ⟨h,0,none⟩) T.length cap,.int .i64 (i:Int),.int .i64 bad,.int .i64 0] 79 (0,0))
 hg:h<g
 row:TRow w h T
section
variable {w0 w w':World} {g:Nat} {T:List Tk} {h cap i:Nat} {bad:Int}
theorem XG.glt (p:XG w0 w g T h cap i bad):g<w.heap.size:=(Array.getElem?_eq_some_iff.1 p.obj).1
theorem XG.later (p:XG w0 w g T h cap i bad) (hb:Below w.heap.size w w'):XG w0 w' g T h cap i bad :=
 ⟨p.env,below_to p.base hb,p.gz,p.good,p.lt,p.le,p.big,p.bad1,by rw[hb.block _ p.glt];exact p.obj,p.hg,p.row.away (g:=g) (.of hb) (by have:=p.hg;omega)⟩
theorem XG.now (p:XG w0 w g T h cap i bad):EnvP w:=p.env.later p.base
theorem XG.cells (p:XG w0 w g T h cap i bad):w.cell? ⟨g,0,none⟩=some (.slice (some ⟨h,0,none⟩) T.length cap)∧w.cell? ⟨g,1,none⟩=some (.int .i64 (i:Int))∧w.cell? ⟨g,2,none⟩=some (.int .i64 bad)∧w.frozen? ⟨g,1,none⟩=false∧w.frozen? ⟨g,2,none⟩=false:=by
 refine⟨?_,?_,?_,?_,?_⟩
 ·rw[cell_of_row w g 0 _ _ _ p.obj];rfl
 ·rw[cell_of_row w g 1 _ _ _ p.obj];rfl
 ·rw[cell_of_row w g 2 _ _ _ p.obj];rfl
 ·simp[World.frozen?,p.obj]
 ·simp[World.frozen?,p.obj]
theorem XG.goes (p:XG w0 w g T h cap i bad) {j:Nat} {z:Int} (hj:j<T.length) (hz:z=(j:Int)):XG w0 (w.setCell ⟨g,1,none⟩ (.int .i64 z)) g T h cap j bad:=by
 subst hz
 exact⟨p.env,p.base.setCell (p:=⟨g,1,none⟩) p.gz _,p.gz,p.good,hj,p.le,p.big,p.bad1,by rw[heap_setCell_same w g 1 _ _ _ p.obj];rfl,p.hg,p.row.away (g:=g) ((Away.refl g w).set 1 _) (by have:=p.hg;omega)⟩
theorem XG.spoilt (p:XG w0 w g T h cap i bad) {b:Int} (hb:b≤1000):XG w0 (w.setCell ⟨g,2,none⟩ (.int .i64 b)) g T h cap i b :=
 ⟨p.env,p.base.setCell (p:=⟨g,2,none⟩) p.gz _,p.gz,p.good,p.lt,p.le,p.big,hb,by rw[heap_setCell_same w g 2 _ _ _ p.obj];rfl,p.hg,p.row.away (g:=g) ((Away.refl g w).set 2 _) (by have:=p.hg;omega)⟩
theorem XG.put (p:XG w0 w g T h cap i bad) {b:Nat} (hb:g<b) (k:Nat) (u:Value):XG w0 (w.setCell ⟨b,k,none⟩ u) g T h cap i bad :=
 ⟨p.env,p.base.setCell (p:=⟨b,k,none⟩) (by have:=p.gz;dsimp only;omega) _,p.gz,p.good,p.lt,p.le,p.big,p.bad1,by rw[Below.heap_setCell _ _ _ _ (by dsimp only;omega)];exact p.obj,p.hg,p.row.away (g:=b) ((Away.refl b w).set k _) (by have:=p.hg;omega)⟩
theorem XG.tok (p:XG w0 w g T h cap i bad):∃ t,T[i]?=some t∧T.drop i=t :: T.drop (i+1)∧w.cell? ⟨h,i * 4,none⟩=some (.int .i64 (t.k:Int))∧w.cell? ⟨h,i * 4+1,none⟩=some (.string ⟨t.s.toArray⟩)∧w.cell? ⟨h,i * 4+2,none⟩=some (.int .i64 (t.n:Int))∧w.cell? ⟨h,i * 4+3,none⟩=some (.int .i64 (t.a:Int)):=by
 obtain⟨t,ht⟩:∃ t,T[i]?=some t:=⟨_,List.getElem?_eq_getElem p.lt⟩
 have hd:T.drop i=t :: T.drop (i+1):=by
  obtain⟨h1,h2⟩:=List.getElem?_eq_some_iff.1 ht
  rw[← h2];exact List.drop_eq_getElem_cons h1
 exact⟨t,ht,hd,p.row.2 i t ht⟩
theorem XG.next (p:XG w0 w g T h cap i bad) {t:Tk} (ht:T[i]?=some t) (hk:t.k≠0):i+1<T.length:=p.good.last i t ht hk
end
theorem xtok_any (w0 w:World) (g:Nat) (T:List Tk) (h cap i:Nat) (bad:Int) (t:Tk) (p:XG w0 w g T h cap i bad) (ht:T[i]?=some t) :
  Calls prog 46 #[.pointer (some ⟨g,0,none⟩)] w fun e w'=>e=.returned (T4 t.k ⟨t.s.toArray⟩ t.n t.a)∧Below w.heap.size w w':=by
 obtain⟨c0,c1,-⟩:=p.cells
 obtain⟨x0,x1,x2,x3⟩:=p.row.2 i t ht
 have hl:=p.lt
 have hle:=p.le
 have hbig:=p.big
 have hgl:=p.glt
 have hhl:=p.row.1
 have hiz:(i:Int)<(T.length:Int):=by omega
 have hF:=four_new w (.int .i64 0) (.string ⟨#[]⟩) (.int .i64 0) (.int .i64 0) 82
 have hb:=below_alloc w (.cells #[.int .i64 0,.string ⟨#[]⟩,.int .i64 0,.int .i64 0] 82)
 generalize hS:(⟨t.s.toArray⟩:ByteArray)=S at *
 generalize T.length=n at *
 clear p ht
 go_enter func46,ntmps46
 go_wp2_with fail
 go_region
 go_wp2
 exact bodyPost_ret (v:=T4 t.k S t.n t.a) (by simp[T4,results,results46,go_sem]) rfl ⟨rfl,(below_alloc w _).drew⟩
def SgE (w0 w:World) (g:Nat) (T:List Tk) (h cap i:Nat) (s:List UInt8) (e:Ending) (w':World):Prop :=
 e=.returned (.bool (isS (T.drop i) s))∧Away g w w'∧XG w0 w' g T h cap (if isS (T.drop i) s=true then i+1 else i) (-1)
theorem xsign_any (w0 w:World) (g:Nat) (T:List Tk) (h cap i:Nat) (s:List UInt8) (hs:s≠[]) (p:XG w0 w g T h cap i (-1)) :
  Calls prog 99 #[.pointer (some ⟨g,0,none⟩),.string ⟨s.toArray⟩] w (SgE w0 w g T h cap i s):=by
 obtain⟨t,ht,hd,-⟩:=p.tok
 have c1:=xtok_any w0 w g T h cap i (-1) t p ht
 have c2:=fun w' (hb:Below w.heap.size w w')=>xtok_any w0 w' g T h cap i (-1) t (p.later hb) ht
 obtain⟨y0,y1,y2,f1,f2⟩:=p.cells
 have HP:=hid p
 have hI:isS (T.drop i) s=decide (sgT t=s):=by rw[hd];exact isS_sg hs
 have HI:=hid hI
 have HT:=hid ht
 by_cases hk:t.k=4
 ·have hkI:((t.k:Nat):Int)=4:=by rw[hk];rfl
  have hsg:sgT t=t.s:=by unfold sgT;rw[if_pos hk]
  have HN:=hid (p.next ht (by omega))
  have hbig:=p.big
  have hlt:=p.lt
  by_cases hts:t.s=s
  ·have HE:Hid (isS (T.drop i) s=true):=hid (by rw[hI,hsg,hts];simp)
   have hqe:((⟨t.s.toArray⟩:ByteArray).toList == (⟨s.toArray⟩:ByteArray).toList)=true:=by rw[hts];simp
   have hqq:((⟨t.s.toArray⟩:ByteArray).toList != (⟨s.toArray⟩:ByteArray).toList)=false:=by rw[hts];simp
   generalize (⟨t.s.toArray⟩:ByteArray)=S1 at *
   generalize (⟨s.toArray⟩:ByteArray)=S2 at *
   rw[hkI] at c1 c2
   have hfd0:=fun w=>fld_0 4 S1 (t.n:Int) (t.a:Int) w
   have hfd1:=fun w=>fld_1 4 S1 (t.n:Int) (t.a:Int) w
   clear p ht hd hI hk hsg hts hs
   go_enter func99,ntmps99
   go_wp2_with fail
   refine c1.mono ?_
   rintro e w1 ⟨rfl,b1⟩
   have c3:=c2 w1 b1
   have B1:=hid b1
   clear c1 c2 b1
   go_wp2_with fail
   refine c3.mono ?_
   rintro e w2 ⟨rfl,b2⟩
   have B2:=hid (below_to B1.out b2)
   have P2:=hid (HP.out.later B2.out)
   obtain⟨z0,z1,z2,g1,g2⟩:=P2.out.cells
   have hw1:IntKind.i64.wrap ((i:Int)+1)=(i:Int)+1:=IntWalk.i64_in _ (by omega)
   clear c3 b2 y0 y1 y2 f1 f2
   go_wp2_with fail
   exact bodyPost_ret (v:=.bool true) (by simp[results,results99,go_sem]) rfl ⟨by rw[HE.out],(Away.of B2.out).set 1 _,by rw[if_pos HE.out];exact P2.out.goes HN.out (by push_cast;rfl)⟩
  ·have HE:Hid (isS (T.drop i) s=false):=hid (by rw[hI,hsg];simp[hts])
   have hne:(⟨t.s.toArray⟩:ByteArray)≠⟨s.toArray⟩:=fun e=>hts (by injection e with e;exact List.toArray_inj e)
   have hqe:=txt_ne hne
   have hqq:((⟨t.s.toArray⟩:ByteArray).toList != (⟨s.toArray⟩:ByteArray).toList)=true:=by rw[bne,hqe];rfl
   generalize (⟨t.s.toArray⟩:ByteArray)=S1 at *
   generalize (⟨s.toArray⟩:ByteArray)=S2 at *
   rw[hkI] at c1 c2
   have hfd0:=fun w=>fld_0 4 S1 (t.n:Int) (t.a:Int) w
   have hfd1:=fun w=>fld_1 4 S1 (t.n:Int) (t.a:Int) w
   clear p ht hd hI hk hsg hts hs hne
   go_enter func99,ntmps99
   go_wp2_with fail
   refine c1.mono ?_
   rintro e w1 ⟨rfl,b1⟩
   have c3:=c2 w1 b1
   have B1:=hid b1
   clear c1 c2 b1
   go_wp2_with fail
   refine c3.mono ?_
   rintro e w2 ⟨rfl,b2⟩
   have B2:=hid (below_to B1.out b2)
   clear c3 b2
   go_wp2_with fail
   exact bodyPost_ret (v:=.bool false) (by simp[results,results99,go_sem]) rfl ⟨by rw[HE.out],Away.of B2.out,by rw[if_neg (by rw[HE.out];decide)];exact HP.out.later B2.out⟩
 ·have hkb:((t.k:Int) != 4)=true:=by simp;omega
  have hkn:¬ (t.k:Int)=4:=by omega
  have HE:Hid (isS (T.drop i) s=false):=hid (by rw[hI];unfold sgT;rw[if_neg hk];simp[Ne.symm hs])
  generalize (⟨t.s.toArray⟩:ByteArray)=S1 at *
  generalize (⟨s.toArray⟩:ByteArray)=S2 at *
  have hfd0:=fun w=>fld_0 (t.k:Int) S1 (t.n:Int) (t.a:Int) w
  clear p ht hd hI hk c2 hs
  go_enter func99,ntmps99
  go_wp2_with fail
  refine c1.mono ?_
  rintro e w1 ⟨rfl,b1⟩
  have B1:=hid b1
  clear c1 b1
  go_wp2_with fail
  exact bodyPost_ret (v:=.bool false) (by simp[results,results99,go_sem]) rfl ⟨by rw[HE.out],Away.of B1.out,by rw[if_neg (by rw[HE.out];decide)];exact HP.out.later B1.out⟩
theorem xsign_bad (w0 w:World) (g:Nat) (T:List Tk) (h cap i:Nat) (q:Nat) (s:ByteArray) (p:XG w0 w g T h cap i (q:Int)) :
  Calls prog 99 #[.pointer (some ⟨g,0,none⟩),.string s] w fun e w'=>e=.returned (.bool false)∧w=w':=by
 obtain⟨y0,y1,y2,-⟩:=p.cells
 have hq:(0:Int)≤(q:Int):=by omega
 clear p
 go_enter func99,ntmps99
 go_wp2_with fail
 go_ret
 exact⟨rfl,rfl⟩
def WrE (w0 w:World) (g:Nat) (T:List Tk) (h cap i:Nat) (a:Nat) (e:Ending) (w':World):Prop :=
 e=.returned (EV 0 0 ⟨#[]⟩ (.slice none 0 0))∧Away g w w'∧XG w0 w' g T h cap i (a:Int)
theorem xwrong_any (w0 w:World) (g:Nat) (T:List Tk) (h cap i:Nat) (t:Tk) (p:XG w0 w g T h cap i (-1)) (ht:T[i]?=some t) :
  Calls prog 47 #[.pointer (some ⟨g,0,none⟩)] w (WrE w0 w g T h cap i t.a):=by
 have hb0:=below_alloc w (.cells #[.int .i64 0,.int .i64 0,.string ⟨#[]⟩,.slice none 0 0] 24)
 have hF0:=four_new w (.int .i64 0) (.int .i64 0) (.string ⟨#[]⟩) (.slice none 0 0) 24
 have hn0:=NB.new w #[.int .i64 0,.int .i64 0,.string ⟨#[]⟩,.slice none 0 0] 24
 have hz0:=alloc_size w (.cells #[.int .i64 0,.int .i64 0,.string ⟨#[]⟩,.slice none 0 0] 24)
 obtain⟨wA,hwA⟩:∃ wA,w.alloc (.cells #[.int .i64 0,.int .i64 0,.string ⟨#[]⟩,.slice none 0 0] 24)=wA:=⟨_,rfl⟩
 rw[hwA] at hb0 hF0 hn0 hz0
 have pA:=p.later hb0
 have c1:=xtok_any w0 wA g T h cap i (-1) t pA ht
 obtain⟨y0,y1,y2,f1,f2⟩:=pA.cells
 have HA:=hid (p.good.at_ t (List.mem_of_getElem? ht))
 have hgl:=p.glt
 have HP:=hid pA
 have HF:=hid hF0
 have HN:=hid hn0
 have HB:=hid hb0
 have HG:=hid hgl
 generalize (⟨t.s.toArray⟩:ByteArray)=S1 at *
 have hfd3:=fun w=>fld_3 (t.k:Int) S1 (t.n:Int) (t.a:Int) w
 clear p ht pA hF0 hn0 hb0
 go_enter func47,ntmps47
 go_wp2_with fail
 refine c1.mono ?_
 rintro e w1 ⟨rfl,b1⟩
 obtain⟨z0,z1,z2,g1,g2⟩:=(HP.out.later b1).cells
 have P1:=hid (HP.out.later b1)
 have HF1:=hid (HF.out.later b1)
 have HN1:=hid (HN.out.same (b1.block _ (by omega)))
 have B1:=hid (below_to HB.out b1)
 have hne:g≠w.heap.size:=by omega
 obtain⟨-,x0,x1,x2,x3,-⟩:=HF1.out
 have n0:=(HN1.out.weak 0).2
 have n1:=(HN1.out.weak 1).2
 have n2:=(HN1.out.weak 2).2
 have n3:=(HN1.out.weak 3).2
 clear c1 b1 y0 y1 y2 f1 f2 hwA
 go_wp2_with fail
 refine bodyPost_ret (v:=EV 0 0 ⟨#[]⟩ (.slice none 0 0)) (by simp[EV,results,results47,go_sem,x0,x1,x2,x3]) rfl ⟨rfl,?_,?_⟩
 ·exact ((Away.of B1.out).set 2 _).put4 (Nat.le_refl _) _ _ _ _
 ·exact (((((P1.out.spoilt (b:=(t.a:Int)) (by have:=HA.out;omega)).put HG.out 0 _).put HG.out 1 _).put HG.out 2 _).put HG.out 3 _)
def MuE (w0 w:World) (g:Nat) (T:List Tk) (h cap i:Nat) (s:List UInt8) (t:Tk) (e:Ending) (w':World):Prop :=
 e=.returned (.tuple #[])∧Away g w w'∧XG w0 w' g T h cap (if isS (T.drop i) s=true then i+1 else i) (if isS (T.drop i) s=true then (-1) else (t.a:Int))
theorem xmust_any (w0 w:World) (g:Nat) (T:List Tk) (h cap i:Nat) (s:List UInt8) (hs:s≠[]) (t:Tk) (p:XG w0 w g T h cap i (-1)) (ht:T[i]?=some t) :
  Calls prog 321 #[.pointer (some ⟨g,0,none⟩),.string ⟨s.toArray⟩] w (MuE w0 w g T h cap i s t):=by
 have c1:=xsign_any w0 w g T h cap i s hs p
 obtain⟨y0,y1,y2,f1,f2⟩:=p.cells
 have cW:=fun w' (q:XG w0 w' g T h cap i (-1))=>xwrong_any w0 w' g T h cap i t q ht
 cases hI:isS (T.drop i) s with
 | true =>
  have HI:=hid hI
  unfold SgE at c1
  rw[hI] at c1
  generalize (⟨s.toArray⟩:ByteArray)=S at *
  clear p ht hI cW hs
  go_enter func321,ntmps321
  go_wp2_with fail
  refine c1.mono ?_
  rintro e w1 ⟨rfl,a1,q1⟩
  have Q1:=hid q1
  have A1:=hid a1
  clear c1 q1 a1
  go_wp2_with fail
  go_end0
  exact⟨rfl,A1.out,by rw[if_pos HI.out,if_pos HI.out];simpa using Q1.out⟩
 | false =>
  have HI:=hid hI
  unfold SgE at c1
  rw[hI] at c1
  generalize (⟨s.toArray⟩:ByteArray)=S at *
  have HC:=hid cW
  clear p ht hI cW hs
  go_enter func321,ntmps321
  go_wp2_with fail
  refine c1.mono ?_
  rintro e w1 ⟨rfl,a1,q1⟩
  have cW:=HC.out w1 (by simpa using q1)
  have A1:=hid a1
  clear c1 q1 a1
  go_wp2_with fail
  refine cW.mono ?_
  rintro e w2 ⟨rfl,a2,q2⟩
  have Q2:=hid q2
  have A2:=hid a2
  clear cW q2 a2
  go_wp2_with fail
  go_end0
  exact⟨rfl,A1.out.trans A2.out,by rw[if_neg (by rw[HI.out];decide),if_neg (by rw[HI.out];decide)];exact Q2.out⟩
theorem xmust_bad (w0 w:World) (g:Nat) (T:List Tk) (h cap i:Nat) (q:Nat) (s:ByteArray) (p:XG w0 w g T h cap i (q:Int)) :
  Calls prog 321 #[.pointer (some ⟨g,0,none⟩),.string s] w fun e w'=>e=.returned (.tuple #[])∧w'=w:=by
 obtain⟨y0,y1,y2,-⟩:=p.cells
 have hq:(0:Int)≤(q:Int):=by omega
 clear p
 go_enter func321,ntmps321
 go_wp2_with fail
 go_end0
 exact⟨rfl,rfl⟩
end
section
open Lib (hid)
open _root_.Go.Proofs.Tryz
set_option maxHeartbeats 4000000
set_option maxRecDepth 100000
open Go.RowKit
section
variable {w0 w w':World} {g:Nat} {T:List Tk} {h cap i:Nat} {bad:Int}
theorem XG.put4 (p:XG w0 w g T h cap i bad) {b:Nat} (hb:g<b) (x0 x1 x2 x3:Value):XG w0 (set4 w b x0 x1 x2 x3) g T h cap i bad :=
 (((p.put hb 0 x0).put hb 1 x1).put hb 2 x2).put hb 3 x3
theorem Four.far {a b c d:Value} {k j:Nat} (hF:Four w k a b c d) (hj:j≠k) (y0 y1 y2 y3:Value):Four (set4 w j y0 y1 y2 y3) k a b c d:=by
 have ha:Away j w (set4 w j y0 y1 y2 y3):=((((Away.refl j w).set 0 y0).set 1 y1).set 2 y2).set 3 y3
 exact hF.away ha (Ne.symm hj)
end
def TwoE (w:World) (op:Int) (u v:Value) (e:Ending) (w':World):Prop :=
 ∃ b,w.heap.size<b∧b<w'.heap.size∧e=.returned (EV op 0 ⟨#[]⟩ (.slice (some ⟨b,0,none⟩) 2 2))∧Below w.heap.size w w'∧∀ (S:Nat→Prop) (x y:Ex),ExIn w S x u→ExIn w S y v→RowIn w' S b 0 [x,y]
theorem xtwo_any (op p q:Int) (s z:ByteArray) (a c:Option Addr) (la ca lc cc:Nat) (m n:Int) (w:World) :
  Calls prog 100 #[.int .i64 op,EV m p s (.slice a la ca),EV n q z (.slice c lc cc)] w
   (TwoE w op (EV m p s (.slice a la ca)) (EV n q z (.slice c lc cc))):=by
 go_enter func100,ntmps100
 go_wp2_with fail
 have hw1:((w.alloc (.cells #[.int .i64 m,.int .i64 p,.string s,.slice a la ca] 24)).alloc (.cells #[.int .i64 n,.int .i64 q,.string z,.slice c lc cc] 24)).heap.size=w.heap.size+1+1:=by rw[alloc_size,alloc_size]
 have hb1:=below_alloc w (.cells #[.int .i64 m,.int .i64 p,.string s,.slice a la ca] 24)
 have hb2:=below_to hb1 (below_alloc _ (.cells #[.int .i64 n,.int .i64 q,.string z,.slice c lc cc] 24))
 have hb3:=below_to hb2 (below_alloc _ (.cells #[.int .i64 op,.int .i64 0,.string ⟨#[]⟩,.slice (some ⟨w.heap.size+1+1+1,0,none⟩) 2 2] 24))
 generalize ((w.alloc (.cells #[.int .i64 m,.int .i64 p,.string s,.slice a la ca] 24)).alloc (.cells #[.int .i64 n,.int .i64 q,.string z,.slice c lc cc] 24))=w1 at *
 have hs3:=alloc_size w1 (.cells #[.int .i64 op,.int .i64 0,.string ⟨#[]⟩,.slice (some ⟨w.heap.size+1+1+1,0,none⟩) 2 2] 24)
 have hF:=(four_new w1 (.int .i64 op) (.int .i64 0) (.string ⟨#[]⟩) (.slice (some ⟨w.heap.size+1+1+1,0,none⟩) 2 2) 24).later (below_alloc _ (.cells #[.int .i64 m,.int .i64 p,.string s,.slice a la ca,.int .i64 n,.int .i64 q,.string z,.slice c lc cc] 24))
 generalize w1.alloc (.cells #[.int .i64 op,.int .i64 0,.string ⟨#[]⟩,.slice (some ⟨w.heap.size+1+1+1,0,none⟩) 2 2] 24)=w3 at *
 have he:w.heap.size+1+1+1=w3.heap.size:=by omega
 rw[he] at hF ⊢
 obtain⟨-,x0,x1,x2,x3,-⟩:=hF
 rw[hw1] at x0 x1 x2 x3
 exact bodyPost_ret (v:=EV op 0 ⟨#[]⟩ (.slice (some ⟨w3.heap.size,0,none⟩) 2 2)) (by simp[EV,results,results100,go_sem,x0,x1,x2,x3]) rfl
  ⟨w3.heap.size,by omega,by rw[alloc_size];omega,rfl,below_to hb3 (below_alloc _ _),fun S x y hx hy=>row_two (hx.later hb3) (hy.later hb3)⟩
def XEnd (w0 w:World) (g:Nat) (T:List Tk) (h cap:Nat) (r:Except Nat (Ex × List Tk)) (e:Ending) (w':World):Prop :=
 Away g w w'∧∃ (op n:Int) (s:ByteArray) (ao:Option Addr) (la ca:Nat),e=.returned (EV op n s (.slice ao la ca)) ∧
  ((∃ a j,r=.ok (a,T.drop j)∧ExIn w' (Up w.heap.size) a (EV op n s (.slice ao la ca))∧XG w0 w' g T h cap j (-1))∨(∃ p j:Nat,r=.error p∧XG w0 w' g T h cap j (p:Int)))
abbrev Rows (w:World) (gA:Nat):Nat→Prop:=fun b=>w.heap.size<b∧b≠gA
theorem sg_any {w0 w v:World} {g gA:Nat} {T:List Tk} {h cap i:Nat} {a:Ex} {op n:Int} {s:ByteArray} {ao:Option Addr} {la ca:Nat} (PI:Hid (XG w0 v g T h cap i (-1))) (HX:Hid (ExIn v (Rows w gA) a (EV op n s (.slice ao la ca))))
  (HA:Hid (Four v gA (.int .i64 op) (.int .i64 n) (.string s) (.slice ao la ca))) (HR:Hid (Four v w.heap.size (.int .i64 0) (.int .i64 0) (.string ⟨#[]⟩) (.slice none 0 0))) (HW:Hid (Away g w v)) (GL:Hid (g<w.heap.size)) (GA:Hid (w.heap.size<gA)) (sg:List UInt8) (hs:sg≠[]) {B:Bool} (hI:isS (T.drop i) sg=B) :
  Calls prog 99 #[.pointer (some ⟨g,0,none⟩),.string ⟨sg.toArray⟩] v fun e u=>e=.returned (.bool B)∧Hid (XG w0 u g T h cap (if B=true then i+1 else i) (-1))∧Hid (ExIn u (Rows w gA) a (EV op n s (.slice ao la ca))) ∧
   Hid (Four u gA (.int .i64 op) (.int .i64 n) (.string s) (.slice ao la ca))∧Hid (Four u w.heap.size (.int .i64 0) (.int .i64 0) (.string ⟨#[]⟩) (.slice none 0 0))∧Hid (Away g w u):=by
 have c:=xsign_any w0 v g T h cap i sg hs PI.out
 unfold SgE at c
 rw[hI] at c
 refine c.mono ?_
 rintro e u ⟨rfl,a1,q1⟩
 have gl:=GL.out
 have ga:=GA.out
 exact⟨rfl,hid q1,hid (HX.out.keep (.away a1 (by intro hb;have:=hb.1;omega))),hid (HA.out.away a1 (by omega)),hid (HR.out.away a1 (by omega)),hid (HW.out.trans a1)⟩
def Sub2 (w0 w w4 w5:World) (g gA:Nat) (T:List Tk) (h cap:Nat) (a:Ex) (op n:Int) (s:ByteArray) (ao:Option Addr) (la ca:Nat) (r2:Except Nat (Ex × List Tk)) (u:Value):Prop :=
 Hid (ExIn w5 (Rows w gA) a (EV op n s (.slice ao la ca)))∧Hid (Four w5 gA (.int .i64 op) (.int .i64 n) (.string s) (.slice ao la ca))∧Hid (Four w5 w.heap.size (.int .i64 0) (.int .i64 0) (.string ⟨#[]⟩) (.slice none 0 0))∧Hid (Away g w w5) ∧
 Hid (gA<w4.heap.size∧w5.heap.size=w4.heap.size+1)∧Hid ((∃ c j,r2=.ok (c,T.drop j)∧ExIn w5 (Rows w gA) c u∧XG w0 w5 g T h cap j (-1))∨(∃ p j:Nat,r2=.error p∧XG w0 w5 g T h cap j (p:Int)))
theorem sg_sub {w0 w v:World} {g gA:Nat} {T:List Tk} {h cap:Nat} {a:Ex} {op n:Int} {s:ByteArray} {ao:Option Addr} {la ca:Nat} {r2:Except Nat (Ex × List Tk)} {F:FuncId} (HX:Hid (ExIn v (Rows w gA) a (EV op n s (.slice ao la ca))))
  (HA:Hid (Four v gA (.int .i64 op) (.int .i64 n) (.string s) (.slice ao la ca))) (HR:Hid (Four v w.heap.size (.int .i64 0) (.int .i64 0) (.string ⟨#[]⟩) (.slice none 0 0))) (HW:Hid (Away g w v)) (GL:Hid (g<w.heap.size)) (GA:Hid (w.heap.size<gA))
  (c:Calls prog F #[.pointer (some ⟨g,0,none⟩)] v (XEnd w0 v g T h cap r2)) :
  Calls prog F #[.pointer (some ⟨g,0,none⟩)] v fun e w4=>∃ (op2 n2:Int) (s2:ByteArray) (ao2:Option Addr) (la2 ca2:Nat) (w5:World),e=.returned (EV op2 n2 s2 (.slice ao2 la2 ca2))∧w4.alloc (.cells #[.int .i64 op2,.int .i64 n2,.string s2,.slice ao2 la2 ca2] 24)=w5 ∧
   Sub2 w0 w w4 w5 g gA T h cap a op n s ao la ca r2 (EV op2 n2 s2 (.slice ao2 la2 ca2))∧Four w5 w4.heap.size (.int .i64 op2) (.int .i64 n2) (.string s2) (.slice ao2 la2 ca2):=by
 have hrl:=HA.out.lt
 have gl:=GL.out
 have ga:=GA.out
 refine c.mono ?_
 rintro e w4 ⟨a2,op2,n2,s2,ao2,la2,ca2,rfl,hst⟩
 have hs2:=a2.size
 have d5:=below_alloc w4 (.cells #[.int .i64 op2,.int .i64 n2,.string s2,.slice ao2 la2 ca2] 24)
 refine⟨op2,n2,s2,ao2,la2,ca2,_,rfl,rfl,⟨hid ((HX.out.keep (.away a2 (by intro hb;have:=hb.1;omega))).later d5),hid ((HA.out.away a2 (by omega)).later d5),hid ((HR.out.away a2 (by omega)).later d5),hid ((HW.out.trans a2).next d5),hid ⟨by omega,alloc_size _ _⟩,hid ?_⟩,four_new w4 _ _ _ _ _⟩
 rcases hst with ⟨c,j,h1,h2,h3⟩ | ⟨p,j,h1,h3⟩
 ·exact .inl ⟨c,j,h1,(h2.wide (R:=Rows w gA) (fun b hb _=>⟨by have:v.heap.size≤b:=hb;omega,by have:v.heap.size≤b:=hb;omega⟩)).later d5,h3.later d5⟩
 ·exact .inr ⟨p,j,h1,h3.later d5⟩
def KLn (w0 w:World) (g gA:Nat) (T:List Tk) (h cap l F:Nat) (r:Except Nat (Ex × List Tk)) (q:Nat) (wr:World):Prop :=
 q≤F∧Away g w wr∧g<w.heap.size∧w.heap.size<gA∧Four wr w.heap.size (.int .i64 0) (.int .i64 0) (.string ⟨#[]⟩) (.slice none 0 0) ∧
 ∃ (op n:Int) (s:ByteArray) (ao:Option Addr) (la ca:Nat),Four wr gA (.int .i64 op) (.int .i64 n) (.string s) (.slice ao la ca) ∧
  ((∃ i a,XG w0 wr g T h cap i (-1)∧ExIn wr (Rows w gA) a (EV op n s (.slice ao la ca))∧pL q l a (T.drop i)=some r)∨(∃ p j:Nat,XG w0 wr g T h cap j (p:Int)∧r=.error p∧q=0))
theorem opH0 (ts:List Tk):opH 0 ts=if isS ts [124]=true then some (17,false) else none:=by
 cases ts with
 | nil=>rfl
 | cons t q =>
  unfold opH opAt isS
  by_cases hk:t.k=4
  ·simp[hk]
  ·simp[hk]
theorem opH1 (ts:List Tk):opH 1 ts=if isS ts [38]=true then some (16,false) else none:=by
 cases ts with
 | nil=>rfl
 | cons t q =>
  unfold opH opAt isS
  by_cases hk:t.k=4
  ·simp[hk]
  ·simp[hk]
theorem xor_step {w0:World} {g:Nat} {T:List Tk} {h cap F:Nat} (hG:∀ (w:World) (i:Nat) r,XG w0 w g T h cap i (-1)→pE F 1 (T.drop i)=some r→Calls prog 98 #[.pointer (some ⟨g,0,none⟩)] w (XEnd w0 w g T h cap r))
  (w:World) (i:Nat) (r:Except Nat (Ex × List Tk)) (p:XG w0 w g T h cap i (-1)) (hr:pE (F+1) 0 (T.drop i)=some r):Calls prog 45 #[.pointer (some ⟨g,0,none⟩)] w (XEnd w0 w g T h cap r):=by
 have hgl:=p.glt
 rw[pE,if_pos (by decide)] at hr
 have d1:=below_alloc w (.cells #[.int .i64 0,.int .i64 0,.string ⟨#[]⟩,.slice none 0 0] 24)
 have f1:=four_new w (.int .i64 0) (.int .i64 0) (.string ⟨#[]⟩) (.slice none 0 0) 24
 have z1:=alloc_size w (.cells #[.int .i64 0,.int .i64 0,.string ⟨#[]⟩,.slice none 0 0] 24)
 obtain⟨w1,hw1⟩:∃ x,w.alloc (.cells #[.int .i64 0,.int .i64 0,.string ⟨#[]⟩,.slice none 0 0] 24)=x:=⟨_,rfl⟩
 rw[hw1] at d1 f1 z1
 have p1:=p.later d1
 cases h1:pE F 1 (T.drop i) with
 | none=>rw[h1] at hr;cases hr
 | some r1 =>
  rw[h1] at hr
  have cG:=hG w1 i r1 p1 h1
  have HR:=hid hr
  have HF1:=hid f1
  have HD1:=hid d1
  have HZ1:=hid z1
  have HGL:=hid hgl
  have HG:=hid hG
  clear hr f1 d1 z1 p1 p h1 hG hgl
  go_enter func45,ntmps45
  go_wp2_with fail
  refine cG.mono ?_
  rintro e w2 ⟨a2,op,n,s,ao,la,ca,rfl,hst⟩
  have d3:=below_alloc w2 (.cells #[.int .i64 op,.int .i64 n,.string s,.slice ao la ca] 24)
  have f3:=four_new w2 (.int .i64 op) (.int .i64 n) (.string s) (.slice ao la ca) 24
  have HK:∃ q,Hid (KLn w0 w g w2.heap.size T h cap 0 F r q (w2.alloc (.cells #[.int .i64 op,.int .i64 n,.string s,.slice ao la ca] 24))):=by
   have hA:Away g w (w2.alloc (.cells #[.int .i64 op,.int .i64 n,.string s,.slice ao la ca] 24)):=((Away.of HD1.out).trans a2).trans (Away.of d3)
   have hsz:=a2.size
   have h0:=HZ1.out
   have hgl:=HGL.out
   have hR:=(HF1.out.away a2 (by omega)).later d3
   rcases hst with ⟨a,j,rfl,hx,pj⟩ | ⟨pp,j,rfl,pj⟩
   ·exact⟨F,hid ⟨Nat.le_refl _,hA,HGL.out,by omega,hR,op,n,s,ao,la,ca,f3,.inl ⟨j,a,pj.later d3,(hx.wide (R:=Rows w w2.heap.size) (fun b hb hl=>⟨by have:w1.heap.size≤b:=hb;omega,by omega⟩)).later d3,HR.out⟩⟩⟩
   ·exact⟨0,hid ⟨Nat.zero_le _,hA,HGL.out,by omega,hR,op,n,s,ao,la,ca,f3,.inr ⟨pp,j,pj.later d3,by have:=HR.out;unfold bnd at this;simpa using this.symm,rfl⟩⟩⟩
  obtain⟨qq,HK⟩:=HK
  obtain⟨w3,hw3⟩:∃ x,w2.alloc (.cells #[.int .i64 op,.int .i64 n,.string s,.slice ao la ca] 24)=x:=⟨_,rfl⟩
  rw[hw3] at HK
  clear cG a2 hst d3 f3 HD1 HF1 HZ1
  go_wp2_with fail
  obtain⟨gA,hgA⟩:∃ x,w2.heap.size=x:=⟨_,rfl⟩
  rw[hgA] at HK ⊢
  clear hgA
  clear hw3 hw1
  go_loopg [4] (qq) (fun q s4 wr=>Hid (KLn w0 w g gA T h cap 0 F r q wr))
  case atStart=>exact HK
  case round =>
   clear HK
   obtain⟨hqF,aw,hgl,hgA,hR,op,n,s,ao,la,ca,hA,hst⟩:=hrel.out
   have HA0:=hid hA
   have HRR0:=hid hR
   have HAW0:=hid aw
   have HGA:=hid hgA
   have HQ:=hid hqF
   clear hrel hqF aw hgl hgA
   rcases hst with ⟨i,a,pi,hx,hL⟩ | ⟨pp,j,pj,rfl,-⟩
   ·have PI:=hid pi
    have HX0:=hid hx
    clear pi hx hA hR HR
    cases hI0:isS (T.drop i) [124] with
    | false =>
     clear HG HQ
     have hr:r=.ok (a,T.drop i):=by
      cases gk with
      | zero=>rw[pL] at hL;cases hL
      | succ q0 =>
       rw[pL,opH0,hI0,if_neg (by decide)] at hL
       injection hL with hL;exact hL.symm
     subst hr
     clear hL
     have c1:=sg_any PI HX0 HA0 HRR0 HAW0 HGL HGA [124] (by decide) hI0
     clear PI HX0 HA0 HRR0 HAW0
     go_wp2_with fail
     refine c1.mono ?_
     rintro e v1 ⟨rfl,PI,HX0,HA0,HRR0,HAW0⟩
     clear c1
     have HR1:=hid HRR0.out
     obtain⟨-,x0,x1,x2,x3,-⟩:=HA0.out
     obtain⟨-,y0,y1,y2,y3,f0,f1,f2,f3⟩:=HR1.out
     go_wp2_with fail
     exact bodyPost_ret (v:=EV op n s (.slice ao la ca)) (by simp[EV,results,results45,go_sem,y0,y1,y2,y3]) rfl ⟨HAW0.out.put4 (Nat.le_refl _) _ _ _ _,op,n,s,ao,la,ca,rfl,.inl ⟨a,i,rfl,(HX0.out.keep (.set4 _ _ _ _ _ (by intro hb;have:=hb.1;omega))).wide (fun b hb _=>by have:=hb.1;show w.heap.size≤b;omega),PI.out.put4 HGL.out _ _ _ _⟩⟩
    | true =>
     cases gk with
     | zero=>rw[pL] at hL;cases hL
     | succ q0 =>
     rw[pL,opH0,hI0,if_pos rfl] at hL
     replace hL:bnd (pE q0 1 (T.drop i).tail) (fun x=>pL q0 0 (twoE 17 false a x.1) x.2)=some r:=hL
     rw[List.tail_drop] at hL
     cases hp:pE q0 1 (T.drop (i+1)) with
     | none=>rw[hp] at hL;cases hL
     | some r2 =>
     rw[hp] at hL
     have hpF:pE F 1 (T.drop (i+1))=some r2:=by
      have:=pE_add hp (F - q0)
      rwa [show q0+(F - q0)=F by have:=HQ.out;omega] at this
     have HL:=hid hL
     have HPF:=hid hpF
     clear hL hp hpF
     have c1:=sg_any PI HX0 HA0 HRR0 HAW0 HGL HGA [124] (by decide) hI0
     clear PI HX0 HA0 HRR0 HAW0
     go_wp2_with fail
     refine c1.mono ?_
     rintro e v1 ⟨rfl,PI,HX0,HA0,HRR0,HAW0⟩
     have c2:=sg_sub HX0 HA0 HRR0 HAW0 HGL HGA (HG.out v1 (i+1) r2 PI.out HPF.out)
     clear c1 PI HX0 HA0 HRR0 HAW0
     go_wp2_with fail
     refine c2.mono ?_
     rintro e w4 ⟨op2,n2,s2,ao2,la2,ca2,w5,rfl,hw5,⟨HX5,HA5,HR5,A5,HZ5,HS5⟩,f5⟩
     obtain⟨-,x0,x1,x2,x3,-⟩:=HA5.out
     obtain⟨-,y0,y1,y2,y3,-⟩:=f5
     have c3:=xtwo_any 17 n n2 s s2 ao ao2 la ca la2 ca2 op op2 w5
     clear c2
     go_wp2_with fail
     refine c3.mono ?_
     rintro e w6 ⟨b6,hb6,hl6,rfl,B6,hrow⟩
     have hA6:=HA5.out.later B6
     have HA6:=hid hA6
     obtain⟨-,z0,z1,z2,z3,g0,g1,g2,g3⟩:=hA6
     have hs6:=B6.size
     have KB6:=hid B6
     have HROW:=hid hrow
     clear c3 x0 x1 x2 x3 y0 y1 y2 y3 B6 hrow
     go_wp2_with fail
     have hgA:=HGA.out
     have hgl:=HGL.out
     obtain⟨hs2,z5⟩:=HZ5.out
     rcases HS5.out with ⟨c,j,h1,h2,h3⟩ | ⟨p,j,h1,h3⟩
     ·go_roundg q0
      case measure=>omega
      case rel =>
       refine hid ⟨by have:=HQ.out;omega,(A5.out.next KB6.out).put4 (by omega) _ _ _ _,hgl,hgA,(HR5.out.later KB6.out).far (by omega) _ _ _ _,17,0,⟨#[]⟩,some ⟨b6,0,none⟩,2,2,HA6.out.set _ _ _ _,.inl ⟨j,twoE 17 false a c,(h3.later KB6.out).put4 (by omega) _ _ _ _,?_,?_⟩⟩
       ·refine ex_two ⟨by decide,by decide⟩ (S:=Rows w gA) ⟨by omega,by omega⟩ (by rw[set4_size];exact hl6) ?_
        exact RowIn.stays (Stays.set4 w6 _ _ _ _ (fun hb=>hb.2 rfl)) _ _ _ ⟨by omega,by omega⟩ hl6 (HROW.out _ _ _ HX5.out h2)
       ·have:=HL.out;rw[h1] at this;exact this
     ·go_roundg 0
      case measure=>omega
      case rel =>
       exact hid ⟨Nat.zero_le _,(A5.out.next KB6.out).put4 (by omega) _ _ _ _,hgl,hgA,(HR5.out.later KB6.out).far (by omega) _ _ _ _,17,0,⟨#[]⟩,some ⟨b6,0,none⟩,2,2,HA6.out.set _ _ _ _,.inr ⟨p,j,(h3.later KB6.out).put4 (by omega) _ _ _ _,by have:=HL.out;rw[h1] at this;exact (by simpa[bnd] using this.symm),rfl⟩⟩
   ·have PJ:=hid pj
    obtain⟨-,x0,x1,x2,x3,-⟩:=hA
    obtain⟨-,y0,y1,y2,y3,f0,f1,f2,f3⟩:=hR
    clear pj HG HR HQ
    have c1:=xsign_bad w0 wr g T h cap j pp ⟨#[124]⟩ PJ.out
    go_wp2_with fail
    refine c1.mono ?_
    rintro e w1 ⟨rfl,rfl⟩
    clear c1
    go_wp2_with fail
    exact bodyPost_ret (v:=EV op n s (.slice ao la ca)) (by simp[EV,results,results45,go_sem,y0,y1,y2,y3]) rfl ⟨HAW0.out.put4 (Nat.le_refl _) _ _ _ _,op,n,s,ao,la,ca,rfl,.inr ⟨pp,j,rfl,PJ.out.put4 HGL.out _ _ _ _⟩⟩
theorem xand_step {w0:World} {g:Nat} {T:List Tk} {h cap F:Nat} (hG:∀ (w:World) (i:Nat) r,XG w0 w g T h cap i (-1)→pE F 2 (T.drop i)=some r→Calls prog 186 #[.pointer (some ⟨g,0,none⟩)] w (XEnd w0 w g T h cap r))
  (w:World) (i:Nat) (r:Except Nat (Ex × List Tk)) (p:XG w0 w g T h cap i (-1)) (hr:pE (F+1) 1 (T.drop i)=some r):Calls prog 98 #[.pointer (some ⟨g,0,none⟩)] w (XEnd w0 w g T h cap r):=by
 have hgl:=p.glt
 rw[pE,if_pos (by decide)] at hr
 have d1:=below_alloc w (.cells #[.int .i64 0,.int .i64 0,.string ⟨#[]⟩,.slice none 0 0] 24)
 have f1:=four_new w (.int .i64 0) (.int .i64 0) (.string ⟨#[]⟩) (.slice none 0 0) 24
 have z1:=alloc_size w (.cells #[.int .i64 0,.int .i64 0,.string ⟨#[]⟩,.slice none 0 0] 24)
 obtain⟨w1,hw1⟩:∃ x,w.alloc (.cells #[.int .i64 0,.int .i64 0,.string ⟨#[]⟩,.slice none 0 0] 24)=x:=⟨_,rfl⟩
 rw[hw1] at d1 f1 z1
 have p1:=p.later d1
 cases h1:pE F 2 (T.drop i) with
 | none=>rw[h1] at hr;cases hr
 | some r1 =>
  rw[h1] at hr
  have cG:=hG w1 i r1 p1 h1
  have HR:=hid hr
  have HF1:=hid f1
  have HD1:=hid d1
  have HZ1:=hid z1
  have HGL:=hid hgl
  have HG:=hid hG
  clear hr f1 d1 z1 p1 p h1 hG hgl
  go_enter func98,ntmps98
  go_wp2_with fail
  refine cG.mono ?_
  rintro e w2 ⟨a2,op,n,s,ao,la,ca,rfl,hst⟩
  have d3:=below_alloc w2 (.cells #[.int .i64 op,.int .i64 n,.string s,.slice ao la ca] 24)
  have f3:=four_new w2 (.int .i64 op) (.int .i64 n) (.string s) (.slice ao la ca) 24
  have HK:∃ q,Hid (KLn w0 w g w2.heap.size T h cap 1 F r q (w2.alloc (.cells #[.int .i64 op,.int .i64 n,.string s,.slice ao la ca] 24))):=by
   have hA:Away g w (w2.alloc (.cells #[.int .i64 op,.int .i64 n,.string s,.slice ao la ca] 24)):=((Away.of HD1.out).trans a2).trans (Away.of d3)
   have hsz:=a2.size
   have h0:=HZ1.out
   have hgl:=HGL.out
   have hR:=(HF1.out.away a2 (by omega)).later d3
   rcases hst with ⟨a,j,rfl,hx,pj⟩ | ⟨pp,j,rfl,pj⟩
   ·exact⟨F,hid ⟨Nat.le_refl _,hA,HGL.out,by omega,hR,op,n,s,ao,la,ca,f3,.inl ⟨j,a,pj.later d3,(hx.wide (R:=Rows w w2.heap.size) (fun b hb hl=>⟨by have:w1.heap.size≤b:=hb;omega,by omega⟩)).later d3,HR.out⟩⟩⟩
   ·exact⟨0,hid ⟨Nat.zero_le _,hA,HGL.out,by omega,hR,op,n,s,ao,la,ca,f3,.inr ⟨pp,j,pj.later d3,by have:=HR.out;unfold bnd at this;simpa using this.symm,rfl⟩⟩⟩
  obtain⟨qq,HK⟩:=HK
  obtain⟨w3,hw3⟩:∃ x,w2.alloc (.cells #[.int .i64 op,.int .i64 n,.string s,.slice ao la ca] 24)=x:=⟨_,rfl⟩
  rw[hw3] at HK
  clear cG a2 hst d3 f3 HD1 HF1 HZ1
  go_wp2_with fail
  obtain⟨gA,hgA⟩:∃ x,w2.heap.size=x:=⟨_,rfl⟩
  rw[hgA] at HK ⊢
  clear hgA
  clear hw3 hw1
  go_loopg [4] (qq) (fun q s4 wr=>Hid (KLn w0 w g gA T h cap 1 F r q wr))
  case atStart=>exact HK
  case round =>
   clear HK
   obtain⟨hqF,aw,hgl,hgA,hR,op,n,s,ao,la,ca,hA,hst⟩:=hrel.out
   have HA0:=hid hA
   have HRR0:=hid hR
   have HAW0:=hid aw
   have HGA:=hid hgA
   have HQ:=hid hqF
   clear hrel hqF aw hgl hgA
   rcases hst with ⟨i,a,pi,hx,hL⟩ | ⟨pp,j,pj,rfl,-⟩
   ·have PI:=hid pi
    have HX0:=hid hx
    clear pi hx hA hR HR
    cases hI0:isS (T.drop i) [38] with
    | false =>
     clear HG HQ
     have hr:r=.ok (a,T.drop i):=by
      cases gk with
      | zero=>rw[pL] at hL;cases hL
      | succ q0 =>
       rw[pL,opH1,hI0,if_neg (by decide)] at hL
       injection hL with hL;exact hL.symm
     subst hr
     clear hL
     have c1:=sg_any PI HX0 HA0 HRR0 HAW0 HGL HGA [38] (by decide) hI0
     clear PI HX0 HA0 HRR0 HAW0
     go_wp2_with fail
     refine c1.mono ?_
     rintro e v1 ⟨rfl,PI,HX0,HA0,HRR0,HAW0⟩
     clear c1
     have HR1:=hid HRR0.out
     obtain⟨-,x0,x1,x2,x3,-⟩:=HA0.out
     obtain⟨-,y0,y1,y2,y3,f0,f1,f2,f3⟩:=HR1.out
     go_wp2_with fail
     exact bodyPost_ret (v:=EV op n s (.slice ao la ca)) (by simp[EV,results,results98,go_sem,y0,y1,y2,y3]) rfl ⟨HAW0.out.put4 (Nat.le_refl _) _ _ _ _,op,n,s,ao,la,ca,rfl,.inl ⟨a,i,rfl,(HX0.out.keep (.set4 _ _ _ _ _ (by intro hb;have:=hb.1;omega))).wide (fun b hb _=>by have:=hb.1;show w.heap.size≤b;omega),PI.out.put4 HGL.out _ _ _ _⟩⟩
    | true =>
     cases gk with
     | zero=>rw[pL] at hL;cases hL
     | succ q0 =>
     rw[pL,opH1,hI0,if_pos rfl] at hL
     replace hL:bnd (pE q0 2 (T.drop i).tail) (fun x=>pL q0 1 (twoE 16 false a x.1) x.2)=some r:=hL
     rw[List.tail_drop] at hL
     cases hp:pE q0 2 (T.drop (i+1)) with
     | none=>rw[hp] at hL;cases hL
     | some r2 =>
     rw[hp] at hL
     have hpF:pE F 2 (T.drop (i+1))=some r2:=by
      have:=pE_add hp (F - q0)
      rwa [show q0+(F - q0)=F by have:=HQ.out;omega] at this
     have HL:=hid hL
     have HPF:=hid hpF
     clear hL hp hpF
     have c1:=sg_any PI HX0 HA0 HRR0 HAW0 HGL HGA [38] (by decide) hI0
     clear PI HX0 HA0 HRR0 HAW0
     go_wp2_with fail
     refine c1.mono ?_
     rintro e v1 ⟨rfl,PI,HX0,HA0,HRR0,HAW0⟩
     have c2:=sg_sub HX0 HA0 HRR0 HAW0 HGL HGA (HG.out v1 (i+1) r2 PI.out HPF.out)
     clear c1 PI HX0 HA0 HRR0 HAW0
     go_wp2_with fail
     refine c2.mono ?_
     rintro e w4 ⟨op2,n2,s2,ao2,la2,ca2,w5,rfl,hw5,⟨HX5,HA5,HR5,A5,HZ5,HS5⟩,f5⟩
     obtain⟨-,x0,x1,x2,x3,-⟩:=HA5.out
     obtain⟨-,y0,y1,y2,y3,-⟩:=f5
     have c3:=xtwo_any 16 n n2 s s2 ao ao2 la ca la2 ca2 op op2 w5
     clear c2
     go_wp2_with fail
     refine c3.mono ?_
     rintro e w6 ⟨b6,hb6,hl6,rfl,B6,hrow⟩
     have hA6:=HA5.out.later B6
     have HA6:=hid hA6
     obtain⟨-,z0,z1,z2,z3,g0,g1,g2,g3⟩:=hA6
     have hs6:=B6.size
     have KB6:=hid B6
     have HROW:=hid hrow
     clear c3 x0 x1 x2 x3 y0 y1 y2 y3 B6 hrow
     go_wp2_with fail
     have hgA:=HGA.out
     have hgl:=HGL.out
     obtain⟨hs2,z5⟩:=HZ5.out
     rcases HS5.out with ⟨c,j,h1,h2,h3⟩ | ⟨p,j,h1,h3⟩
     ·go_roundg q0
      case measure=>omega
      case rel =>
       refine hid ⟨by have:=HQ.out;omega,(A5.out.next KB6.out).put4 (by omega) _ _ _ _,hgl,hgA,(HR5.out.later KB6.out).far (by omega) _ _ _ _,16,0,⟨#[]⟩,some ⟨b6,0,none⟩,2,2,HA6.out.set _ _ _ _,.inl ⟨j,twoE 16 false a c,(h3.later KB6.out).put4 (by omega) _ _ _ _,?_,?_⟩⟩
       ·refine ex_two ⟨by decide,by decide⟩ (S:=Rows w gA) ⟨by omega,by omega⟩ (by rw[set4_size];exact hl6) ?_
        exact RowIn.stays (Stays.set4 w6 _ _ _ _ (fun hb=>hb.2 rfl)) _ _ _ ⟨by omega,by omega⟩ hl6 (HROW.out _ _ _ HX5.out h2)
       ·have:=HL.out;rw[h1] at this;exact this
     ·go_roundg 0
      case measure=>omega
      case rel =>
       exact hid ⟨Nat.zero_le _,(A5.out.next KB6.out).put4 (by omega) _ _ _ _,hgl,hgA,(HR5.out.later KB6.out).far (by omega) _ _ _ _,16,0,⟨#[]⟩,some ⟨b6,0,none⟩,2,2,HA6.out.set _ _ _ _,.inr ⟨p,j,(h3.later KB6.out).put4 (by omega) _ _ _ _,by have:=HL.out;rw[h1] at this;exact (by simpa[bnd] using this.symm),rfl⟩⟩
   ·have PJ:=hid pj
    obtain⟨-,x0,x1,x2,x3,-⟩:=hA
    obtain⟨-,y0,y1,y2,y3,f0,f1,f2,f3⟩:=hR
    clear pj HG HR HQ
    have c1:=xsign_bad w0 wr g T h cap j pp ⟨#[38]⟩ PJ.out
    go_wp2_with fail
    refine c1.mono ?_
    rintro e w1 ⟨rfl,rfl⟩
    clear c1
    go_wp2_with fail
    exact bodyPost_ret (v:=EV op n s (.slice ao la ca)) (by simp[EV,results,results98,go_sem,y0,y1,y2,y3]) rfl ⟨HAW0.out.put4 (Nat.le_refl _) _ _ _ _,op,n,s,ao,la,ca,rfl,.inr ⟨pp,j,rfl,PJ.out.put4 HGL.out _ _ _ _⟩⟩
end
section
open Lib (hid)
open _root_.Go.Proofs.Tryz
set_option maxHeartbeats 4000000
set_option maxRecDepth 100000
open Go.RowKit
theorem opH3 (ts:List Tk):opH 3 ts=if isS ts [43]=true then some (7,false) else if isS ts [45]=true then some (8,false) else none:=by
 cases ts with
 | nil=>rfl
 | cons t q =>
  unfold opH opAt isS
  by_cases hk:t.k=4
  ·simp[hk]
  ·simp[hk]
theorem opH4 (ts:List Tk):opH 4 ts=if isS ts [42]=true then some (9,false) else if isS ts [47]=true then some (10,false) else if isS ts [37]=true then some (11,false) else none:=by
 cases ts with
 | nil=>rfl
 | cons t q =>
  unfold opH opAt isS
  by_cases hk:t.k=4
  ·simp[hk]
  ·simp[hk]
theorem xsum_step {w0:World} {g:Nat} {T:List Tk} {h cap F:Nat} (hG:∀ (w:World) (i:Nat) r,XG w0 w g T h cap i (-1)→pE F 4 (T.drop i)=some r→Calls prog 296 #[.pointer (some ⟨g,0,none⟩)] w (XEnd w0 w g T h cap r))
  (w:World) (i:Nat) (r:Except Nat (Ex × List Tk)) (p:XG w0 w g T h cap i (-1)) (hr:pE (F+1) 3 (T.drop i)=some r):Calls prog 257 #[.pointer (some ⟨g,0,none⟩)] w (XEnd w0 w g T h cap r):=by
 have hgl:=p.glt
 rw[pE,if_pos (by decide)] at hr
 have d1:=below_alloc w (.cells #[.int .i64 0,.int .i64 0,.string ⟨#[]⟩,.slice none 0 0] 24)
 have f1:=four_new w (.int .i64 0) (.int .i64 0) (.string ⟨#[]⟩) (.slice none 0 0) 24
 have z1:=alloc_size w (.cells #[.int .i64 0,.int .i64 0,.string ⟨#[]⟩,.slice none 0 0] 24)
 obtain⟨w1,hw1⟩:∃ x,w.alloc (.cells #[.int .i64 0,.int .i64 0,.string ⟨#[]⟩,.slice none 0 0] 24)=x:=⟨_,rfl⟩
 rw[hw1] at d1 f1 z1
 have p1:=p.later d1
 cases h1:pE F 4 (T.drop i) with
 | none=>rw[h1] at hr;cases hr
 | some r1 =>
  rw[h1] at hr
  have cG:=hG w1 i r1 p1 h1
  have HR:=hid hr
  have HF1:=hid f1
  have HD1:=hid d1
  have HZ1:=hid z1
  have HGL:=hid hgl
  have HG:=hid hG
  clear hr f1 d1 z1 p1 p h1 hG hgl
  go_enter func257,ntmps257
  go_wp2_with fail
  refine cG.mono ?_
  rintro e w2 ⟨a2,op,n,s,ao,la,ca,rfl,hst⟩
  have d3:=below_alloc w2 (.cells #[.int .i64 op,.int .i64 n,.string s,.slice ao la ca] 24)
  have f3:=four_new w2 (.int .i64 op) (.int .i64 n) (.string s) (.slice ao la ca) 24
  have HK:∃ q,Hid (KLn w0 w g w2.heap.size T h cap 3 F r q (w2.alloc (.cells #[.int .i64 op,.int .i64 n,.string s,.slice ao la ca] 24))):=by
   have hA:Away g w (w2.alloc (.cells #[.int .i64 op,.int .i64 n,.string s,.slice ao la ca] 24)):=((Away.of HD1.out).trans a2).trans (Away.of d3)
   have hsz:=a2.size
   have h0:=HZ1.out
   have hgl:=HGL.out
   have hR:=(HF1.out.away a2 (by omega)).later d3
   rcases hst with ⟨a,j,rfl,hx,pj⟩ | ⟨pp,j,rfl,pj⟩
   ·exact⟨F,hid ⟨Nat.le_refl _,hA,HGL.out,by omega,hR,op,n,s,ao,la,ca,f3,.inl ⟨j,a,pj.later d3,(hx.wide (R:=Rows w w2.heap.size) (fun b hb hl=>⟨by have:w1.heap.size≤b:=hb;omega,by omega⟩)).later d3,HR.out⟩⟩⟩
   ·exact⟨0,hid ⟨Nat.zero_le _,hA,HGL.out,by omega,hR,op,n,s,ao,la,ca,f3,.inr ⟨pp,j,pj.later d3,by have:=HR.out;unfold bnd at this;simpa using this.symm,rfl⟩⟩⟩
  obtain⟨qq,HK⟩:=HK
  obtain⟨w3,hw3⟩:∃ x,w2.alloc (.cells #[.int .i64 op,.int .i64 n,.string s,.slice ao la ca] 24)=x:=⟨_,rfl⟩
  rw[hw3] at HK
  clear cG a2 hst d3 f3 HD1 HF1 HZ1
  go_wp2_with fail
  obtain⟨gA,hgA⟩:∃ x,w2.heap.size=x:=⟨_,rfl⟩
  rw[hgA] at HK ⊢
  clear hgA
  clear hw3 hw1
  go_loopg [4] (qq) (fun q s4 wr=>Hid (KLn w0 w g gA T h cap 3 F r q wr))
  case atStart=>exact HK
  case round =>
   clear HK
   obtain⟨hqF,aw,hgl,hgA,hR,op,n,s,ao,la,ca,hA,hst⟩:=hrel.out
   have HA0:=hid hA
   have HRR0:=hid hR
   have HAW0:=hid aw
   have HGA:=hid hgA
   have HQ:=hid hqF
   clear hrel hqF aw hgl hgA
   rcases hst with ⟨i,a,pi,hx,hL⟩ | ⟨pp,j,pj,rfl,-⟩
   ·have PI:=hid pi
    have HX0:=hid hx
    clear pi hx hA hR HR
    cases hI0:isS (T.drop i) [43] with
    | false =>
     cases hI1:isS (T.drop i) [45] with
     | false =>
      clear HG HQ
      have hr:r=.ok (a,T.drop i):=by
       cases gk with
       | zero=>rw[pL] at hL;cases hL
       | succ q0 =>
        rw[pL,opH3,hI0,if_neg (by decide),hI1,if_neg (by decide)] at hL
        injection hL with hL;exact hL.symm
      subst hr
      clear hL
      have c1:=sg_any PI HX0 HA0 HRR0 HAW0 HGL HGA [43] (by decide) hI0
      clear PI HX0 HA0 HRR0 HAW0
      go_wp2_with fail
      refine c1.mono ?_
      rintro e v1 ⟨rfl,PI,HX0,HA0,HRR0,HAW0⟩
      clear c1
      have c1:=sg_any PI HX0 HA0 HRR0 HAW0 HGL HGA [45] (by decide) hI1
      clear PI HX0 HA0 HRR0 HAW0
      go_wp2_with fail
      refine c1.mono ?_
      rintro e v2 ⟨rfl,PI,HX0,HA0,HRR0,HAW0⟩
      clear c1
      have HR1:=hid HRR0.out
      obtain⟨-,x0,x1,x2,x3,-⟩:=HA0.out
      obtain⟨-,y0,y1,y2,y3,f0,f1,f2,f3⟩:=HR1.out
      go_wp2_with fail
      exact bodyPost_ret (v:=EV op n s (.slice ao la ca)) (by simp[EV,results,results257,go_sem,y0,y1,y2,y3]) rfl ⟨HAW0.out.put4 (Nat.le_refl _) _ _ _ _,op,n,s,ao,la,ca,rfl,.inl ⟨a,i,rfl,(HX0.out.keep (.set4 _ _ _ _ _ (by intro hb;have:=hb.1;omega))).wide (fun b hb _=>by have:=hb.1;show w.heap.size≤b;omega),PI.out.put4 HGL.out _ _ _ _⟩⟩
     | true =>
      cases gk with
      | zero=>rw[pL] at hL;cases hL
      | succ q0 =>
      rw[pL,opH3,hI0,if_neg (by decide),hI1,if_pos rfl] at hL
      replace hL:bnd (pE q0 4 (T.drop i).tail) (fun x=>pL q0 3 (twoE 8 false a x.1) x.2)=some r:=hL
      rw[List.tail_drop] at hL
      cases hp:pE q0 4 (T.drop (i+1)) with
      | none=>rw[hp] at hL;cases hL
      | some r2 =>
      rw[hp] at hL
      have hpF:pE F 4 (T.drop (i+1))=some r2:=by
       have:=pE_add hp (F - q0)
       rwa [show q0+(F - q0)=F by have:=HQ.out;omega] at this
      have HL:=hid hL
      have HPF:=hid hpF
      clear hL hp hpF
      have c1:=sg_any PI HX0 HA0 HRR0 HAW0 HGL HGA [43] (by decide) hI0
      clear PI HX0 HA0 HRR0 HAW0
      go_wp2_with fail
      refine c1.mono ?_
      rintro e v1 ⟨rfl,PI,HX0,HA0,HRR0,HAW0⟩
      clear c1
      have c1:=sg_any PI HX0 HA0 HRR0 HAW0 HGL HGA [45] (by decide) hI1
      clear PI HX0 HA0 HRR0 HAW0
      go_wp2_with fail
      refine c1.mono ?_
      rintro e v2 ⟨rfl,PI,HX0,HA0,HRR0,HAW0⟩
      have c2:=sg_sub HX0 HA0 HRR0 HAW0 HGL HGA (HG.out v2 (i+1) r2 PI.out HPF.out)
      clear c1 PI HX0 HA0 HRR0 HAW0
      go_wp2_with fail
      refine c2.mono ?_
      rintro e w4 ⟨op2,n2,s2,ao2,la2,ca2,w5,rfl,hw5,⟨HX5,HA5,HR5,A5,HZ5,HS5⟩,f5⟩
      obtain⟨-,x0,x1,x2,x3,-⟩:=HA5.out
      obtain⟨-,y0,y1,y2,y3,-⟩:=f5
      have c3:=xtwo_any 8 n n2 s s2 ao ao2 la ca la2 ca2 op op2 w5
      clear c2
      go_wp2_with fail
      refine c3.mono ?_
      rintro e w6 ⟨b6,hb6,hl6,rfl,B6,hrow⟩
      have hA6:=HA5.out.later B6
      have HA6:=hid hA6
      obtain⟨-,z0,z1,z2,z3,g0,g1,g2,g3⟩:=hA6
      have hs6:=B6.size
      have KB6:=hid B6
      have HROW:=hid hrow
      clear c3 x0 x1 x2 x3 y0 y1 y2 y3 B6 hrow
      go_wp2_with fail
      have hgA:=HGA.out
      have hgl:=HGL.out
      obtain⟨hs2,z5⟩:=HZ5.out
      rcases HS5.out with ⟨c,j,h1,h2,h3⟩ | ⟨p,j,h1,h3⟩
      ·go_roundg q0
       case measure=>omega
       case rel =>
        refine hid ⟨by have:=HQ.out;omega,(A5.out.next KB6.out).put4 (by omega) _ _ _ _,hgl,hgA,(HR5.out.later KB6.out).far (by omega) _ _ _ _,8,0,⟨#[]⟩,some ⟨b6,0,none⟩,2,2,HA6.out.set _ _ _ _,.inl ⟨j,twoE 8 false a c,(h3.later KB6.out).put4 (by omega) _ _ _ _,?_,?_⟩⟩
        ·refine ex_two ⟨by decide,by decide⟩ (S:=Rows w gA) ⟨by omega,by omega⟩ (by rw[set4_size];exact hl6) ?_
         exact RowIn.stays (Stays.set4 w6 _ _ _ _ (fun hb=>hb.2 rfl)) _ _ _ ⟨by omega,by omega⟩ hl6 (HROW.out _ _ _ HX5.out h2)
        ·have:=HL.out;rw[h1] at this;exact this
      ·go_roundg 0
       case measure=>omega
       case rel =>
        exact hid ⟨Nat.zero_le _,(A5.out.next KB6.out).put4 (by omega) _ _ _ _,hgl,hgA,(HR5.out.later KB6.out).far (by omega) _ _ _ _,8,0,⟨#[]⟩,some ⟨b6,0,none⟩,2,2,HA6.out.set _ _ _ _,.inr ⟨p,j,(h3.later KB6.out).put4 (by omega) _ _ _ _,by have:=HL.out;rw[h1] at this;exact (by simpa[bnd] using this.symm),rfl⟩⟩
    | true =>
     cases gk with
     | zero=>rw[pL] at hL;cases hL
     | succ q0 =>
     rw[pL,opH3,hI0,if_pos rfl] at hL
     replace hL:bnd (pE q0 4 (T.drop i).tail) (fun x=>pL q0 3 (twoE 7 false a x.1) x.2)=some r:=hL
     rw[List.tail_drop] at hL
     cases hp:pE q0 4 (T.drop (i+1)) with
     | none=>rw[hp] at hL;cases hL
     | some r2 =>
     rw[hp] at hL
     have hpF:pE F 4 (T.drop (i+1))=some r2:=by
      have:=pE_add hp (F - q0)
      rwa [show q0+(F - q0)=F by have:=HQ.out;omega] at this
     have HL:=hid hL
     have HPF:=hid hpF
     clear hL hp hpF
     have c1:=sg_any PI HX0 HA0 HRR0 HAW0 HGL HGA [43] (by decide) hI0
     clear PI HX0 HA0 HRR0 HAW0
     go_wp2_with fail
     refine c1.mono ?_
     rintro e v1 ⟨rfl,PI,HX0,HA0,HRR0,HAW0⟩
     have c2:=sg_sub HX0 HA0 HRR0 HAW0 HGL HGA (HG.out v1 (i+1) r2 PI.out HPF.out)
     clear c1 PI HX0 HA0 HRR0 HAW0
     go_wp2_with fail
     refine c2.mono ?_
     rintro e w4 ⟨op2,n2,s2,ao2,la2,ca2,w5,rfl,hw5,⟨HX5,HA5,HR5,A5,HZ5,HS5⟩,f5⟩
     obtain⟨-,x0,x1,x2,x3,-⟩:=HA5.out
     obtain⟨-,y0,y1,y2,y3,-⟩:=f5
     have c3:=xtwo_any 7 n n2 s s2 ao ao2 la ca la2 ca2 op op2 w5
     clear c2
     go_wp2_with fail
     refine c3.mono ?_
     rintro e w6 ⟨b6,hb6,hl6,rfl,B6,hrow⟩
     have hA6:=HA5.out.later B6
     have HA6:=hid hA6
     obtain⟨-,z0,z1,z2,z3,g0,g1,g2,g3⟩:=hA6
     have hs6:=B6.size
     have KB6:=hid B6
     have HROW:=hid hrow
     clear c3 x0 x1 x2 x3 y0 y1 y2 y3 B6 hrow
     go_wp2_with fail
     have hgA:=HGA.out
     have hgl:=HGL.out
     obtain⟨hs2,z5⟩:=HZ5.out
     rcases HS5.out with ⟨c,j,h1,h2,h3⟩ | ⟨p,j,h1,h3⟩
     ·go_roundg q0
      case measure=>omega
      case rel =>
       refine hid ⟨by have:=HQ.out;omega,(A5.out.next KB6.out).put4 (by omega) _ _ _ _,hgl,hgA,(HR5.out.later KB6.out).far (by omega) _ _ _ _,7,0,⟨#[]⟩,some ⟨b6,0,none⟩,2,2,HA6.out.set _ _ _ _,.inl ⟨j,twoE 7 false a c,(h3.later KB6.out).put4 (by omega) _ _ _ _,?_,?_⟩⟩
       ·refine ex_two ⟨by decide,by decide⟩ (S:=Rows w gA) ⟨by omega,by omega⟩ (by rw[set4_size];exact hl6) ?_
        exact RowIn.stays (Stays.set4 w6 _ _ _ _ (fun hb=>hb.2 rfl)) _ _ _ ⟨by omega,by omega⟩ hl6 (HROW.out _ _ _ HX5.out h2)
       ·have:=HL.out;rw[h1] at this;exact this
     ·go_roundg 0
      case measure=>omega
      case rel =>
       exact hid ⟨Nat.zero_le _,(A5.out.next KB6.out).put4 (by omega) _ _ _ _,hgl,hgA,(HR5.out.later KB6.out).far (by omega) _ _ _ _,7,0,⟨#[]⟩,some ⟨b6,0,none⟩,2,2,HA6.out.set _ _ _ _,.inr ⟨p,j,(h3.later KB6.out).put4 (by omega) _ _ _ _,by have:=HL.out;rw[h1] at this;exact (by simpa[bnd] using this.symm),rfl⟩⟩
   ·have PJ:=hid pj
    obtain⟨-,x0,x1,x2,x3,-⟩:=hA
    obtain⟨-,y0,y1,y2,y3,f0,f1,f2,f3⟩:=hR
    clear pj HG HR HQ
    have c1:=xsign_bad w0 wr g T h cap j pp ⟨#[43]⟩ PJ.out
    go_wp2_with fail
    refine c1.mono ?_
    rintro e w1 ⟨rfl,rfl⟩
    clear c1
    have c1:=xsign_bad w0 wr g T h cap j pp ⟨#[45]⟩ PJ.out
    go_wp2_with fail
    refine c1.mono ?_
    rintro e w1 ⟨rfl,rfl⟩
    clear c1
    go_wp2_with fail
    exact bodyPost_ret (v:=EV op n s (.slice ao la ca)) (by simp[EV,results,results257,go_sem,y0,y1,y2,y3]) rfl ⟨HAW0.out.put4 (Nat.le_refl _) _ _ _ _,op,n,s,ao,la,ca,rfl,.inr ⟨pp,j,rfl,PJ.out.put4 HGL.out _ _ _ _⟩⟩
theorem xproduct_step {w0:World} {g:Nat} {T:List Tk} {h cap F:Nat} (hG:∀ (w:World) (i:Nat) r,XG w0 w g T h cap i (-1)→pE F 5 (T.drop i)=some r→Calls prog 314 #[.pointer (some ⟨g,0,none⟩)] w (XEnd w0 w g T h cap r))
  (w:World) (i:Nat) (r:Except Nat (Ex × List Tk)) (p:XG w0 w g T h cap i (-1)) (hr:pE (F+1) 4 (T.drop i)=some r):Calls prog 296 #[.pointer (some ⟨g,0,none⟩)] w (XEnd w0 w g T h cap r):=by
 have hgl:=p.glt
 rw[pE,if_pos (by decide)] at hr
 have d1:=below_alloc w (.cells #[.int .i64 0,.int .i64 0,.string ⟨#[]⟩,.slice none 0 0] 24)
 have f1:=four_new w (.int .i64 0) (.int .i64 0) (.string ⟨#[]⟩) (.slice none 0 0) 24
 have z1:=alloc_size w (.cells #[.int .i64 0,.int .i64 0,.string ⟨#[]⟩,.slice none 0 0] 24)
 obtain⟨w1,hw1⟩:∃ x,w.alloc (.cells #[.int .i64 0,.int .i64 0,.string ⟨#[]⟩,.slice none 0 0] 24)=x:=⟨_,rfl⟩
 rw[hw1] at d1 f1 z1
 have p1:=p.later d1
 cases h1:pE F 5 (T.drop i) with
 | none=>rw[h1] at hr;cases hr
 | some r1 =>
  rw[h1] at hr
  have cG:=hG w1 i r1 p1 h1
  have HR:=hid hr
  have HF1:=hid f1
  have HD1:=hid d1
  have HZ1:=hid z1
  have HGL:=hid hgl
  have HG:=hid hG
  clear hr f1 d1 z1 p1 p h1 hG hgl
  go_enter func296,ntmps296
  go_wp2_with fail
  refine cG.mono ?_
  rintro e w2 ⟨a2,op,n,s,ao,la,ca,rfl,hst⟩
  have d3:=below_alloc w2 (.cells #[.int .i64 op,.int .i64 n,.string s,.slice ao la ca] 24)
  have f3:=four_new w2 (.int .i64 op) (.int .i64 n) (.string s) (.slice ao la ca) 24
  have HK:∃ q,Hid (KLn w0 w g w2.heap.size T h cap 4 F r q (w2.alloc (.cells #[.int .i64 op,.int .i64 n,.string s,.slice ao la ca] 24))):=by
   have hA:Away g w (w2.alloc (.cells #[.int .i64 op,.int .i64 n,.string s,.slice ao la ca] 24)):=((Away.of HD1.out).trans a2).trans (Away.of d3)
   have hsz:=a2.size
   have h0:=HZ1.out
   have hgl:=HGL.out
   have hR:=(HF1.out.away a2 (by omega)).later d3
   rcases hst with ⟨a,j,rfl,hx,pj⟩ | ⟨pp,j,rfl,pj⟩
   ·exact⟨F,hid ⟨Nat.le_refl _,hA,HGL.out,by omega,hR,op,n,s,ao,la,ca,f3,.inl ⟨j,a,pj.later d3,(hx.wide (R:=Rows w w2.heap.size) (fun b hb hl=>⟨by have:w1.heap.size≤b:=hb;omega,by omega⟩)).later d3,HR.out⟩⟩⟩
   ·exact⟨0,hid ⟨Nat.zero_le _,hA,HGL.out,by omega,hR,op,n,s,ao,la,ca,f3,.inr ⟨pp,j,pj.later d3,by have:=HR.out;unfold bnd at this;simpa using this.symm,rfl⟩⟩⟩
  obtain⟨qq,HK⟩:=HK
  obtain⟨w3,hw3⟩:∃ x,w2.alloc (.cells #[.int .i64 op,.int .i64 n,.string s,.slice ao la ca] 24)=x:=⟨_,rfl⟩
  rw[hw3] at HK
  clear cG a2 hst d3 f3 HD1 HF1 HZ1
  go_wp2_with fail
  obtain⟨gA,hgA⟩:∃ x,w2.heap.size=x:=⟨_,rfl⟩
  rw[hgA] at HK ⊢
  clear hgA
  clear hw3 hw1
  go_loopg [4] (qq) (fun q s4 wr=>Hid (KLn w0 w g gA T h cap 4 F r q wr))
  case atStart=>exact HK
  case round =>
   clear HK
   obtain⟨hqF,aw,hgl,hgA,hR,op,n,s,ao,la,ca,hA,hst⟩:=hrel.out
   have HA0:=hid hA
   have HRR0:=hid hR
   have HAW0:=hid aw
   have HGA:=hid hgA
   have HQ:=hid hqF
   clear hrel hqF aw hgl hgA
   rcases hst with ⟨i,a,pi,hx,hL⟩ | ⟨pp,j,pj,rfl,-⟩
   ·have PI:=hid pi
    have HX0:=hid hx
    clear pi hx hA hR HR
    cases hI0:isS (T.drop i) [42] with
    | false =>
     cases hI1:isS (T.drop i) [47] with
     | false =>
      cases hI2:isS (T.drop i) [37] with
      | false =>
       clear HG HQ
       have hr:r=.ok (a,T.drop i):=by
        cases gk with
        | zero=>rw[pL] at hL;cases hL
        | succ q0 =>
         rw[pL,opH4,hI0,if_neg (by decide),hI1,if_neg (by decide),hI2,if_neg (by decide)] at hL
         injection hL with hL;exact hL.symm
       subst hr
       clear hL
       have c1:=sg_any PI HX0 HA0 HRR0 HAW0 HGL HGA [42] (by decide) hI0
       clear PI HX0 HA0 HRR0 HAW0
       go_wp2_with fail
       refine c1.mono ?_
       rintro e v1 ⟨rfl,PI,HX0,HA0,HRR0,HAW0⟩
       clear c1
       have c1:=sg_any PI HX0 HA0 HRR0 HAW0 HGL HGA [47] (by decide) hI1
       clear PI HX0 HA0 HRR0 HAW0
       go_wp2_with fail
       refine c1.mono ?_
       rintro e v2 ⟨rfl,PI,HX0,HA0,HRR0,HAW0⟩
       clear c1
       have c1:=sg_any PI HX0 HA0 HRR0 HAW0 HGL HGA [37] (by decide) hI2
       clear PI HX0 HA0 HRR0 HAW0
       go_wp2_with fail
       refine c1.mono ?_
       rintro e v3 ⟨rfl,PI,HX0,HA0,HRR0,HAW0⟩
       clear c1
       have HR1:=hid HRR0.out
       obtain⟨-,x0,x1,x2,x3,-⟩:=HA0.out
       obtain⟨-,y0,y1,y2,y3,f0,f1,f2,f3⟩:=HR1.out
       go_wp2_with fail
       exact bodyPost_ret (v:=EV op n s (.slice ao la ca)) (by simp[EV,results,results296,go_sem,y0,y1,y2,y3]) rfl ⟨HAW0.out.put4 (Nat.le_refl _) _ _ _ _,op,n,s,ao,la,ca,rfl,.inl ⟨a,i,rfl,(HX0.out.keep (.set4 _ _ _ _ _ (by intro hb;have:=hb.1;omega))).wide (fun b hb _=>by have:=hb.1;show w.heap.size≤b;omega),PI.out.put4 HGL.out _ _ _ _⟩⟩
      | true =>
       cases gk with
       | zero=>rw[pL] at hL;cases hL
       | succ q0 =>
       rw[pL,opH4,hI0,if_neg (by decide),hI1,if_neg (by decide),hI2,if_pos rfl] at hL
       replace hL:bnd (pE q0 5 (T.drop i).tail) (fun x=>pL q0 4 (twoE 11 false a x.1) x.2)=some r:=hL
       rw[List.tail_drop] at hL
       cases hp:pE q0 5 (T.drop (i+1)) with
       | none=>rw[hp] at hL;cases hL
       | some r2 =>
       rw[hp] at hL
       have hpF:pE F 5 (T.drop (i+1))=some r2:=by
        have:=pE_add hp (F - q0)
        rwa [show q0+(F - q0)=F by have:=HQ.out;omega] at this
       have HL:=hid hL
       have HPF:=hid hpF
       clear hL hp hpF
       have c1:=sg_any PI HX0 HA0 HRR0 HAW0 HGL HGA [42] (by decide) hI0
       clear PI HX0 HA0 HRR0 HAW0
       go_wp2_with fail
       refine c1.mono ?_
       rintro e v1 ⟨rfl,PI,HX0,HA0,HRR0,HAW0⟩
       clear c1
       have c1:=sg_any PI HX0 HA0 HRR0 HAW0 HGL HGA [47] (by decide) hI1
       clear PI HX0 HA0 HRR0 HAW0
       go_wp2_with fail
       refine c1.mono ?_
       rintro e v2 ⟨rfl,PI,HX0,HA0,HRR0,HAW0⟩
       clear c1
       have c1:=sg_any PI HX0 HA0 HRR0 HAW0 HGL HGA [37] (by decide) hI2
       clear PI HX0 HA0 HRR0 HAW0
       go_wp2_with fail
       refine c1.mono ?_
       rintro e v3 ⟨rfl,PI,HX0,HA0,HRR0,HAW0⟩
       have c2:=sg_sub HX0 HA0 HRR0 HAW0 HGL HGA (HG.out v3 (i+1) r2 PI.out HPF.out)
       clear c1 PI HX0 HA0 HRR0 HAW0
       go_wp2_with fail
       refine c2.mono ?_
       rintro e w4 ⟨op2,n2,s2,ao2,la2,ca2,w5,rfl,hw5,⟨HX5,HA5,HR5,A5,HZ5,HS5⟩,f5⟩
       obtain⟨-,x0,x1,x2,x3,-⟩:=HA5.out
       obtain⟨-,y0,y1,y2,y3,-⟩:=f5
       have c3:=xtwo_any 11 n n2 s s2 ao ao2 la ca la2 ca2 op op2 w5
       clear c2
       go_wp2_with fail
       refine c3.mono ?_
       rintro e w6 ⟨b6,hb6,hl6,rfl,B6,hrow⟩
       have hA6:=HA5.out.later B6
       have HA6:=hid hA6
       obtain⟨-,z0,z1,z2,z3,g0,g1,g2,g3⟩:=hA6
       have hs6:=B6.size
       have KB6:=hid B6
       have HROW:=hid hrow
       clear c3 x0 x1 x2 x3 y0 y1 y2 y3 B6 hrow
       go_wp2_with fail
       have hgA:=HGA.out
       have hgl:=HGL.out
       obtain⟨hs2,z5⟩:=HZ5.out
       rcases HS5.out with ⟨c,j,h1,h2,h3⟩ | ⟨p,j,h1,h3⟩
       ·go_roundg q0
        case measure=>omega
        case rel =>
         refine hid ⟨by have:=HQ.out;omega,(A5.out.next KB6.out).put4 (by omega) _ _ _ _,hgl,hgA,(HR5.out.later KB6.out).far (by omega) _ _ _ _,11,0,⟨#[]⟩,some ⟨b6,0,none⟩,2,2,HA6.out.set _ _ _ _,.inl ⟨j,twoE 11 false a c,(h3.later KB6.out).put4 (by omega) _ _ _ _,?_,?_⟩⟩
         ·refine ex_two ⟨by decide,by decide⟩ (S:=Rows w gA) ⟨by omega,by omega⟩ (by rw[set4_size];exact hl6) ?_
          exact RowIn.stays (Stays.set4 w6 _ _ _ _ (fun hb=>hb.2 rfl)) _ _ _ ⟨by omega,by omega⟩ hl6 (HROW.out _ _ _ HX5.out h2)
         ·have:=HL.out;rw[h1] at this;exact this
       ·go_roundg 0
        case measure=>omega
        case rel =>
         exact hid ⟨Nat.zero_le _,(A5.out.next KB6.out).put4 (by omega) _ _ _ _,hgl,hgA,(HR5.out.later KB6.out).far (by omega) _ _ _ _,11,0,⟨#[]⟩,some ⟨b6,0,none⟩,2,2,HA6.out.set _ _ _ _,.inr ⟨p,j,(h3.later KB6.out).put4 (by omega) _ _ _ _,by have:=HL.out;rw[h1] at this;exact (by simpa[bnd] using this.symm),rfl⟩⟩
     | true =>
      cases gk with
      | zero=>rw[pL] at hL;cases hL
      | succ q0 =>
      rw[pL,opH4,hI0,if_neg (by decide),hI1,if_pos rfl] at hL
      replace hL:bnd (pE q0 5 (T.drop i).tail) (fun x=>pL q0 4 (twoE 10 false a x.1) x.2)=some r:=hL
      rw[List.tail_drop] at hL
      cases hp:pE q0 5 (T.drop (i+1)) with
      | none=>rw[hp] at hL;cases hL
      | some r2 =>
      rw[hp] at hL
      have hpF:pE F 5 (T.drop (i+1))=some r2:=by
       have:=pE_add hp (F - q0)
       rwa [show q0+(F - q0)=F by have:=HQ.out;omega] at this
      have HL:=hid hL
      have HPF:=hid hpF
      clear hL hp hpF
      have c1:=sg_any PI HX0 HA0 HRR0 HAW0 HGL HGA [42] (by decide) hI0
      clear PI HX0 HA0 HRR0 HAW0
      go_wp2_with fail
      refine c1.mono ?_
      rintro e v1 ⟨rfl,PI,HX0,HA0,HRR0,HAW0⟩
      clear c1
      have c1:=sg_any PI HX0 HA0 HRR0 HAW0 HGL HGA [47] (by decide) hI1
      clear PI HX0 HA0 HRR0 HAW0
      go_wp2_with fail
      refine c1.mono ?_
      rintro e v2 ⟨rfl,PI,HX0,HA0,HRR0,HAW0⟩
      have c2:=sg_sub HX0 HA0 HRR0 HAW0 HGL HGA (HG.out v2 (i+1) r2 PI.out HPF.out)
      clear c1 PI HX0 HA0 HRR0 HAW0
      go_wp2_with fail
      refine c2.mono ?_
      rintro e w4 ⟨op2,n2,s2,ao2,la2,ca2,w5,rfl,hw5,⟨HX5,HA5,HR5,A5,HZ5,HS5⟩,f5⟩
      obtain⟨-,x0,x1,x2,x3,-⟩:=HA5.out
      obtain⟨-,y0,y1,y2,y3,-⟩:=f5
      have c3:=xtwo_any 10 n n2 s s2 ao ao2 la ca la2 ca2 op op2 w5
      clear c2
      go_wp2_with fail
      refine c3.mono ?_
      rintro e w6 ⟨b6,hb6,hl6,rfl,B6,hrow⟩
      have hA6:=HA5.out.later B6
      have HA6:=hid hA6
      obtain⟨-,z0,z1,z2,z3,g0,g1,g2,g3⟩:=hA6
      have hs6:=B6.size
      have KB6:=hid B6
      have HROW:=hid hrow
      clear c3 x0 x1 x2 x3 y0 y1 y2 y3 B6 hrow
      go_wp2_with fail
      have hgA:=HGA.out
      have hgl:=HGL.out
      obtain⟨hs2,z5⟩:=HZ5.out
      rcases HS5.out with ⟨c,j,h1,h2,h3⟩ | ⟨p,j,h1,h3⟩
      ·go_roundg q0
       case measure=>omega
       case rel =>
        refine hid ⟨by have:=HQ.out;omega,(A5.out.next KB6.out).put4 (by omega) _ _ _ _,hgl,hgA,(HR5.out.later KB6.out).far (by omega) _ _ _ _,10,0,⟨#[]⟩,some ⟨b6,0,none⟩,2,2,HA6.out.set _ _ _ _,.inl ⟨j,twoE 10 false a c,(h3.later KB6.out).put4 (by omega) _ _ _ _,?_,?_⟩⟩
        ·refine ex_two ⟨by decide,by decide⟩ (S:=Rows w gA) ⟨by omega,by omega⟩ (by rw[set4_size];exact hl6) ?_
         exact RowIn.stays (Stays.set4 w6 _ _ _ _ (fun hb=>hb.2 rfl)) _ _ _ ⟨by omega,by omega⟩ hl6 (HROW.out _ _ _ HX5.out h2)
        ·have:=HL.out;rw[h1] at this;exact this
      ·go_roundg 0
       case measure=>omega
       case rel =>
        exact hid ⟨Nat.zero_le _,(A5.out.next KB6.out).put4 (by omega) _ _ _ _,hgl,hgA,(HR5.out.later KB6.out).far (by omega) _ _ _ _,10,0,⟨#[]⟩,some ⟨b6,0,none⟩,2,2,HA6.out.set _ _ _ _,.inr ⟨p,j,(h3.later KB6.out).put4 (by omega) _ _ _ _,by have:=HL.out;rw[h1] at this;exact (by simpa[bnd] using this.symm),rfl⟩⟩
    | true =>
     cases gk with
     | zero=>rw[pL] at hL;cases hL
     | succ q0 =>
     rw[pL,opH4,hI0,if_pos rfl] at hL
     replace hL:bnd (pE q0 5 (T.drop i).tail) (fun x=>pL q0 4 (twoE 9 false a x.1) x.2)=some r:=hL
     rw[List.tail_drop] at hL
     cases hp:pE q0 5 (T.drop (i+1)) with
     | none=>rw[hp] at hL;cases hL
     | some r2 =>
     rw[hp] at hL
     have hpF:pE F 5 (T.drop (i+1))=some r2:=by
      have:=pE_add hp (F - q0)
      rwa [show q0+(F - q0)=F by have:=HQ.out;omega] at this
     have HL:=hid hL
     have HPF:=hid hpF
     clear hL hp hpF
     have c1:=sg_any PI HX0 HA0 HRR0 HAW0 HGL HGA [42] (by decide) hI0
     clear PI HX0 HA0 HRR0 HAW0
     go_wp2_with fail
     refine c1.mono ?_
     rintro e v1 ⟨rfl,PI,HX0,HA0,HRR0,HAW0⟩
     have c2:=sg_sub HX0 HA0 HRR0 HAW0 HGL HGA (HG.out v1 (i+1) r2 PI.out HPF.out)
     clear c1 PI HX0 HA0 HRR0 HAW0
     go_wp2_with fail
     refine c2.mono ?_
     rintro e w4 ⟨op2,n2,s2,ao2,la2,ca2,w5,rfl,hw5,⟨HX5,HA5,HR5,A5,HZ5,HS5⟩,f5⟩
     obtain⟨-,x0,x1,x2,x3,-⟩:=HA5.out
     obtain⟨-,y0,y1,y2,y3,-⟩:=f5
     have c3:=xtwo_any 9 n n2 s s2 ao ao2 la ca la2 ca2 op op2 w5
     clear c2
     go_wp2_with fail
     refine c3.mono ?_
     rintro e w6 ⟨b6,hb6,hl6,rfl,B6,hrow⟩
     have hA6:=HA5.out.later B6
     have HA6:=hid hA6
     obtain⟨-,z0,z1,z2,z3,g0,g1,g2,g3⟩:=hA6
     have hs6:=B6.size
     have KB6:=hid B6
     have HROW:=hid hrow
     clear c3 x0 x1 x2 x3 y0 y1 y2 y3 B6 hrow
     go_wp2_with fail
     have hgA:=HGA.out
     have hgl:=HGL.out
     obtain⟨hs2,z5⟩:=HZ5.out
     rcases HS5.out with ⟨c,j,h1,h2,h3⟩ | ⟨p,j,h1,h3⟩
     ·go_roundg q0
      case measure=>omega
      case rel =>
       refine hid ⟨by have:=HQ.out;omega,(A5.out.next KB6.out).put4 (by omega) _ _ _ _,hgl,hgA,(HR5.out.later KB6.out).far (by omega) _ _ _ _,9,0,⟨#[]⟩,some ⟨b6,0,none⟩,2,2,HA6.out.set _ _ _ _,.inl ⟨j,twoE 9 false a c,(h3.later KB6.out).put4 (by omega) _ _ _ _,?_,?_⟩⟩
       ·refine ex_two ⟨by decide,by decide⟩ (S:=Rows w gA) ⟨by omega,by omega⟩ (by rw[set4_size];exact hl6) ?_
        exact RowIn.stays (Stays.set4 w6 _ _ _ _ (fun hb=>hb.2 rfl)) _ _ _ ⟨by omega,by omega⟩ hl6 (HROW.out _ _ _ HX5.out h2)
       ·have:=HL.out;rw[h1] at this;exact this
     ·go_roundg 0
      case measure=>omega
      case rel =>
       exact hid ⟨Nat.zero_le _,(A5.out.next KB6.out).put4 (by omega) _ _ _ _,hgl,hgA,(HR5.out.later KB6.out).far (by omega) _ _ _ _,9,0,⟨#[]⟩,some ⟨b6,0,none⟩,2,2,HA6.out.set _ _ _ _,.inr ⟨p,j,(h3.later KB6.out).put4 (by omega) _ _ _ _,by have:=HL.out;rw[h1] at this;exact (by simpa[bnd] using this.symm),rfl⟩⟩
   ·have PJ:=hid pj
    obtain⟨-,x0,x1,x2,x3,-⟩:=hA
    obtain⟨-,y0,y1,y2,y3,f0,f1,f2,f3⟩:=hR
    clear pj HG HR HQ
    have c1:=xsign_bad w0 wr g T h cap j pp ⟨#[42]⟩ PJ.out
    go_wp2_with fail
    refine c1.mono ?_
    rintro e w1 ⟨rfl,rfl⟩
    clear c1
    have c1:=xsign_bad w0 wr g T h cap j pp ⟨#[47]⟩ PJ.out
    go_wp2_with fail
    refine c1.mono ?_
    rintro e w1 ⟨rfl,rfl⟩
    clear c1
    have c1:=xsign_bad w0 wr g T h cap j pp ⟨#[37]⟩ PJ.out
    go_wp2_with fail
    refine c1.mono ?_
    rintro e w1 ⟨rfl,rfl⟩
    clear c1
    go_wp2_with fail
    exact bodyPost_ret (v:=EV op n s (.slice ao la ca)) (by simp[EV,results,results296,go_sem,y0,y1,y2,y3]) rfl ⟨HAW0.out.put4 (Nat.le_refl _) _ _ _ _,op,n,s,ao,la,ca,rfl,.inr ⟨pp,j,rfl,PJ.out.put4 HGL.out _ _ _ _⟩⟩
end
section
open Lib (hid)
open _root_.Go.Proofs.Tryz
set_option maxHeartbeats 4000000
set_option maxRecDepth 100000
open Go.RowKit
theorem opH2 (ts:List Tk):opH 2 ts=if isS ts [61]=true then some (12,false) else if isS ts [33,61]=true then some (13,false) else if isS ts [60]=true then some (14,false) else if isS ts [60,61]=true then some (15,false) else if isS ts [62]=true then some (14,true) else if isS ts [62,61]=true then some (15,true) else none:=by
 cases ts with
 | nil=>rfl
 | cons t q =>
  unfold opH opAt isS
  by_cases hk:t.k=4
  ·simp[hk]
  ·simp[hk]
theorem xcmp_step {w0:World} {g:Nat} {T:List Tk} {h cap F:Nat} (hG:∀ (w:World) (i:Nat) r,XG w0 w g T h cap i (-1)→pE F 3 (T.drop i)=some r→Calls prog 257 #[.pointer (some ⟨g,0,none⟩)] w (XEnd w0 w g T h cap r))
  (w:World) (i:Nat) (r:Except Nat (Ex × List Tk)) (p:XG w0 w g T h cap i (-1)) (hr:pE (F+1) 2 (T.drop i)=some r):Calls prog 186 #[.pointer (some ⟨g,0,none⟩)] w (XEnd w0 w g T h cap r):=by
 have hgl:=p.glt
 rw[pE,if_pos (by decide)] at hr
 have d1:=below_alloc w (.cells #[.int .i64 0,.int .i64 0,.string ⟨#[]⟩,.slice none 0 0] 24)
 have f1:=four_new w (.int .i64 0) (.int .i64 0) (.string ⟨#[]⟩) (.slice none 0 0) 24
 have z1:=alloc_size w (.cells #[.int .i64 0,.int .i64 0,.string ⟨#[]⟩,.slice none 0 0] 24)
 obtain⟨w1,hw1⟩:∃ x,w.alloc (.cells #[.int .i64 0,.int .i64 0,.string ⟨#[]⟩,.slice none 0 0] 24)=x:=⟨_,rfl⟩
 rw[hw1] at d1 f1 z1
 have p1:=p.later d1
 cases h1:pE F 3 (T.drop i) with
 | none=>rw[h1] at hr;cases hr
 | some r1 =>
  rw[h1] at hr
  have cG:=hG w1 i r1 p1 h1
  have HR:=hid hr
  have HF1:=hid f1
  have HD1:=hid d1
  have HZ1:=hid z1
  have HGL:=hid hgl
  have HG:=hid hG
  clear hr f1 d1 z1 p1 p h1 hG hgl
  go_enter func186,ntmps186
  go_wp2_with fail
  refine cG.mono ?_
  rintro e w2 ⟨a2,op,n,s,ao,la,ca,rfl,hst⟩
  have d3:=below_alloc w2 (.cells #[.int .i64 op,.int .i64 n,.string s,.slice ao la ca] 24)
  have f3:=four_new w2 (.int .i64 op) (.int .i64 n) (.string s) (.slice ao la ca) 24
  have HAW0:Hid (Away g w (w2.alloc (.cells #[.int .i64 op,.int .i64 n,.string s,.slice ao la ca] 24))):=hid (((Away.of HD1.out).trans a2).trans (Away.of d3))
  have hsz:=a2.size
  have h0:=HZ1.out
  have hR:=(HF1.out.away a2 (by have:=HGL.out;omega)).later d3
  have HGA:Hid (w.heap.size<w2.heap.size):=hid (by omega)
  have HS:Hid ((∃ a i,r1=.ok (a,T.drop i)∧ExIn (w2.alloc (.cells #[.int .i64 op,.int .i64 n,.string s,.slice ao la ca] 24)) (Rows w w2.heap.size) a (EV op n s (.slice ao la ca))∧XG w0 (w2.alloc (.cells #[.int .i64 op,.int .i64 n,.string s,.slice ao la ca] 24)) g T h cap i (-1))∨(∃ p j:Nat,r1=.error p∧XG w0 (w2.alloc (.cells #[.int .i64 op,.int .i64 n,.string s,.slice ao la ca] 24)) g T h cap j (p:Int))):=by
   refine hid ?_
   rcases hst with ⟨a,j,rfl,hx,pj⟩ | ⟨pp,j,rfl,pj⟩
   ·exact .inl ⟨a,j,rfl,(hx.wide (R:=Rows w w2.heap.size) (fun b hb hl=>⟨by have:w1.heap.size≤b:=hb;omega,by omega⟩)).later d3,pj.later d3⟩
   ·exact .inr ⟨pp,j,rfl,pj.later d3⟩
  obtain⟨w3,hw3⟩:∃ x,w2.alloc (.cells #[.int .i64 op,.int .i64 n,.string s,.slice ao la ca] 24)=x:=⟨_,rfl⟩
  rw[hw3] at HAW0 HS hR f3
  clear cG a2 hst d3 HD1 HF1 HZ1 hsz h0
  go_wp2_with fail
  obtain⟨gA,hgA⟩:∃ x,w2.heap.size=x:=⟨_,rfl⟩
  rw[hgA] at HGA HS f3 ⊢
  clear hgA
  clear hw3 hw1
  have HA0:=hid f3
  have HRR0:=hid hR
  rcases HS.out with ⟨a,i,rfl,hx,pi⟩ | ⟨pp,j,rfl,pj⟩
  ·have PI:=hid pi
   have HX0:=hid hx
   have hL:pL F 2 a (T.drop i)=some r:=HR.out
   clear pi hx hR HR HS f3
   cases hI0:isS (T.drop i) [61] with
   | false =>
    cases hI1:isS (T.drop i) [33,61] with
    | false =>
     cases hI2:isS (T.drop i) [60] with
     | false =>
      cases hI3:isS (T.drop i) [60,61] with
      | false =>
       cases hI4:isS (T.drop i) [62] with
       | false =>
        cases hI5:isS (T.drop i) [62,61] with
        | false =>
         have hr:r=.ok (a,T.drop i):=by
          cases F with
          | zero=>rw[pL] at hL;cases hL
          | succ q0 =>
           rw[pL,opH2,hI0,if_neg (by decide),hI1,if_neg (by decide),hI2,if_neg (by decide),hI3,if_neg (by decide),hI4,if_neg (by decide),hI5,if_neg (by decide)] at hL
           injection hL with hL;exact hL.symm
         subst hr
         clear hL HG
         have c1:=sg_any PI HX0 HA0 HRR0 HAW0 HGL HGA [61] (by decide) hI0
         clear PI HX0 HA0 HRR0 HAW0
         go_wp2_with fail
         refine c1.mono ?_
         rintro e v1 ⟨rfl,PI,HX0,HA0,HRR0,HAW0⟩
         clear c1
         have c1:=sg_any PI HX0 HA0 HRR0 HAW0 HGL HGA [33,61] (by decide) hI1
         clear PI HX0 HA0 HRR0 HAW0
         go_wp2_with fail
         refine c1.mono ?_
         rintro e v2 ⟨rfl,PI,HX0,HA0,HRR0,HAW0⟩
         clear c1
         have c1:=sg_any PI HX0 HA0 HRR0 HAW0 HGL HGA [60] (by decide) hI2
         clear PI HX0 HA0 HRR0 HAW0
         go_wp2_with fail
         refine c1.mono ?_
         rintro e v3 ⟨rfl,PI,HX0,HA0,HRR0,HAW0⟩
         clear c1
         have c1:=sg_any PI HX0 HA0 HRR0 HAW0 HGL HGA [60,61] (by decide) hI3
         clear PI HX0 HA0 HRR0 HAW0
         go_wp2_with fail
         refine c1.mono ?_
         rintro e v4 ⟨rfl,PI,HX0,HA0,HRR0,HAW0⟩
         clear c1
         have c1:=sg_any PI HX0 HA0 HRR0 HAW0 HGL HGA [62] (by decide) hI4
         clear PI HX0 HA0 HRR0 HAW0
         go_wp2_with fail
         refine c1.mono ?_
         rintro e v5 ⟨rfl,PI,HX0,HA0,HRR0,HAW0⟩
         clear c1
         have c1:=sg_any PI HX0 HA0 HRR0 HAW0 HGL HGA [62,61] (by decide) hI5
         clear PI HX0 HA0 HRR0 HAW0
         go_wp2_with fail
         refine c1.mono ?_
         rintro e v6 ⟨rfl,PI,HX0,HA0,HRR0,HAW0⟩
         clear c1
         have HR1:=hid HRR0.out
         obtain⟨-,x0,x1,x2,x3,-⟩:=HA0.out
         obtain⟨-,y0,y1,y2,y3,f0,f1,f2,f3⟩:=HR1.out
         go_wp2_with fail
         exact bodyPost_ret (v:=EV op n s (.slice ao la ca)) (by simp[EV,results,results186,go_sem,y0,y1,y2,y3]) rfl ⟨HAW0.out.put4 (Nat.le_refl _) _ _ _ _,op,n,s,ao,la,ca,rfl,.inl ⟨a,i,rfl,(HX0.out.keep (.set4 _ _ _ _ _ (by intro hb;have:=hb.1;omega))).wide (fun b hb _=>by have:=hb.1;show w.heap.size≤b;omega),PI.out.put4 HGL.out _ _ _ _⟩⟩
        | true =>
         cases F with
         | zero=>rw[pL] at hL;cases hL
         | succ q0 =>
         rw[pL,opH2,hI0,if_neg (by decide),hI1,if_neg (by decide),hI2,if_neg (by decide),hI3,if_neg (by decide),hI4,if_neg (by decide),hI5,if_pos rfl] at hL
         replace hL:bnd (pE q0 3 (T.drop i).tail) (fun x=>some (.ok (twoE 15 true a x.1,x.2)))=some r:=hL
         rw[List.tail_drop] at hL
         cases hp:pE q0 3 (T.drop (i+1)) with
         | none=>rw[hp] at hL;cases hL
         | some r2 =>
         rw[hp] at hL
         have hpF:pE (q0+1) 3 (T.drop (i+1))=some r2:=pE_add hp 1
         have HL:=hid hL
         have HPF:=hid hpF
         clear hL hp hpF
         have c1:=sg_any PI HX0 HA0 HRR0 HAW0 HGL HGA [61] (by decide) hI0
         clear PI HX0 HA0 HRR0 HAW0
         go_wp2_with fail
         refine c1.mono ?_
         rintro e v1 ⟨rfl,PI,HX0,HA0,HRR0,HAW0⟩
         clear c1
         have c1:=sg_any PI HX0 HA0 HRR0 HAW0 HGL HGA [33,61] (by decide) hI1
         clear PI HX0 HA0 HRR0 HAW0
         go_wp2_with fail
         refine c1.mono ?_
         rintro e v2 ⟨rfl,PI,HX0,HA0,HRR0,HAW0⟩
         clear c1
         have c1:=sg_any PI HX0 HA0 HRR0 HAW0 HGL HGA [60] (by decide) hI2
         clear PI HX0 HA0 HRR0 HAW0
         go_wp2_with fail
         refine c1.mono ?_
         rintro e v3 ⟨rfl,PI,HX0,HA0,HRR0,HAW0⟩
         clear c1
         have c1:=sg_any PI HX0 HA0 HRR0 HAW0 HGL HGA [60,61] (by decide) hI3
         clear PI HX0 HA0 HRR0 HAW0
         go_wp2_with fail
         refine c1.mono ?_
         rintro e v4 ⟨rfl,PI,HX0,HA0,HRR0,HAW0⟩
         clear c1
         have c1:=sg_any PI HX0 HA0 HRR0 HAW0 HGL HGA [62] (by decide) hI4
         clear PI HX0 HA0 HRR0 HAW0
         go_wp2_with fail
         refine c1.mono ?_
         rintro e v5 ⟨rfl,PI,HX0,HA0,HRR0,HAW0⟩
         clear c1
         have c1:=sg_any PI HX0 HA0 HRR0 HAW0 HGL HGA [62,61] (by decide) hI5
         clear PI HX0 HA0 HRR0 HAW0
         go_wp2_with fail
         refine c1.mono ?_
         rintro e v6 ⟨rfl,PI,HX0,HA0,HRR0,HAW0⟩
         have c2:=sg_sub HX0 HA0 HRR0 HAW0 HGL HGA (HG.out v6 (i+1) r2 PI.out HPF.out)
         clear c1 PI HX0 HA0 HRR0 HAW0
         go_wp2_with fail
         refine c2.mono ?_
         rintro e w4 ⟨op2,n2,s2,ao2,la2,ca2,w5,rfl,hw5,⟨HXf,HA5,HR5,As5,HZ5,HS5⟩,f5⟩
         obtain⟨-,x0,x1,x2,x3,-⟩:=HA5.out
         obtain⟨-,y0,y1,y2,y3,-⟩:=f5
         have c3:=xtwo_any 15 n2 n s2 s ao2 ao la2 ca2 la ca op2 op w5
         clear c2
         go_wp2_with fail
         refine c3.mono ?_
         rintro e w6 ⟨b6,hb6,hl6,rfl,B6,hrow⟩
         have hR6:=HR5.out.later B6
         have HR6:=hid hR6
         obtain⟨-,z0,z1,z2,z3,g0,g1,g2,g3⟩:=hR6
         have hs6:=B6.size
         have KB6:=hid B6
         have HROW:=hid hrow
         clear c3 x0 x1 x2 x3 y0 y1 y2 y3 B6 hrow HA5
         go_wp2_with fail
         have hgA:=HGA.out
         have hgl:=HGL.out
         obtain⟨hs2,z5⟩:=HZ5.out
         refine bodyPost_ret (v:=EV 15 0 ⟨#[]⟩ (.slice (some ⟨b6,0,none⟩) 2 2)) (by simp[EV,results,results186,go_sem,z0,z1,z2,z3]) rfl ?_
         refine⟨(As5.out.next KB6.out).put4 (Nat.le_refl _) _ _ _ _,15,0,⟨#[]⟩,some ⟨b6,0,none⟩,2,2,rfl,?_⟩
         rcases HS5.out with ⟨c,j,h1,h2,h3⟩ | ⟨p,j,h1,h3⟩
         ·refine .inl ⟨twoE 15 true a c,j,?_,?_,(h3.later KB6.out).put4 hgl _ _ _ _⟩
          ·have:=HL.out;rw[h1] at this;injection this with this;exact this.symm
          ·refine ex_two ⟨by decide,by decide⟩ (by show w.heap.size≤b6;omega) (by rw[set4_size];exact hl6) ?_
           exact RowIn.from (fun b hb _=>by have:=hb.1;show w.heap.size≤b;omega) _ _ _ (RowIn.stays (Stays.set4 w6 _ _ _ _ (fun hb=>by have:=hb.1;omega)) _ _ _ ⟨by omega,by omega⟩ hl6 (HROW.out (Rows w gA) _ _ h2 HXf.out))
         ·exact .inr ⟨p,j,by have:=HL.out;rw[h1] at this;exact (by simpa[bnd] using this.symm),(h3.later KB6.out).put4 hgl _ _ _ _⟩
       | true =>
        cases F with
        | zero=>rw[pL] at hL;cases hL
        | succ q0 =>
        rw[pL,opH2,hI0,if_neg (by decide),hI1,if_neg (by decide),hI2,if_neg (by decide),hI3,if_neg (by decide),hI4,if_pos rfl] at hL
        replace hL:bnd (pE q0 3 (T.drop i).tail) (fun x=>some (.ok (twoE 14 true a x.1,x.2)))=some r:=hL
        rw[List.tail_drop] at hL
        cases hp:pE q0 3 (T.drop (i+1)) with
        | none=>rw[hp] at hL;cases hL
        | some r2 =>
        rw[hp] at hL
        have hpF:pE (q0+1) 3 (T.drop (i+1))=some r2:=pE_add hp 1
        have HL:=hid hL
        have HPF:=hid hpF
        clear hL hp hpF
        have c1:=sg_any PI HX0 HA0 HRR0 HAW0 HGL HGA [61] (by decide) hI0
        clear PI HX0 HA0 HRR0 HAW0
        go_wp2_with fail
        refine c1.mono ?_
        rintro e v1 ⟨rfl,PI,HX0,HA0,HRR0,HAW0⟩
        clear c1
        have c1:=sg_any PI HX0 HA0 HRR0 HAW0 HGL HGA [33,61] (by decide) hI1
        clear PI HX0 HA0 HRR0 HAW0
        go_wp2_with fail
        refine c1.mono ?_
        rintro e v2 ⟨rfl,PI,HX0,HA0,HRR0,HAW0⟩
        clear c1
        have c1:=sg_any PI HX0 HA0 HRR0 HAW0 HGL HGA [60] (by decide) hI2
        clear PI HX0 HA0 HRR0 HAW0
        go_wp2_with fail
        refine c1.mono ?_
        rintro e v3 ⟨rfl,PI,HX0,HA0,HRR0,HAW0⟩
        clear c1
        have c1:=sg_any PI HX0 HA0 HRR0 HAW0 HGL HGA [60,61] (by decide) hI3
        clear PI HX0 HA0 HRR0 HAW0
        go_wp2_with fail
        refine c1.mono ?_
        rintro e v4 ⟨rfl,PI,HX0,HA0,HRR0,HAW0⟩
        clear c1
        have c1:=sg_any PI HX0 HA0 HRR0 HAW0 HGL HGA [62] (by decide) hI4
        clear PI HX0 HA0 HRR0 HAW0
        go_wp2_with fail
        refine c1.mono ?_
        rintro e v5 ⟨rfl,PI,HX0,HA0,HRR0,HAW0⟩
        have c2:=sg_sub HX0 HA0 HRR0 HAW0 HGL HGA (HG.out v5 (i+1) r2 PI.out HPF.out)
        clear c1 PI HX0 HA0 HRR0 HAW0
        go_wp2_with fail
        refine c2.mono ?_
        rintro e w4 ⟨op2,n2,s2,ao2,la2,ca2,w5,rfl,hw5,⟨HXf,HA5,HR5,As5,HZ5,HS5⟩,f5⟩
        obtain⟨-,x0,x1,x2,x3,-⟩:=HA5.out
        obtain⟨-,y0,y1,y2,y3,-⟩:=f5
        have c3:=xtwo_any 14 n2 n s2 s ao2 ao la2 ca2 la ca op2 op w5
        clear c2
        go_wp2_with fail
        refine c3.mono ?_
        rintro e w6 ⟨b6,hb6,hl6,rfl,B6,hrow⟩
        have hR6:=HR5.out.later B6
        have HR6:=hid hR6
        obtain⟨-,z0,z1,z2,z3,g0,g1,g2,g3⟩:=hR6
        have hs6:=B6.size
        have KB6:=hid B6
        have HROW:=hid hrow
        clear c3 x0 x1 x2 x3 y0 y1 y2 y3 B6 hrow HA5
        go_wp2_with fail
        have hgA:=HGA.out
        have hgl:=HGL.out
        obtain⟨hs2,z5⟩:=HZ5.out
        refine bodyPost_ret (v:=EV 14 0 ⟨#[]⟩ (.slice (some ⟨b6,0,none⟩) 2 2)) (by simp[EV,results,results186,go_sem,z0,z1,z2,z3]) rfl ?_
        refine⟨(As5.out.next KB6.out).put4 (Nat.le_refl _) _ _ _ _,14,0,⟨#[]⟩,some ⟨b6,0,none⟩,2,2,rfl,?_⟩
        rcases HS5.out with ⟨c,j,h1,h2,h3⟩ | ⟨p,j,h1,h3⟩
        ·refine .inl ⟨twoE 14 true a c,j,?_,?_,(h3.later KB6.out).put4 hgl _ _ _ _⟩
         ·have:=HL.out;rw[h1] at this;injection this with this;exact this.symm
         ·refine ex_two ⟨by decide,by decide⟩ (by show w.heap.size≤b6;omega) (by rw[set4_size];exact hl6) ?_
          exact RowIn.from (fun b hb _=>by have:=hb.1;show w.heap.size≤b;omega) _ _ _ (RowIn.stays (Stays.set4 w6 _ _ _ _ (fun hb=>by have:=hb.1;omega)) _ _ _ ⟨by omega,by omega⟩ hl6 (HROW.out (Rows w gA) _ _ h2 HXf.out))
        ·exact .inr ⟨p,j,by have:=HL.out;rw[h1] at this;exact (by simpa[bnd] using this.symm),(h3.later KB6.out).put4 hgl _ _ _ _⟩
      | true =>
       cases F with
       | zero=>rw[pL] at hL;cases hL
       | succ q0 =>
       rw[pL,opH2,hI0,if_neg (by decide),hI1,if_neg (by decide),hI2,if_neg (by decide),hI3,if_pos rfl] at hL
       replace hL:bnd (pE q0 3 (T.drop i).tail) (fun x=>some (.ok (twoE 15 false a x.1,x.2)))=some r:=hL
       rw[List.tail_drop] at hL
       cases hp:pE q0 3 (T.drop (i+1)) with
       | none=>rw[hp] at hL;cases hL
       | some r2 =>
       rw[hp] at hL
       have hpF:pE (q0+1) 3 (T.drop (i+1))=some r2:=pE_add hp 1
       have HL:=hid hL
       have HPF:=hid hpF
       clear hL hp hpF
       have c1:=sg_any PI HX0 HA0 HRR0 HAW0 HGL HGA [61] (by decide) hI0
       clear PI HX0 HA0 HRR0 HAW0
       go_wp2_with fail
       refine c1.mono ?_
       rintro e v1 ⟨rfl,PI,HX0,HA0,HRR0,HAW0⟩
       clear c1
       have c1:=sg_any PI HX0 HA0 HRR0 HAW0 HGL HGA [33,61] (by decide) hI1
       clear PI HX0 HA0 HRR0 HAW0
       go_wp2_with fail
       refine c1.mono ?_
       rintro e v2 ⟨rfl,PI,HX0,HA0,HRR0,HAW0⟩
       clear c1
       have c1:=sg_any PI HX0 HA0 HRR0 HAW0 HGL HGA [60] (by decide) hI2
       clear PI HX0 HA0 HRR0 HAW0
       go_wp2_with fail
       refine c1.mono ?_
       rintro e v3 ⟨rfl,PI,HX0,HA0,HRR0,HAW0⟩
       clear c1
       have c1:=sg_any PI HX0 HA0 HRR0 HAW0 HGL HGA [60,61] (by decide) hI3
       clear PI HX0 HA0 HRR0 HAW0
       go_wp2_with fail
       refine c1.mono ?_
       rintro e v4 ⟨rfl,PI,HX0,HA0,HRR0,HAW0⟩
       have c2:=sg_sub HX0 HA0 HRR0 HAW0 HGL HGA (HG.out v4 (i+1) r2 PI.out HPF.out)
       clear c1 PI HX0 HA0 HRR0 HAW0
       go_wp2_with fail
       refine c2.mono ?_
       rintro e w4 ⟨op2,n2,s2,ao2,la2,ca2,w5,rfl,hw5,⟨HXf,HA5,HR5,As5,HZ5,HS5⟩,f5⟩
       obtain⟨-,x0,x1,x2,x3,-⟩:=HA5.out
       obtain⟨-,y0,y1,y2,y3,-⟩:=f5
       have c3:=xtwo_any 15 n n2 s s2 ao ao2 la ca la2 ca2 op op2 w5
       clear c2
       go_wp2_with fail
       refine c3.mono ?_
       rintro e w6 ⟨b6,hb6,hl6,rfl,B6,hrow⟩
       have hR6:=HR5.out.later B6
       have HR6:=hid hR6
       obtain⟨-,z0,z1,z2,z3,g0,g1,g2,g3⟩:=hR6
       have hs6:=B6.size
       have KB6:=hid B6
       have HROW:=hid hrow
       clear c3 x0 x1 x2 x3 y0 y1 y2 y3 B6 hrow HA5
       go_wp2_with fail
       have hgA:=HGA.out
       have hgl:=HGL.out
       obtain⟨hs2,z5⟩:=HZ5.out
       refine bodyPost_ret (v:=EV 15 0 ⟨#[]⟩ (.slice (some ⟨b6,0,none⟩) 2 2)) (by simp[EV,results,results186,go_sem,z0,z1,z2,z3]) rfl ?_
       refine⟨(As5.out.next KB6.out).put4 (Nat.le_refl _) _ _ _ _,15,0,⟨#[]⟩,some ⟨b6,0,none⟩,2,2,rfl,?_⟩
       rcases HS5.out with ⟨c,j,h1,h2,h3⟩ | ⟨p,j,h1,h3⟩
       ·refine .inl ⟨twoE 15 false a c,j,?_,?_,(h3.later KB6.out).put4 hgl _ _ _ _⟩
        ·have:=HL.out;rw[h1] at this;injection this with this;exact this.symm
        ·refine ex_two ⟨by decide,by decide⟩ (by show w.heap.size≤b6;omega) (by rw[set4_size];exact hl6) ?_
         exact RowIn.from (fun b hb _=>by have:=hb.1;show w.heap.size≤b;omega) _ _ _ (RowIn.stays (Stays.set4 w6 _ _ _ _ (fun hb=>by have:=hb.1;omega)) _ _ _ ⟨by omega,by omega⟩ hl6 (HROW.out (Rows w gA) _ _ HXf.out h2))
       ·exact .inr ⟨p,j,by have:=HL.out;rw[h1] at this;exact (by simpa[bnd] using this.symm),(h3.later KB6.out).put4 hgl _ _ _ _⟩
     | true =>
      cases F with
      | zero=>rw[pL] at hL;cases hL
      | succ q0 =>
      rw[pL,opH2,hI0,if_neg (by decide),hI1,if_neg (by decide),hI2,if_pos rfl] at hL
      replace hL:bnd (pE q0 3 (T.drop i).tail) (fun x=>some (.ok (twoE 14 false a x.1,x.2)))=some r:=hL
      rw[List.tail_drop] at hL
      cases hp:pE q0 3 (T.drop (i+1)) with
      | none=>rw[hp] at hL;cases hL
      | some r2 =>
      rw[hp] at hL
      have hpF:pE (q0+1) 3 (T.drop (i+1))=some r2:=pE_add hp 1
      have HL:=hid hL
      have HPF:=hid hpF
      clear hL hp hpF
      have c1:=sg_any PI HX0 HA0 HRR0 HAW0 HGL HGA [61] (by decide) hI0
      clear PI HX0 HA0 HRR0 HAW0
      go_wp2_with fail
      refine c1.mono ?_
      rintro e v1 ⟨rfl,PI,HX0,HA0,HRR0,HAW0⟩
      clear c1
      have c1:=sg_any PI HX0 HA0 HRR0 HAW0 HGL HGA [33,61] (by decide) hI1
      clear PI HX0 HA0 HRR0 HAW0
      go_wp2_with fail
      refine c1.mono ?_
      rintro e v2 ⟨rfl,PI,HX0,HA0,HRR0,HAW0⟩
      clear c1
      have c1:=sg_any PI HX0 HA0 HRR0 HAW0 HGL HGA [60] (by decide) hI2
      clear PI HX0 HA0 HRR0 HAW0
      go_wp2_with fail
      refine c1.mono ?_
      rintro e v3 ⟨rfl,PI,HX0,HA0,HRR0,HAW0⟩
      have c2:=sg_sub HX0 HA0 HRR0 HAW0 HGL HGA (HG.out v3 (i+1) r2 PI.out HPF.out)
      clear c1 PI HX0 HA0 HRR0 HAW0
      go_wp2_with fail
      refine c2.mono ?_
      rintro e w4 ⟨op2,n2,s2,ao2,la2,ca2,w5,rfl,hw5,⟨HXf,HA5,HR5,As5,HZ5,HS5⟩,f5⟩
      obtain⟨-,x0,x1,x2,x3,-⟩:=HA5.out
      obtain⟨-,y0,y1,y2,y3,-⟩:=f5
      have c3:=xtwo_any 14 n n2 s s2 ao ao2 la ca la2 ca2 op op2 w5
      clear c2
      go_wp2_with fail
      refine c3.mono ?_
      rintro e w6 ⟨b6,hb6,hl6,rfl,B6,hrow⟩
      have hR6:=HR5.out.later B6
      have HR6:=hid hR6
      obtain⟨-,z0,z1,z2,z3,g0,g1,g2,g3⟩:=hR6
      have hs6:=B6.size
      have KB6:=hid B6
      have HROW:=hid hrow
      clear c3 x0 x1 x2 x3 y0 y1 y2 y3 B6 hrow HA5
      go_wp2_with fail
      have hgA:=HGA.out
      have hgl:=HGL.out
      obtain⟨hs2,z5⟩:=HZ5.out
      refine bodyPost_ret (v:=EV 14 0 ⟨#[]⟩ (.slice (some ⟨b6,0,none⟩) 2 2)) (by simp[EV,results,results186,go_sem,z0,z1,z2,z3]) rfl ?_
      refine⟨(As5.out.next KB6.out).put4 (Nat.le_refl _) _ _ _ _,14,0,⟨#[]⟩,some ⟨b6,0,none⟩,2,2,rfl,?_⟩
      rcases HS5.out with ⟨c,j,h1,h2,h3⟩ | ⟨p,j,h1,h3⟩
      ·refine .inl ⟨twoE 14 false a c,j,?_,?_,(h3.later KB6.out).put4 hgl _ _ _ _⟩
       ·have:=HL.out;rw[h1] at this;injection this with this;exact this.symm
       ·refine ex_two ⟨by decide,by decide⟩ (by show w.heap.size≤b6;omega) (by rw[set4_size];exact hl6) ?_
        exact RowIn.from (fun b hb _=>by have:=hb.1;show w.heap.size≤b;omega) _ _ _ (RowIn.stays (Stays.set4 w6 _ _ _ _ (fun hb=>by have:=hb.1;omega)) _ _ _ ⟨by omega,by omega⟩ hl6 (HROW.out (Rows w gA) _ _ HXf.out h2))
      ·exact .inr ⟨p,j,by have:=HL.out;rw[h1] at this;exact (by simpa[bnd] using this.symm),(h3.later KB6.out).put4 hgl _ _ _ _⟩
    | true =>
     cases F with
     | zero=>rw[pL] at hL;cases hL
     | succ q0 =>
     rw[pL,opH2,hI0,if_neg (by decide),hI1,if_pos rfl] at hL
     replace hL:bnd (pE q0 3 (T.drop i).tail) (fun x=>some (.ok (twoE 13 false a x.1,x.2)))=some r:=hL
     rw[List.tail_drop] at hL
     cases hp:pE q0 3 (T.drop (i+1)) with
     | none=>rw[hp] at hL;cases hL
     | some r2 =>
     rw[hp] at hL
     have hpF:pE (q0+1) 3 (T.drop (i+1))=some r2:=pE_add hp 1
     have HL:=hid hL
     have HPF:=hid hpF
     clear hL hp hpF
     have c1:=sg_any PI HX0 HA0 HRR0 HAW0 HGL HGA [61] (by decide) hI0
     clear PI HX0 HA0 HRR0 HAW0
     go_wp2_with fail
     refine c1.mono ?_
     rintro e v1 ⟨rfl,PI,HX0,HA0,HRR0,HAW0⟩
     clear c1
     have c1:=sg_any PI HX0 HA0 HRR0 HAW0 HGL HGA [33,61] (by decide) hI1
     clear PI HX0 HA0 HRR0 HAW0
     go_wp2_with fail
     refine c1.mono ?_
     rintro e v2 ⟨rfl,PI,HX0,HA0,HRR0,HAW0⟩
     have c2:=sg_sub HX0 HA0 HRR0 HAW0 HGL HGA (HG.out v2 (i+1) r2 PI.out HPF.out)
     clear c1 PI HX0 HA0 HRR0 HAW0
     go_wp2_with fail
     refine c2.mono ?_
     rintro e w4 ⟨op2,n2,s2,ao2,la2,ca2,w5,rfl,hw5,⟨HXf,HA5,HR5,As5,HZ5,HS5⟩,f5⟩
     obtain⟨-,x0,x1,x2,x3,-⟩:=HA5.out
     obtain⟨-,y0,y1,y2,y3,-⟩:=f5
     have c3:=xtwo_any 13 n n2 s s2 ao ao2 la ca la2 ca2 op op2 w5
     clear c2
     go_wp2_with fail
     refine c3.mono ?_
     rintro e w6 ⟨b6,hb6,hl6,rfl,B6,hrow⟩
     have hR6:=HR5.out.later B6
     have HR6:=hid hR6
     obtain⟨-,z0,z1,z2,z3,g0,g1,g2,g3⟩:=hR6
     have hs6:=B6.size
     have KB6:=hid B6
     have HROW:=hid hrow
     clear c3 x0 x1 x2 x3 y0 y1 y2 y3 B6 hrow HA5
     go_wp2_with fail
     have hgA:=HGA.out
     have hgl:=HGL.out
     obtain⟨hs2,z5⟩:=HZ5.out
     refine bodyPost_ret (v:=EV 13 0 ⟨#[]⟩ (.slice (some ⟨b6,0,none⟩) 2 2)) (by simp[EV,results,results186,go_sem,z0,z1,z2,z3]) rfl ?_
     refine⟨(As5.out.next KB6.out).put4 (Nat.le_refl _) _ _ _ _,13,0,⟨#[]⟩,some ⟨b6,0,none⟩,2,2,rfl,?_⟩
     rcases HS5.out with ⟨c,j,h1,h2,h3⟩ | ⟨p,j,h1,h3⟩
     ·refine .inl ⟨twoE 13 false a c,j,?_,?_,(h3.later KB6.out).put4 hgl _ _ _ _⟩
      ·have:=HL.out;rw[h1] at this;injection this with this;exact this.symm
      ·refine ex_two ⟨by decide,by decide⟩ (by show w.heap.size≤b6;omega) (by rw[set4_size];exact hl6) ?_
       exact RowIn.from (fun b hb _=>by have:=hb.1;show w.heap.size≤b;omega) _ _ _ (RowIn.stays (Stays.set4 w6 _ _ _ _ (fun hb=>by have:=hb.1;omega)) _ _ _ ⟨by omega,by omega⟩ hl6 (HROW.out (Rows w gA) _ _ HXf.out h2))
     ·exact .inr ⟨p,j,by have:=HL.out;rw[h1] at this;exact (by simpa[bnd] using this.symm),(h3.later KB6.out).put4 hgl _ _ _ _⟩
   | true =>
    cases F with
    | zero=>rw[pL] at hL;cases hL
    | succ q0 =>
    rw[pL,opH2,hI0,if_pos rfl] at hL
    replace hL:bnd (pE q0 3 (T.drop i).tail) (fun x=>some (.ok (twoE 12 false a x.1,x.2)))=some r:=hL
    rw[List.tail_drop] at hL
    cases hp:pE q0 3 (T.drop (i+1)) with
    | none=>rw[hp] at hL;cases hL
    | some r2 =>
    rw[hp] at hL
    have hpF:pE (q0+1) 3 (T.drop (i+1))=some r2:=pE_add hp 1
    have HL:=hid hL
    have HPF:=hid hpF
    clear hL hp hpF
    have c1:=sg_any PI HX0 HA0 HRR0 HAW0 HGL HGA [61] (by decide) hI0
    clear PI HX0 HA0 HRR0 HAW0
    go_wp2_with fail
    refine c1.mono ?_
    rintro e v1 ⟨rfl,PI,HX0,HA0,HRR0,HAW0⟩
    have c2:=sg_sub HX0 HA0 HRR0 HAW0 HGL HGA (HG.out v1 (i+1) r2 PI.out HPF.out)
    clear c1 PI HX0 HA0 HRR0 HAW0
    go_wp2_with fail
    refine c2.mono ?_
    rintro e w4 ⟨op2,n2,s2,ao2,la2,ca2,w5,rfl,hw5,⟨HXf,HA5,HR5,As5,HZ5,HS5⟩,f5⟩
    obtain⟨-,x0,x1,x2,x3,-⟩:=HA5.out
    obtain⟨-,y0,y1,y2,y3,-⟩:=f5
    have c3:=xtwo_any 12 n n2 s s2 ao ao2 la ca la2 ca2 op op2 w5
    clear c2
    go_wp2_with fail
    refine c3.mono ?_
    rintro e w6 ⟨b6,hb6,hl6,rfl,B6,hrow⟩
    have hR6:=HR5.out.later B6
    have HR6:=hid hR6
    obtain⟨-,z0,z1,z2,z3,g0,g1,g2,g3⟩:=hR6
    have hs6:=B6.size
    have KB6:=hid B6
    have HROW:=hid hrow
    clear c3 x0 x1 x2 x3 y0 y1 y2 y3 B6 hrow HA5
    go_wp2_with fail
    have hgA:=HGA.out
    have hgl:=HGL.out
    obtain⟨hs2,z5⟩:=HZ5.out
    refine bodyPost_ret (v:=EV 12 0 ⟨#[]⟩ (.slice (some ⟨b6,0,none⟩) 2 2)) (by simp[EV,results,results186,go_sem,z0,z1,z2,z3]) rfl ?_
    refine⟨(As5.out.next KB6.out).put4 (Nat.le_refl _) _ _ _ _,12,0,⟨#[]⟩,some ⟨b6,0,none⟩,2,2,rfl,?_⟩
    rcases HS5.out with ⟨c,j,h1,h2,h3⟩ | ⟨p,j,h1,h3⟩
    ·refine .inl ⟨twoE 12 false a c,j,?_,?_,(h3.later KB6.out).put4 hgl _ _ _ _⟩
     ·have:=HL.out;rw[h1] at this;injection this with this;exact this.symm
     ·refine ex_two ⟨by decide,by decide⟩ (by show w.heap.size≤b6;omega) (by rw[set4_size];exact hl6) ?_
      exact RowIn.from (fun b hb _=>by have:=hb.1;show w.heap.size≤b;omega) _ _ _ (RowIn.stays (Stays.set4 w6 _ _ _ _ (fun hb=>by have:=hb.1;omega)) _ _ _ ⟨by omega,by omega⟩ hl6 (HROW.out (Rows w gA) _ _ HXf.out h2))
    ·exact .inr ⟨p,j,by have:=HL.out;rw[h1] at this;exact (by simpa[bnd] using this.symm),(h3.later KB6.out).put4 hgl _ _ _ _⟩
  ·have PJ:=hid pj
   have hr:r=.error pp:=by have:=HR.out;unfold bnd at this;simpa using this.symm
   subst hr
   obtain⟨-,x0,x1,x2,x3,-⟩:=f3
   obtain⟨-,y0,y1,y2,y3,f0,f1,f2,f3⟩:=hR
   clear pj HG HR HS
   have c1:=xsign_bad w0 w3 g T h cap j pp ⟨#[61]⟩ PJ.out
   go_wp2_with fail
   refine c1.mono ?_
   rintro e w4 ⟨rfl,rfl⟩
   clear c1
   have c1:=xsign_bad w0 w3 g T h cap j pp ⟨#[33,61]⟩ PJ.out
   go_wp2_with fail
   refine c1.mono ?_
   rintro e w4 ⟨rfl,rfl⟩
   clear c1
   have c1:=xsign_bad w0 w3 g T h cap j pp ⟨#[60]⟩ PJ.out
   go_wp2_with fail
   refine c1.mono ?_
   rintro e w4 ⟨rfl,rfl⟩
   clear c1
   have c1:=xsign_bad w0 w3 g T h cap j pp ⟨#[60,61]⟩ PJ.out
   go_wp2_with fail
   refine c1.mono ?_
   rintro e w4 ⟨rfl,rfl⟩
   clear c1
   have c1:=xsign_bad w0 w3 g T h cap j pp ⟨#[62]⟩ PJ.out
   go_wp2_with fail
   refine c1.mono ?_
   rintro e w4 ⟨rfl,rfl⟩
   clear c1
   have c1:=xsign_bad w0 w3 g T h cap j pp ⟨#[62,61]⟩ PJ.out
   go_wp2_with fail
   refine c1.mono ?_
   rintro e w4 ⟨rfl,rfl⟩
   clear c1
   go_wp2_with fail
   exact bodyPost_ret (v:=EV op n s (.slice ao la ca)) (by simp[EV,results,results186,go_sem,y0,y1,y2,y3]) rfl ⟨HAW0.out.put4 (Nat.le_refl _) _ _ _ _,op,n,s,ao,la,ca,rfl,.inr ⟨pp,j,rfl,PJ.out.put4 HGL.out _ _ _ _⟩⟩
end
end Go.Proofs.YtbbblmedoagncaaGreatDoor
