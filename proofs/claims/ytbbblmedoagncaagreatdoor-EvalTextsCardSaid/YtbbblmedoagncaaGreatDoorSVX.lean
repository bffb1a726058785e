/- RvX, RvY0 -/
import Derived.Test.YtbbblmedoagncaaGreatDoorSVA
import Derived.Test.YtbbblmedoagncaaGreatDoorSHG
import Derived.Test.YtbbblmedoagncaaGreatDoorSHE
namespace Go.Proofs.YtbbblmedoagncaaGreatDoor
section
open _root_.Go.Lib (hid)
open _root_.Go.Proofs.Tryz
set_option maxHeartbeats 2000000
set_option maxRecDepth 100000
open Go.RowKit
def RKid (g:Nat) (w:World) (gk o:Nat) (a:Va):Prop:=∃ (op n:Int) (s:ByteArray) (kv:Value),w.cell? ⟨gk,o,none⟩=some (.int .i64 op)∧w.cell? ⟨gk,o+1,none⟩=some (.int .i64 n)∧w.cell? ⟨gk,o+2,none⟩=some (.string s)∧w.cell? ⟨gk,o+3,none⟩=some kv ∧
 ∀ w',Below w.heap.size w w'→Calls prog 51 #[.pointer (some ⟨g,0,none⟩),.agg #[.int .i64 op,.int .i64 n,.string s,kv]] w' (RCom w' a)
theorem RKid.later {g:Nat} {w w1:World} {gk o:Nat} {a:Va} (h:RKid g w gk o a) (hb:Below w.heap.size w w1):RKid g w1 gk o a:=by
 obtain⟨op,n,s,kv,x0,x1,x2,x3,k⟩:=h
 have hg:=World.block_lt_of_cell? w _ x0
 exact⟨op,n,s,kv,(hb.cell (p:=⟨gk,o,none⟩) hg).trans x0,(hb.cell (p:=⟨gk,o+1,none⟩) hg).trans x1,(hb.cell (p:=⟨gk,o+2,none⟩) hg).trans x2,(hb.cell (p:=⟨gk,o+3,none⟩) hg).trans x3,fun w' hw=>k w' (below_to hb hw)⟩
theorem wyk {g gk o:Nat} {w2 wi:World} {k m:Int} {t:List UInt8} (H:Hid (RKid g w2 gk o ⟨k,m,t⟩)) (T:Hid (Below w2.heap.size w2 wi)) (K:Int) (ha:(⟨k,m,t⟩:Va).ok) (hk:okW K ⟨k,m,t⟩=true) :
  ∃ op n s kv,wi.cell? ⟨gk,o,none⟩=some (.int .i64 op)∧wi.cell? ⟨gk,o+1,none⟩=some (.int .i64 n)∧wi.cell? ⟨gk,o+2,none⟩=some (.string s)∧wi.cell? ⟨gk,o+3,none⟩=some kv ∧
   Calls prog 210 #[.pointer (some ⟨g,0,none⟩),.agg #[.int .i64 op,.int .i64 n,.string s,kv],.int .i64 K] wi fun e w'=>e=.returned (.tuple #[V3 k m ⟨t.toArray⟩,.bool true])∧Below wi.heap.size wi w':=by
 obtain⟨op,n,s,kv,k0,k1,k2,k3,kk⟩:=H.out.later T.out
 exact⟨op,n,s,kv,k0,k1,k2,k3,rwant_yes g K ⟨k,m,t⟩ ha hk op n s kv wi kk⟩
theorem wnk {g gk o:Nat} {w2 wi:World} {a:Va} (H:Hid (RKid g w2 gk o a)) (T:Hid (Below w2.heap.size w2 wi)) (K:Int) (hk:okW K a=false) :
  ∃ A,Hid (wrongV a=A)∧∃ op n s kv,wi.cell? ⟨gk,o,none⟩=some (.int .i64 op)∧wi.cell? ⟨gk,o+1,none⟩=some (.int .i64 n)∧wi.cell? ⟨gk,o+2,none⟩=some (.string s)∧wi.cell? ⟨gk,o+3,none⟩=some kv ∧
   Calls prog 210 #[.pointer (some ⟨g,0,none⟩),.agg #[.int .i64 op,.int .i64 n,.string s,kv],.int .i64 K] wi fun e w'=>e=.returned (.tuple #[V3 A.k A.n ⟨A.s.toArray⟩,.bool false])∧Below wi.heap.size wi w':=by
 obtain⟨op,n,s,kv,k0,k1,k2,k3,kk⟩:=H.out.later T.out
 exact⟨_,hid rfl,op,n,s,kv,k0,k1,k2,k3,rwant_no g K a hk op n s kv wi kk⟩
theorem wyd {g gk o:Nat} {w2 wi:World} {k m:Int} {t:List UInt8} (H:Hid (RKid g w2 gk o ⟨k,m,t⟩)) (T:Hid (Below w2.heap.size w2 wi)) (K:Int) (ha:(⟨k,m,t⟩:Va).ok) (hk:okW K ⟨k,m,t⟩=true) :
  ∃ op n s kv,wi.cell? ⟨gk,o,none⟩=some (.int .i64 op)∧wi.cell? ⟨gk,o+1,none⟩=some (.int .i64 n)∧wi.cell? ⟨gk,o+2,none⟩=some (.string s)∧wi.cell? ⟨gk,o+3,none⟩=some kv∧gk<wi.heap.size ∧
   Calls prog 210 #[.pointer (some ⟨g,0,none⟩),.agg #[.int .i64 op,.int .i64 n,.string s,kv],.int .i64 K] wi.drew (fun e w'=>e=.returned (.tuple #[V3 k m ⟨t.toArray⟩,.bool true])∧Below wi.heap.size wi w') ∧
   Calls prog 210 #[.pointer (some ⟨g,0,none⟩),.agg #[.int .i64 op,.int .i64 n,.string s,kv],.int .i64 K] (wi.alloc (.cells #[.int .i64 0,.int .i64 0,.string ⟨#[]⟩] 39)).drew fun e w'=>e=.returned (.tuple #[V3 k m ⟨t.toArray⟩,.bool true])∧Below wi.heap.size wi w'∧ZB w' wi.heap.size:=by
 obtain⟨op,n,s,kv,k0,k1,k2,k3,kk⟩:=H.out.later T.out
 have c:=fun (w':World) (hb:Below wi.heap.size wi w')=>rwant_yes g K ⟨k,m,t⟩ ha hk op n s kv w' (fun w9 h9=>kk w9 (below_to hb h9))
 refine⟨op,n,s,kv,k0,k1,k2,k3,World.block_lt_of_cell? _ _ k0,?_,?_⟩
 ·refine (c _ (Below.refl _ _).drew).mono ?_
  rintro e wy ⟨rfl,hby⟩
  exact⟨rfl,below_to (Below.refl _ _).drew hby⟩
 ·refine (c _ (below_alloc wi _).drew).mono ?_
  rintro e wy ⟨rfl,hby⟩
  exact⟨rfl,below_to (below_alloc wi _).drew hby,((ZB.new wi).later (Below.refl _ _).drew).later hby⟩
theorem wnd {g gk o:Nat} {w2 wi:World} {a:Va} (H:Hid (RKid g w2 gk o a)) (T:Hid (Below w2.heap.size w2 wi)) (K:Int) (hk:okW K a=false) :
  ∃ A,Hid (wrongV a=A)∧∃ op n s kv,wi.cell? ⟨gk,o,none⟩=some (.int .i64 op)∧wi.cell? ⟨gk,o+1,none⟩=some (.int .i64 n)∧wi.cell? ⟨gk,o+2,none⟩=some (.string s)∧wi.cell? ⟨gk,o+3,none⟩=some kv∧gk<wi.heap.size ∧
   Calls prog 210 #[.pointer (some ⟨g,0,none⟩),.agg #[.int .i64 op,.int .i64 n,.string s,kv],.int .i64 K] wi.drew (fun e w'=>e=.returned (.tuple #[V3 A.k A.n ⟨A.s.toArray⟩,.bool false])∧Below wi.heap.size wi w') ∧
   Calls prog 210 #[.pointer (some ⟨g,0,none⟩),.agg #[.int .i64 op,.int .i64 n,.string s,kv],.int .i64 K] (wi.alloc (.cells #[.int .i64 0,.int .i64 0,.string ⟨#[]⟩] 39)).drew fun e w'=>e=.returned (.tuple #[V3 A.k A.n ⟨A.s.toArray⟩,.bool false])∧Below wi.heap.size wi w'∧ZB w' wi.heap.size:=by
 obtain⟨op,n,s,kv,k0,k1,k2,k3,kk⟩:=H.out.later T.out
 have c:=fun (w':World) (hb:Below wi.heap.size wi w')=>rwant_no g K a hk op n s kv w' (fun w9 h9=>kk w9 (below_to hb h9))
 refine⟨_,hid rfl,op,n,s,kv,k0,k1,k2,k3,World.block_lt_of_cell? _ _ k0,?_,?_⟩
 ·refine (c _ (Below.refl _ _).drew).mono ?_
  rintro e wy ⟨rfl,hby⟩
  exact⟨rfl,below_to (Below.refl _ _).drew hby⟩
 ·refine (c _ (below_alloc wi _).drew).mono ?_
  rintro e wy ⟨rfl,hby⟩
  exact⟨rfl,below_to (below_alloc wi _).drew hby,((ZB.new wi).later (Below.refl _ _).drew).later hby⟩
theorem ofk {g gk o:Nat} {w2 wi:World} {k m:Int} {t:List UInt8} (H:Hid (RKid g w2 gk o ⟨k,m,t⟩)) (T:Hid (Below w2.heap.size w2 wi)) :
  ∃ op n s kv,wi.cell? ⟨gk,o,none⟩=some (.int .i64 op)∧wi.cell? ⟨gk,o+1,none⟩=some (.int .i64 n)∧wi.cell? ⟨gk,o+2,none⟩=some (.string s)∧wi.cell? ⟨gk,o+3,none⟩=some kv∧Calls prog 51 #[.pointer (some ⟨g,0,none⟩),.agg #[.int .i64 op,.int .i64 n,.string s,kv]] wi fun e w'=>e=.returned (V3 k m ⟨t.toArray⟩)∧Below wi.heap.size wi w':=by
 obtain⟨op,n,s,kv,k0,k1,k2,k3,kk⟩:=H.out.later T.out
 exact⟨op,n,s,kv,k0,k1,k2,k3,kk wi (Below.refl _ _)⟩
theorem okW_eq {K:Int} {a:Va} (h:a.k=K) (h0:K≠0) (h4:K≠4):okW K a=true:=decide_eq_true ⟨by omega,by omega,.inr h⟩
theorem okW_ne {K:Int} {a:Va} (h:a.k≠K) (h0:K≠0):okW K a=false:=decide_eq_false (fun ⟨_,_,hk⟩=>by omega)
theorem want_y {K:Int} {a f:Va} (h:a.k=K):wantV K a f=f:=by unfold wantV;rw[if_pos h]
theorem want_n {K:Int} {a f:Va} (h:a.k≠K):wantV K a f=wrongV a:=by unfold wantV;rw[if_neg h]
theorem nv_i {x:Int} (h:inZ x=true):numV x=⟨1,x,[]⟩:=by unfold inZ at h;rw[decide_eq_true_eq] at h;unfold numV;rw[if_pos h]
theorem nv_o {x:Int} (h:inZ x=false):numV x=badV 1:=by unfold inZ at h;rw[decide_eq_false_iff_not] at h;unfold numV;rw[if_neg h]
theorem sub_ok (a b:Int) (ha:-9223372036854775808≤a∧a≤9223372036854775807) (hb:-9223372036854775808≤b∧b≤9223372036854775807):(decide (0≤b) == decide (wrap64 (a - b)≤a))=inZ (a - b):=by
 rcases wrap_two (a - b) (by omega) with ⟨e,h⟩ | ⟨e,h⟩ | ⟨e,h⟩
 ·rw[inZ_yes h,e]
  by_cases h0:0≤b
  ·rw[decide_eq_true h0,decide_eq_true (by omega)];rfl
  ·rw[decide_eq_false h0,decide_eq_false (by omega)];rfl
 ·rw[inZ_no (by omega),e,decide_eq_false (show ¬ 0≤b by omega),decide_eq_true (by omega)];rfl
 ·rw[inZ_no (by omega),e,decide_eq_true (show 0≤b by omega),decide_eq_false (by omega)];rfl
theorem rcount_neg0 (g gk o cap:Nat) (n:Int) (s:ByteArray) (a:Va) (w:World) (ha:a.ok) (xa:RKid g w gk (o) a) (hk:a.k≠1) :
  Calls prog 133 #[.pointer (some ⟨g,0,none⟩),.agg #[.int .i64 5,.int .i64 n,.string s,.slice (some ⟨gk,o,none⟩) 1 cap]] w (RCom w (wantV 1 a (numV (0 - a.n)))):=by
 generalize hPV:wantV 1 a (numV (0 - a.n))=PV
 have HPV:=hid hPV
 clear hPV
 obtain⟨w1,w2,hw1,hw2,G1,HB,HZ,HX⟩:=ent w 5 n s (.slice (some ⟨gk,o,none⟩) 1 cap)
 have HKa:=hid (xa.later HB.out)
 have T2:=hid (Below.refl w2.heap.size w2)
 clear xa
 obtain⟨ka,xa,ta⟩:=a
 try dsimp only at *
 obtain⟨-,e0,e1,e2,e3,-⟩:=HX.out
 obtain⟨Aa,HAa,opa,na,sa,kva,k0,k1,k2,k3,c⟩:=wnk HKa T2 1 (okW_ne hk (by decide))
 go_enter func133,ntmps133
 go_wp2_with fail
 refine c.mono ?_
 rintro e w3 ⟨rfl,b⟩
 obtain⟨w4,hw4,HVa,d⟩:=vbl w3 Aa.k Aa.n Aa.s
 have T4:=hid (below_to T2.out (below_to b d))
 clear e0 e1 e2 e3 c d b k0 k1 k2 k3
 obtain⟨-,e0,e1,e2,e3,-⟩:=HX.out.later T4.out
 obtain⟨-,a0,a1,a2⟩:=HVa.out
 obtain⟨z0,z1,z2,f0,f1,f2,B9⟩:=fin_at HB T4 G1 HZ Aa.k Aa.n ⟨Aa.s.toArray⟩
 go_wp2_with fail
 exact bodyPost_ret (v:=V3 Aa.k Aa.n ⟨Aa.s.toArray⟩) (by simp[results,results133,go_sem, *]) rfl ⟨by rw[← HPV.out,want_n hk,HAa.out],B9.out⟩
theorem rcount_neg1 (g gk o cap:Nat) (n:Int) (s:ByteArray) (a:Va) (w:World) (ha:a.ok) (xa:RKid g w gk (o) a) (hk:a.k=1) (hz:inZ (a.n * -1)=true) :
  Calls prog 133 #[.pointer (some ⟨g,0,none⟩),.agg #[.int .i64 5,.int .i64 n,.string s,.slice (some ⟨gk,o,none⟩) 1 cap]] w (RCom w (wantV 1 a (numV (0 - a.n)))):=by
 generalize hPV:wantV 1 a (numV (0 - a.n))=PV
 have HPV:=hid hPV
 clear hPV
 obtain⟨w1,w2,hw1,hw2,G1,HB,HZ,HX⟩:=ent w 5 n s (.slice (some ⟨gk,o,none⟩) 1 cap)
 have HKa:=hid (xa.later HB.out)
 have T2:=hid (Below.refl w2.heap.size w2)
 clear xa
 have HE:=hid (HPV.out.symm.trans (show wantV 1 a (numV (0 - a.n))=⟨1,a.n * -1,[]⟩ by rw[want_y hk,show 0 - a.n=a.n * -1 by omega];exact nv_i hz))
 have HR:=hid ha.2
 have HI:=hid hz
 clear hz
 obtain⟨ka,xa,ta⟩:=a
 try dsimp only at *
 subst hk
 obtain⟨-,e0,e1,e2,e3,-⟩:=HX.out
 obtain⟨opa,na,sa,kva,k0,k1,k2,k3,c⟩:=wyk HKa T2 1 ha (okW_eq rfl (by decide) (by decide))
 go_enter func133,ntmps133
 go_wp2_with fail
 refine c.mono ?_
 rintro e w3 ⟨rfl,b⟩
 obtain⟨w4,hw4,HVa,d⟩:=vbl w3 1 xa ta
 have T4:=hid (below_to T2.out (below_to b d))
 clear e0 e1 e2 e3 c d b k0 k1 k2 k3
 obtain⟨-,e0,e1,e2,e3,-⟩:=HX.out.later T4.out
 obtain⟨-,a0,a1,a2⟩:=HVa.out
 have c:Calls prog 216 #[.int .i64 xa,.int .i64 (-1)] w4 (Res2 (xa * -1) w4):=rproduct_any xa (-1) w4 HR.out (by decide)
 unfold Res2 at c
 rw[HI.out] at c
 go_wp2_with fail
 refine c.mono ?_
 rintro e w5 ⟨cz,rfl,rfl,hcz⟩
 have HCZ:=hid (hcz (by trivial))
 clear hcz
 clear e0 e1 e2 e3 a0 a1 a2 c
 obtain⟨-,e0,e1,e2,e3,-⟩:=HX.out.later T4.out
 obtain⟨-,a0,a1,a2⟩:=HVa.out
 have c:Calls prog 127 #[.int .i64 cz] w4 fun e w'=>e=.returned (V3 1 cz ⟨#[]⟩)∧Below w4.heap.size w4 w':=rnum_any cz w4
 go_wp2_with fail
 refine c.mono ?_
 rintro e w5 ⟨rfl,b5⟩
 have T5:=hid (below_to T4.out b5)
 have UaT5:=hid b5
 clear e0 e1 e2 e3 a0 a1 a2 c b5
 obtain⟨-,e0,e1,e2,e3,-⟩:=HX.out.later T5.out
 obtain⟨-,a0,a1,a2⟩:=HVa.out.later UaT5.out
 obtain⟨z0,z1,z2,f0,f1,f2,B9⟩:=fin_at HB T5 G1 HZ 1 cz ⟨#[]⟩
 go_wp2_with fail
 exact bodyPost_ret (v:=V3 1 cz ⟨#[]⟩) (by simp[results,results133,go_sem, *]) rfl ⟨by rw[HE.out,HCZ.out],B9.out⟩
theorem rcount_neg2 (g gk o cap:Nat) (n:Int) (s:ByteArray) (a:Va) (w:World) (ha:a.ok) (xa:RKid g w gk (o) a) (hk:a.k=1) (hz:inZ (a.n * -1)=false) :
  Calls prog 133 #[.pointer (some ⟨g,0,none⟩),.agg #[.int .i64 5,.int .i64 n,.string s,.slice (some ⟨gk,o,none⟩) 1 cap]] w (RCom w (wantV 1 a (numV (0 - a.n)))):=by
 generalize hPV:wantV 1 a (numV (0 - a.n))=PV
 have HPV:=hid hPV
 clear hPV
 obtain⟨w1,w2,hw1,hw2,G1,HB,HZ,HX⟩:=ent w 5 n s (.slice (some ⟨gk,o,none⟩) 1 cap)
 have HKa:=hid (xa.later HB.out)
 have T2:=hid (Below.refl w2.heap.size w2)
 clear xa
 have HE:=hid (HPV.out.symm.trans (show wantV 1 a (numV (0 - a.n))=⟨4,1,[]⟩ by rw[want_y hk,show 0 - a.n=a.n * -1 by omega];exact nv_o hz))
 have HR:=hid ha.2
 have HI:=hid hz
 clear hz
 obtain⟨ka,xa,ta⟩:=a
 try dsimp only at *
 subst hk
 obtain⟨-,e0,e1,e2,e3,-⟩:=HX.out
 obtain⟨opa,na,sa,kva,k0,k1,k2,k3,c⟩:=wyk HKa T2 1 ha (okW_eq rfl (by decide) (by decide))
 go_enter func133,ntmps133
 go_wp2_with fail
 refine c.mono ?_
 rintro e w3 ⟨rfl,b⟩
 obtain⟨w4,hw4,HVa,d⟩:=vbl w3 1 xa ta
 have T4:=hid (below_to T2.out (below_to b d))
 clear e0 e1 e2 e3 c d b k0 k1 k2 k3
 obtain⟨-,e0,e1,e2,e3,-⟩:=HX.out.later T4.out
 obtain⟨-,a0,a1,a2⟩:=HVa.out
 have c:Calls prog 216 #[.int .i64 xa,.int .i64 (-1)] w4 (Res2 (xa * -1) w4):=rproduct_any xa (-1) w4 HR.out (by decide)
 unfold Res2 at c
 rw[HI.out] at c
 go_wp2_with fail
 refine c.mono ?_
 rintro e w5 ⟨cz,rfl,rfl,hcz⟩
 clear hcz
 clear e0 e1 e2 e3 a0 a1 a2 c
 obtain⟨-,e0,e1,e2,e3,-⟩:=HX.out.later T4.out
 obtain⟨-,a0,a1,a2⟩:=HVa.out
 have c:Calls prog 211 #[.int .i64 1] w4 fun e w'=>e=.returned (V3 4 1 ⟨#[]⟩)∧Below w4.heap.size w4 w':=rbad_any 1 w4
 go_wp2_with fail
 refine c.mono ?_
 rintro e w5 ⟨rfl,b5⟩
 have T5:=hid (below_to T4.out b5)
 have UaT5:=hid b5
 clear e0 e1 e2 e3 a0 a1 a2 c b5
 obtain⟨-,e0,e1,e2,e3,-⟩:=HX.out.later T5.out
 obtain⟨-,a0,a1,a2⟩:=HVa.out.later UaT5.out
 obtain⟨z0,z1,z2,f0,f1,f2,B9⟩:=fin_at HB T5 G1 HZ 4 1 ⟨#[]⟩
 go_wp2_with fail
 exact bodyPost_ret (v:=V3 4 1 ⟨#[]⟩) (by simp[results,results133,go_sem, *]) rfl ⟨by rw[HE.out],B9.out⟩
theorem rcount_add0 (g gk o cap:Nat) (n:Int) (s:ByteArray) (a b:Va) (w:World) (ha:a.ok) (xa:RKid g w gk (o) a) (hb:b.ok) (xb:RKid g w gk (o+4) b) (hk:a.k≠1) :
  Calls prog 133 #[.pointer (some ⟨g,0,none⟩),.agg #[.int .i64 7,.int .i64 n,.string s,.slice (some ⟨gk,o,none⟩) 2 cap]] w (RCom w (wantV 1 a (wantV 1 b (numOp 7 a.n b.n)))):=by
 generalize hPV:wantV 1 a (wantV 1 b (numOp 7 a.n b.n))=PV
 have HPV:=hid hPV
 clear hPV
 obtain⟨w1,w2,hw1,hw2,G1,HB,HZ,HX⟩:=ent w 7 n s (.slice (some ⟨gk,o,none⟩) 2 cap)
 have HKa:=hid (xa.later HB.out)
 have HKb:=hid (xb.later HB.out)
 have T2:=hid (Below.refl w2.heap.size w2)
 clear xa xb
 obtain⟨ka,xa,ta⟩:=a
 obtain⟨kb,xb,tb⟩:=b
 try dsimp only at *
 obtain⟨-,e0,e1,e2,e3,-⟩:=HX.out
 obtain⟨Aa,HAa,opa,na,sa,kva,k0,k1,k2,k3,c⟩:=wnk HKa T2 1 (okW_ne hk (by decide))
 go_enter func133,ntmps133
 go_wp2_with fail
 refine c.mono ?_
 rintro e w3 ⟨rfl,b⟩
 obtain⟨w4,hw4,HVa,d⟩:=vbl w3 Aa.k Aa.n Aa.s
 have T4:=hid (below_to T2.out (below_to b d))
 clear e0 e1 e2 e3 c d b k0 k1 k2 k3
 obtain⟨-,e0,e1,e2,e3,-⟩:=HX.out.later T4.out
 obtain⟨-,a0,a1,a2⟩:=HVa.out
 obtain⟨z0,z1,z2,f0,f1,f2,B9⟩:=fin_at HB T4 G1 HZ Aa.k Aa.n ⟨Aa.s.toArray⟩
 go_wp2_with fail
 exact bodyPost_ret (v:=V3 Aa.k Aa.n ⟨Aa.s.toArray⟩) (by simp[results,results133,go_sem, *]) rfl ⟨by rw[← HPV.out,want_n hk,HAa.out],B9.out⟩
theorem rcount_addB (g gk o cap:Nat) (n:Int) (s:ByteArray) (a b:Va) (w:World) (ha:a.ok) (xa:RKid g w gk (o) a) (hb:b.ok) (xb:RKid g w gk (o+4) b) (hk:a.k=1) (hl:b.k≠1) :
  Calls prog 133 #[.pointer (some ⟨g,0,none⟩),.agg #[.int .i64 7,.int .i64 n,.string s,.slice (some ⟨gk,o,none⟩) 2 cap]] w (RCom w (wantV 1 a (wantV 1 b (numOp 7 a.n b.n)))):=by
 generalize hPV:wantV 1 a (wantV 1 b (numOp 7 a.n b.n))=PV
 have HPV:=hid hPV
 clear hPV
 obtain⟨w1,w2,hw1,hw2,G1,HB,HZ,HX⟩:=ent w 7 n s (.slice (some ⟨gk,o,none⟩) 2 cap)
 have HKa:=hid (xa.later HB.out)
 have HKb:=hid (xb.later HB.out)
 have T2:=hid (Below.refl w2.heap.size w2)
 clear xa xb
 obtain⟨ka,xa,ta⟩:=a
 obtain⟨kb,xb,tb⟩:=b
 try dsimp only at *
 subst hk
 obtain⟨-,e0,e1,e2,e3,-⟩:=HX.out
 obtain⟨opa,na,sa,kva,k0,k1,k2,k3,c⟩:=wyk HKa T2 1 ha (okW_eq rfl (by decide) (by decide))
 go_enter func133,ntmps133
 go_wp2_with fail
 refine c.mono ?_
 rintro e w3 ⟨rfl,b⟩
 obtain⟨w4,hw4,HVa,d⟩:=vbl w3 1 xa ta
 have T4:=hid (below_to T2.out (below_to b d))
 clear e0 e1 e2 e3 c d b k0 k1 k2 k3
 obtain⟨-,e0,e1,e2,e3,-⟩:=HX.out.later T4.out
 obtain⟨-,a0,a1,a2⟩:=HVa.out
 obtain⟨Ab,HAb,opb,nb,sb,kvb,k0,k1,k2,k3,c⟩:=wnk HKb T4 1 (okW_ne hl (by decide))
 go_wp2_with fail
 refine c.mono ?_
 rintro e w5 ⟨rfl,b⟩
 obtain⟨w6,hw6,HVb,d⟩:=vbl w5 Ab.k Ab.n Ab.s
 have T6:=hid (below_to T4.out (below_to b d))
 have UaT6:=hid (below_to b d)
 clear e0 e1 e2 e3 a0 a1 a2 c d b k0 k1 k2 k3
 obtain⟨-,e0,e1,e2,e3,-⟩:=HX.out.later T6.out
 obtain⟨-,a0,a1,a2⟩:=HVa.out.later UaT6.out
 obtain⟨-,b0,b1,b2⟩:=HVb.out
 obtain⟨z0,z1,z2,f0,f1,f2,B9⟩:=fin_at HB T6 G1 HZ Ab.k Ab.n ⟨Ab.s.toArray⟩
 go_wp2_with fail
 exact bodyPost_ret (v:=V3 Ab.k Ab.n ⟨Ab.s.toArray⟩) (by simp[results,results133,go_sem, *]) rfl ⟨by rw[← HPV.out,want_y (K:=1) (a:=⟨1,xa,ta⟩) rfl,want_n hl,HAb.out],B9.out⟩
theorem rcount_add1 (g gk o cap:Nat) (n:Int) (s:ByteArray) (a b:Va) (w:World) (ha:a.ok) (xa:RKid g w gk (o) a) (hb:b.ok) (xb:RKid g w gk (o+4) b) (hk:a.k=1) (hl:b.k=1) (hz:inZ (a.n+b.n)=true) :
  Calls prog 133 #[.pointer (some ⟨g,0,none⟩),.agg #[.int .i64 7,.int .i64 n,.string s,.slice (some ⟨gk,o,none⟩) 2 cap]] w (RCom w (wantV 1 a (wantV 1 b (numOp 7 a.n b.n)))):=by
 generalize hPV:wantV 1 a (wantV 1 b (numOp 7 a.n b.n))=PV
 have HPV:=hid hPV
 clear hPV
 obtain⟨w1,w2,hw1,hw2,G1,HB,HZ,HX⟩:=ent w 7 n s (.slice (some ⟨gk,o,none⟩) 2 cap)
 have HKa:=hid (xa.later HB.out)
 have HKb:=hid (xb.later HB.out)
 have T2:=hid (Below.refl w2.heap.size w2)
 clear xa xb
 have HE:=hid (HPV.out.symm.trans (show wantV 1 a (wantV 1 b (numOp 7 a.n b.n))=⟨1,a.n+b.n,[]⟩ by rw[want_y hk,want_y hl,show numOp 7 a.n b.n=numV (a.n+b.n) by rfl];exact nv_i hz))
 have HR:=hid ha.2
 have HS:=hid hb.2
 have HI:=hid hz
 clear hz
 obtain⟨ka,xa,ta⟩:=a
 obtain⟨kb,xb,tb⟩:=b
 try dsimp only at *
 subst hk
 subst hl
 obtain⟨-,e0,e1,e2,e3,-⟩:=HX.out
 obtain⟨opa,na,sa,kva,k0,k1,k2,k3,c⟩:=wyk HKa T2 1 ha (okW_eq rfl (by decide) (by decide))
 go_enter func133,ntmps133
 go_wp2_with fail
 refine c.mono ?_
 rintro e w3 ⟨rfl,b⟩
 obtain⟨w4,hw4,HVa,d⟩:=vbl w3 1 xa ta
 have T4:=hid (below_to T2.out (below_to b d))
 clear e0 e1 e2 e3 c d b k0 k1 k2 k3
 obtain⟨-,e0,e1,e2,e3,-⟩:=HX.out.later T4.out
 obtain⟨-,a0,a1,a2⟩:=HVa.out
 obtain⟨opb,nb,sb,kvb,k0,k1,k2,k3,c⟩:=wyk HKb T4 1 hb (okW_eq rfl (by decide) (by decide))
 go_wp2_with fail
 refine c.mono ?_
 rintro e w5 ⟨rfl,b⟩
 obtain⟨w6,hw6,HVb,d⟩:=vbl w5 1 xb tb
 have T6:=hid (below_to T4.out (below_to b d))
 have UaT6:=hid (below_to b d)
 clear e0 e1 e2 e3 a0 a1 a2 c d b k0 k1 k2 k3
 obtain⟨-,e0,e1,e2,e3,-⟩:=HX.out.later T6.out
 obtain⟨-,a0,a1,a2⟩:=HVa.out.later UaT6.out
 obtain⟨-,b0,b1,b2⟩:=HVb.out
 have c:Calls prog 217 #[.int .i64 xa,.int .i64 xb] w6 (Res2 (xa+xb) w6):=rsum_any xa xb w6 HR.out HS.out
 unfold Res2 at c
 rw[HI.out] at c
 go_wp2_with fail
 refine c.mono ?_
 rintro e w7 ⟨cz,rfl,rfl,hcz⟩
 have HCZ:=hid (hcz (by trivial))
 clear hcz
 clear e0 e1 e2 e3 a0 a1 a2 b0 b1 b2 c
 obtain⟨-,e0,e1,e2,e3,-⟩:=HX.out.later T6.out
 obtain⟨-,a0,a1,a2⟩:=HVa.out.later UaT6.out
 obtain⟨-,b0,b1,b2⟩:=HVb.out
 have c:Calls prog 127 #[.int .i64 cz] w6 fun e w'=>e=.returned (V3 1 cz ⟨#[]⟩)∧Below w6.heap.size w6 w':=rnum_any cz w6
 go_wp2_with fail
 refine c.mono ?_
 rintro e w7 ⟨rfl,b7⟩
 have T7:=hid (below_to T6.out b7)
 have UaT7:=hid (below_to UaT6.out b7)
 have UbT7:=hid b7
 clear e0 e1 e2 e3 a0 a1 a2 b0 b1 b2 c b7
 obtain⟨-,e0,e1,e2,e3,-⟩:=HX.out.later T7.out
 obtain⟨-,a0,a1,a2⟩:=HVa.out.later UaT7.out
 obtain⟨-,b0,b1,b2⟩:=HVb.out.later UbT7.out
 obtain⟨z0,z1,z2,f0,f1,f2,B9⟩:=fin_at HB T7 G1 HZ 1 cz ⟨#[]⟩
 go_wp2_with fail
 exact bodyPost_ret (v:=V3 1 cz ⟨#[]⟩) (by simp[results,results133,go_sem, *]) rfl ⟨by rw[HE.out,HCZ.out],B9.out⟩
theorem rcount_add2 (g gk o cap:Nat) (n:Int) (s:ByteArray) (a b:Va) (w:World) (ha:a.ok) (xa:RKid g w gk (o) a) (hb:b.ok) (xb:RKid g w gk (o+4) b) (hk:a.k=1) (hl:b.k=1) (hz:inZ (a.n+b.n)=false) :
  Calls prog 133 #[.pointer (some ⟨g,0,none⟩),.agg #[.int .i64 7,.int .i64 n,.string s,.slice (some ⟨gk,o,none⟩) 2 cap]] w (RCom w (wantV 1 a (wantV 1 b (numOp 7 a.n b.n)))):=by
 generalize hPV:wantV 1 a (wantV 1 b (numOp 7 a.n b.n))=PV
 have HPV:=hid hPV
 clear hPV
 obtain⟨w1,w2,hw1,hw2,G1,HB,HZ,HX⟩:=ent w 7 n s (.slice (some ⟨gk,o,none⟩) 2 cap)
 have HKa:=hid (xa.later HB.out)
 have HKb:=hid (xb.later HB.out)
 have T2:=hid (Below.refl w2.heap.size w2)
 clear xa xb
 have HE:=hid (HPV.out.symm.trans (show wantV 1 a (wantV 1 b (numOp 7 a.n b.n))=⟨4,1,[]⟩ by rw[want_y hk,want_y hl,show numOp 7 a.n b.n=numV (a.n+b.n) by rfl];exact nv_o hz))
 have HR:=hid ha.2
 have HS:=hid hb.2
 have HI:=hid hz
 clear hz
 obtain⟨ka,xa,ta⟩:=a
 obtain⟨kb,xb,tb⟩:=b
 try dsimp only at *
 subst hk
 subst hl
 obtain⟨-,e0,e1,e2,e3,-⟩:=HX.out
 obtain⟨opa,na,sa,kva,k0,k1,k2,k3,c⟩:=wyk HKa T2 1 ha (okW_eq rfl (by decide) (by decide))
 go_enter func133,ntmps133
 go_wp2_with fail
 refine c.mono ?_
 rintro e w3 ⟨rfl,b⟩
 obtain⟨w4,hw4,HVa,d⟩:=vbl w3 1 xa ta
 have T4:=hid (below_to T2.out (below_to b d))
 clear e0 e1 e2 e3 c d b k0 k1 k2 k3
 obtain⟨-,e0,e1,e2,e3,-⟩:=HX.out.later T4.out
 obtain⟨-,a0,a1,a2⟩:=HVa.out
 obtain⟨opb,nb,sb,kvb,k0,k1,k2,k3,c⟩:=wyk HKb T4 1 hb (okW_eq rfl (by decide) (by decide))
 go_wp2_with fail
 refine c.mono ?_
 rintro e w5 ⟨rfl,b⟩
 obtain⟨w6,hw6,HVb,d⟩:=vbl w5 1 xb tb
 have T6:=hid (below_to T4.out (below_to b d))
 have UaT6:=hid (below_to b d)
 clear e0 e1 e2 e3 a0 a1 a2 c d b k0 k1 k2 k3
 obtain⟨-,e0,e1,e2,e3,-⟩:=HX.out.later T6.out
 obtain⟨-,a0,a1,a2⟩:=HVa.out.later UaT6.out
 obtain⟨-,b0,b1,b2⟩:=HVb.out
 have c:Calls prog 217 #[.int .i64 xa,.int .i64 xb] w6 (Res2 (xa+xb) w6):=rsum_any xa xb w6 HR.out HS.out
 unfold Res2 at c
 rw[HI.out] at c
 go_wp2_with fail
 refine c.mono ?_
 rintro e w7 ⟨cz,rfl,rfl,hcz⟩
 clear hcz
 clear e0 e1 e2 e3 a0 a1 a2 b0 b1 b2 c
 obtain⟨-,e0,e1,e2,e3,-⟩:=HX.out.later T6.out
 obtain⟨-,a0,a1,a2⟩:=HVa.out.later UaT6.out
 obtain⟨-,b0,b1,b2⟩:=HVb.out
 have c:Calls prog 211 #[.int .i64 1] w6 fun e w'=>e=.returned (V3 4 1 ⟨#[]⟩)∧Below w6.heap.size w6 w':=rbad_any 1 w6
 go_wp2_with fail
 refine c.mono ?_
 rintro e w7 ⟨rfl,b7⟩
 have T7:=hid (below_to T6.out b7)
 have UaT7:=hid (below_to UaT6.out b7)
 have UbT7:=hid b7
 clear e0 e1 e2 e3 a0 a1 a2 b0 b1 b2 c b7
 obtain⟨-,e0,e1,e2,e3,-⟩:=HX.out.later T7.out
 obtain⟨-,a0,a1,a2⟩:=HVa.out.later UaT7.out
 obtain⟨-,b0,b1,b2⟩:=HVb.out.later UbT7.out
 obtain⟨z0,z1,z2,f0,f1,f2,B9⟩:=fin_at HB T7 G1 HZ 4 1 ⟨#[]⟩
 go_wp2_with fail
 exact bodyPost_ret (v:=V3 4 1 ⟨#[]⟩) (by simp[results,results133,go_sem, *]) rfl ⟨by rw[HE.out],B9.out⟩
theorem rcount_sub0 (g gk o cap:Nat) (n:Int) (s:ByteArray) (a b:Va) (w:World) (ha:a.ok) (xa:RKid g w gk (o) a) (hb:b.ok) (xb:RKid g w gk (o+4) b) (hk:a.k≠1) :
  Calls prog 133 #[.pointer (some ⟨g,0,none⟩),.agg #[.int .i64 8,.int .i64 n,.string s,.slice (some ⟨gk,o,none⟩) 2 cap]] w (RCom w (wantV 1 a (wantV 1 b (numOp 8 a.n b.n)))):=by
 generalize hPV:wantV 1 a (wantV 1 b (numOp 8 a.n b.n))=PV
 have HPV:=hid hPV
 clear hPV
 obtain⟨w1,w2,hw1,hw2,G1,HB,HZ,HX⟩:=ent w 8 n s (.slice (some ⟨gk,o,none⟩) 2 cap)
 have HKa:=hid (xa.later HB.out)
 have HKb:=hid (xb.later HB.out)
 have T2:=hid (Below.refl w2.heap.size w2)
 clear xa xb
 obtain⟨ka,xa,ta⟩:=a
 obtain⟨kb,xb,tb⟩:=b
 try dsimp only at *
 obtain⟨-,e0,e1,e2,e3,-⟩:=HX.out
 obtain⟨Aa,HAa,opa,na,sa,kva,k0,k1,k2,k3,c⟩:=wnk HKa T2 1 (okW_ne hk (by decide))
 go_enter func133,ntmps133
 go_wp2_with fail
 refine c.mono ?_
 rintro e w3 ⟨rfl,b⟩
 obtain⟨w4,hw4,HVa,d⟩:=vbl w3 Aa.k Aa.n Aa.s
 have T4:=hid (below_to T2.out (below_to b d))
 clear e0 e1 e2 e3 c d b k0 k1 k2 k3
 obtain⟨-,e0,e1,e2,e3,-⟩:=HX.out.later T4.out
 obtain⟨-,a0,a1,a2⟩:=HVa.out
 obtain⟨z0,z1,z2,f0,f1,f2,B9⟩:=fin_at HB T4 G1 HZ Aa.k Aa.n ⟨Aa.s.toArray⟩
 go_wp2_with fail
 exact bodyPost_ret (v:=V3 Aa.k Aa.n ⟨Aa.s.toArray⟩) (by simp[results,results133,go_sem, *]) rfl ⟨by rw[← HPV.out,want_n hk,HAa.out],B9.out⟩
theorem rcount_subB (g gk o cap:Nat) (n:Int) (s:ByteArray) (a b:Va) (w:World) (ha:a.ok) (xa:RKid g w gk (o) a) (hb:b.ok) (xb:RKid g w gk (o+4) b) (hk:a.k=1) (hl:b.k≠1) :
  Calls prog 133 #[.pointer (some ⟨g,0,none⟩),.agg #[.int .i64 8,.int .i64 n,.string s,.slice (some ⟨gk,o,none⟩) 2 cap]] w (RCom w (wantV 1 a (wantV 1 b (numOp 8 a.n b.n)))):=by
 generalize hPV:wantV 1 a (wantV 1 b (numOp 8 a.n b.n))=PV
 have HPV:=hid hPV
 clear hPV
 obtain⟨w1,w2,hw1,hw2,G1,HB,HZ,HX⟩:=ent w 8 n s (.slice (some ⟨gk,o,none⟩) 2 cap)
 have HKa:=hid (xa.later HB.out)
 have HKb:=hid (xb.later HB.out)
 have T2:=hid (Below.refl w2.heap.size w2)
 clear xa xb
 obtain⟨ka,xa,ta⟩:=a
 obtain⟨kb,xb,tb⟩:=b
 try dsimp only at *
 subst hk
 obtain⟨-,e0,e1,e2,e3,-⟩:=HX.out
 obtain⟨opa,na,sa,kva,k0,k1,k2,k3,c⟩:=wyk HKa T2 1 ha (okW_eq rfl (by decide) (by decide))
 go_enter func133,ntmps133
 go_wp2_with fail
 refine c.mono ?_
 rintro e w3 ⟨rfl,b⟩
 obtain⟨w4,hw4,HVa,d⟩:=vbl w3 1 xa ta
 have T4:=hid (below_to T2.out (below_to b d))
 clear e0 e1 e2 e3 c d b k0 k1 k2 k3
 obtain⟨-,e0,e1,e2,e3,-⟩:=HX.out.later T4.out
 obtain⟨-,a0,a1,a2⟩:=HVa.out
 obtain⟨Ab,HAb,opb,nb,sb,kvb,k0,k1,k2,k3,c⟩:=wnk HKb T4 1 (okW_ne hl (by decide))
 go_wp2_with fail
 refine c.mono ?_
 rintro e w5 ⟨rfl,b⟩
 obtain⟨w6,hw6,HVb,d⟩:=vbl w5 Ab.k Ab.n Ab.s
 have T6:=hid (below_to T4.out (below_to b d))
 have UaT6:=hid (below_to b d)
 clear e0 e1 e2 e3 a0 a1 a2 c d b k0 k1 k2 k3
 obtain⟨-,e0,e1,e2,e3,-⟩:=HX.out.later T6.out
 obtain⟨-,a0,a1,a2⟩:=HVa.out.later UaT6.out
 obtain⟨-,b0,b1,b2⟩:=HVb.out
 obtain⟨z0,z1,z2,f0,f1,f2,B9⟩:=fin_at HB T6 G1 HZ Ab.k Ab.n ⟨Ab.s.toArray⟩
 go_wp2_with fail
 exact bodyPost_ret (v:=V3 Ab.k Ab.n ⟨Ab.s.toArray⟩) (by simp[results,results133,go_sem, *]) rfl ⟨by rw[← HPV.out,want_y (K:=1) (a:=⟨1,xa,ta⟩) rfl,want_n hl,HAb.out],B9.out⟩
theorem rcount_sub1 (g gk o cap:Nat) (n:Int) (s:ByteArray) (a b:Va) (w:World) (ha:a.ok) (xa:RKid g w gk (o) a) (hb:b.ok) (xb:RKid g w gk (o+4) b) (hk:a.k=1) (hl:b.k=1) (hz:inZ (a.n - b.n)=true) :
  Calls prog 133 #[.pointer (some ⟨g,0,none⟩),.agg #[.int .i64 8,.int .i64 n,.string s,.slice (some ⟨gk,o,none⟩) 2 cap]] w (RCom w (wantV 1 a (wantV 1 b (numOp 8 a.n b.n)))):=by
 generalize hPV:wantV 1 a (wantV 1 b (numOp 8 a.n b.n))=PV
 have HPV:=hid hPV
 clear hPV
 obtain⟨w1,w2,hw1,hw2,G1,HB,HZ,HX⟩:=ent w 8 n s (.slice (some ⟨gk,o,none⟩) 2 cap)
 have HKa:=hid (xa.later HB.out)
 have HKb:=hid (xb.later HB.out)
 have T2:=hid (Below.refl w2.heap.size w2)
 clear xa xb
 have HE:=hid (HPV.out.symm.trans (show wantV 1 a (wantV 1 b (numOp 8 a.n b.n))=⟨1,a.n - b.n,[]⟩ by rw[want_y hk,want_y hl,show numOp 8 a.n b.n=numV (a.n - b.n) by rfl];exact nv_i hz))
 have HR:=hid ha.2
 have HS:=hid hb.2
 have HI:=hid hz
 clear hz
 obtain⟨ka,xa,ta⟩:=a
 obtain⟨kb,xb,tb⟩:=b
 try dsimp only at *
 subst hk
 subst hl
 obtain⟨cz,hcz⟩:∃ c,wrap64 (xa - xb)=c:=⟨_,rfl⟩
 have hdq:(decide (0≤xb) == decide (cz≤xa))=true:=by rw[← hcz,sub_ok xa xb HR.out HS.out,HI.out]
 have hce:cz=xa - xb:=by rw[← hcz];have hz:=HI.out;unfold inZ at hz;rw[decide_eq_true_eq] at hz;unfold wrap64;omega
 have HCE:=hid hce
 clear hce
 obtain⟨-,e0,e1,e2,e3,-⟩:=HX.out
 obtain⟨opa,na,sa,kva,k0,k1,k2,k3,c⟩:=wyk HKa T2 1 ha (okW_eq rfl (by decide) (by decide))
 go_enter func133,ntmps133
 go_wp2_with fail
 refine c.mono ?_
 rintro e w3 ⟨rfl,b⟩
 obtain⟨w4,hw4,HVa,d⟩:=vbl w3 1 xa ta
 have T4:=hid (below_to T2.out (below_to b d))
 clear e0 e1 e2 e3 c d b k0 k1 k2 k3
 obtain⟨-,e0,e1,e2,e3,-⟩:=HX.out.later T4.out
 obtain⟨-,a0,a1,a2⟩:=HVa.out
 obtain⟨opb,nb,sb,kvb,k0,k1,k2,k3,c⟩:=wyk HKb T4 1 hb (okW_eq rfl (by decide) (by decide))
 go_wp2_with fail
 refine c.mono ?_
 rintro e w5 ⟨rfl,b⟩
 obtain⟨w6,hw6,HVb,d⟩:=vbl w5 1 xb tb
 have T6:=hid (below_to T4.out (below_to b d))
 have UaT6:=hid (below_to b d)
 clear e0 e1 e2 e3 a0 a1 a2 c d b k0 k1 k2 k3
 obtain⟨-,e0,e1,e2,e3,-⟩:=HX.out.later T6.out
 obtain⟨-,a0,a1,a2⟩:=HVa.out.later UaT6.out
 obtain⟨-,b0,b1,b2⟩:=HVb.out
 have c:Calls prog 127 #[.int .i64 cz] w6 fun e w'=>e=.returned (V3 1 cz ⟨#[]⟩)∧Below w6.heap.size w6 w':=rnum_any cz w6
 go_wp2_with fail
 refine c.mono ?_
 rintro e w7 ⟨rfl,b7⟩
 have T7:=hid (below_to T6.out b7)
 have UaT7:=hid (below_to UaT6.out b7)
 have UbT7:=hid b7
 clear e0 e1 e2 e3 a0 a1 a2 b0 b1 b2 c b7
 obtain⟨-,e0,e1,e2,e3,-⟩:=HX.out.later T7.out
 obtain⟨-,a0,a1,a2⟩:=HVa.out.later UaT7.out
 obtain⟨-,b0,b1,b2⟩:=HVb.out.later UbT7.out
 obtain⟨z0,z1,z2,f0,f1,f2,B9⟩:=fin_at HB T7 G1 HZ 1 cz ⟨#[]⟩
 go_wp2_with fail
 exact bodyPost_ret (v:=V3 1 cz ⟨#[]⟩) (by simp[results,results133,go_sem, *]) rfl ⟨by rw[HE.out,HCE.out],B9.out⟩
theorem rcount_sub2 (g gk o cap:Nat) (n:Int) (s:ByteArray) (a b:Va) (w:World) (ha:a.ok) (xa:RKid g w gk (o) a) (hb:b.ok) (xb:RKid g w gk (o+4) b) (hk:a.k=1) (hl:b.k=1) (hz:inZ (a.n - b.n)=false) :
  Calls prog 133 #[.pointer (some ⟨g,0,none⟩),.agg #[.int .i64 8,.int .i64 n,.string s,.slice (some ⟨gk,o,none⟩) 2 cap]] w (RCom w (wantV 1 a (wantV 1 b (numOp 8 a.n b.n)))):=by
 generalize hPV:wantV 1 a (wantV 1 b (numOp 8 a.n b.n))=PV
 have HPV:=hid hPV
 clear hPV
 obtain⟨w1,w2,hw1,hw2,G1,HB,HZ,HX⟩:=ent w 8 n s (.slice (some ⟨gk,o,none⟩) 2 cap)
 have HKa:=hid (xa.later HB.out)
 have HKb:=hid (xb.later HB.out)
 have T2:=hid (Below.refl w2.heap.size w2)
 clear xa xb
 have HE:=hid (HPV.out.symm.trans (show wantV 1 a (wantV 1 b (numOp 8 a.n b.n))=⟨4,1,[]⟩ by rw[want_y hk,want_y hl,show numOp 8 a.n b.n=numV (a.n - b.n) by rfl];exact nv_o hz))
 have HR:=hid ha.2
 have HS:=hid hb.2
 have HI:=hid hz
 clear hz
 obtain⟨ka,xa,ta⟩:=a
 obtain⟨kb,xb,tb⟩:=b
 try dsimp only at *
 subst hk
 subst hl
 obtain⟨cz,hcz⟩:∃ c,wrap64 (xa - xb)=c:=⟨_,rfl⟩
 have hdq:(decide (0≤xb) == decide (cz≤xa))=false:=by rw[← hcz,sub_ok xa xb HR.out HS.out,HI.out]
 obtain⟨-,e0,e1,e2,e3,-⟩:=HX.out
 obtain⟨opa,na,sa,kva,k0,k1,k2,k3,c⟩:=wyk HKa T2 1 ha (okW_eq rfl (by decide) (by decide))
 go_enter func133,ntmps133
 go_wp2_with fail
 refine c.mono ?_
 rintro e w3 ⟨rfl,b⟩
 obtain⟨w4,hw4,HVa,d⟩:=vbl w3 1 xa ta
 have T4:=hid (below_to T2.out (below_to b d))
 clear e0 e1 e2 e3 c d b k0 k1 k2 k3
 obtain⟨-,e0,e1,e2,e3,-⟩:=HX.out.later T4.out
 obtain⟨-,a0,a1,a2⟩:=HVa.out
 obtain⟨opb,nb,sb,kvb,k0,k1,k2,k3,c⟩:=wyk HKb T4 1 hb (okW_eq rfl (by decide) (by decide))
 go_wp2_with fail
 refine c.mono ?_
 rintro e w5 ⟨rfl,b⟩
 obtain⟨w6,hw6,HVb,d⟩:=vbl w5 1 xb tb
 have T6:=hid (below_to T4.out (below_to b d))
 have UaT6:=hid (below_to b d)
 clear e0 e1 e2 e3 a0 a1 a2 c d b k0 k1 k2 k3
 obtain⟨-,e0,e1,e2,e3,-⟩:=HX.out.later T6.out
 obtain⟨-,a0,a1,a2⟩:=HVa.out.later UaT6.out
 obtain⟨-,b0,b1,b2⟩:=HVb.out
 have c:Calls prog 211 #[.int .i64 1] w6 fun e w'=>e=.returned (V3 4 1 ⟨#[]⟩)∧Below w6.heap.size w6 w':=rbad_any 1 w6
 go_wp2_with fail
 refine c.mono ?_
 rintro e w7 ⟨rfl,b7⟩
 have T7:=hid (below_to T6.out b7)
 have UaT7:=hid (below_to UaT6.out b7)
 have UbT7:=hid b7
 clear e0 e1 e2 e3 a0 a1 a2 b0 b1 b2 c b7
 obtain⟨-,e0,e1,e2,e3,-⟩:=HX.out.later T7.out
 obtain⟨-,a0,a1,a2⟩:=HVa.out.later UaT7.out
 obtain⟨-,b0,b1,b2⟩:=HVb.out.later UbT7.out
 obtain⟨z0,z1,z2,f0,f1,f2,B9⟩:=fin_at HB T7 G1 HZ 4 1 ⟨#[]⟩
 go_wp2_with fail
 exact bodyPost_ret (v:=V3 4 1 ⟨#[]⟩) (by simp[results,results133,go_sem, *]) rfl ⟨by rw[HE.out],B9.out⟩
theorem rcount_mul0 (g gk o cap:Nat) (n:Int) (s:ByteArray) (a b:Va) (w:World) (ha:a.ok) (xa:RKid g w gk (o) a) (hb:b.ok) (xb:RKid g w gk (o+4) b) (hk:a.k≠1) :
  Calls prog 133 #[.pointer (some ⟨g,0,none⟩),.agg #[.int .i64 9,.int .i64 n,.string s,.slice (some ⟨gk,o,none⟩) 2 cap]] w (RCom w (wantV 1 a (wantV 1 b (numOp 9 a.n b.n)))):=by
 generalize hPV:wantV 1 a (wantV 1 b (numOp 9 a.n b.n))=PV
 have HPV:=hid hPV
 clear hPV
 obtain⟨w1,w2,hw1,hw2,G1,HB,HZ,HX⟩:=ent w 9 n s (.slice (some ⟨gk,o,none⟩) 2 cap)
 have HKa:=hid (xa.later HB.out)
 have HKb:=hid (xb.later HB.out)
 have T2:=hid (Below.refl w2.heap.size w2)
 clear xa xb
 obtain⟨ka,xa,ta⟩:=a
 obtain⟨kb,xb,tb⟩:=b
 try dsimp only at *
 obtain⟨-,e0,e1,e2,e3,-⟩:=HX.out
 obtain⟨Aa,HAa,opa,na,sa,kva,k0,k1,k2,k3,c⟩:=wnk HKa T2 1 (okW_ne hk (by decide))
 go_enter func133,ntmps133
 go_wp2_with fail
 refine c.mono ?_
 rintro e w3 ⟨rfl,b⟩
 obtain⟨w4,hw4,HVa,d⟩:=vbl w3 Aa.k Aa.n Aa.s
 have T4:=hid (below_to T2.out (below_to b d))
 clear e0 e1 e2 e3 c d b k0 k1 k2 k3
 obtain⟨-,e0,e1,e2,e3,-⟩:=HX.out.later T4.out
 obtain⟨-,a0,a1,a2⟩:=HVa.out
 obtain⟨z0,z1,z2,f0,f1,f2,B9⟩:=fin_at HB T4 G1 HZ Aa.k Aa.n ⟨Aa.s.toArray⟩
 go_wp2_with fail
 exact bodyPost_ret (v:=V3 Aa.k Aa.n ⟨Aa.s.toArray⟩) (by simp[results,results133,go_sem, *]) rfl ⟨by rw[← HPV.out,want_n hk,HAa.out],B9.out⟩
theorem rcount_mulB (g gk o cap:Nat) (n:Int) (s:ByteArray) (a b:Va) (w:World) (ha:a.ok) (xa:RKid g w gk (o) a) (hb:b.ok) (xb:RKid g w gk (o+4) b) (hk:a.k=1) (hl:b.k≠1) :
  Calls prog 133 #[.pointer (some ⟨g,0,none⟩),.agg #[.int .i64 9,.int .i64 n,.string s,.slice (some ⟨gk,o,none⟩) 2 cap]] w (RCom w (wantV 1 a (wantV 1 b (numOp 9 a.n b.n)))):=by
 generalize hPV:wantV 1 a (wantV 1 b (numOp 9 a.n b.n))=PV
 have HPV:=hid hPV
 clear hPV
 obtain⟨w1,w2,hw1,hw2,G1,HB,HZ,HX⟩:=ent w 9 n s (.slice (some ⟨gk,o,none⟩) 2 cap)
 have HKa:=hid (xa.later HB.out)
 have HKb:=hid (xb.later HB.out)
 have T2:=hid (Below.refl w2.heap.size w2)
 clear xa xb
 obtain⟨ka,xa,ta⟩:=a
 obtain⟨kb,xb,tb⟩:=b
 try dsimp only at *
 subst hk
 obtain⟨-,e0,e1,e2,e3,-⟩:=HX.out
 obtain⟨opa,na,sa,kva,k0,k1,k2,k3,c⟩:=wyk HKa T2 1 ha (okW_eq rfl (by decide) (by decide))
 go_enter func133,ntmps133
 go_wp2_with fail
 refine c.mono ?_
 rintro e w3 ⟨rfl,b⟩
 obtain⟨w4,hw4,HVa,d⟩:=vbl w3 1 xa ta
 have T4:=hid (below_to T2.out (below_to b d))
 clear e0 e1 e2 e3 c d b k0 k1 k2 k3
 obtain⟨-,e0,e1,e2,e3,-⟩:=HX.out.later T4.out
 obtain⟨-,a0,a1,a2⟩:=HVa.out
 obtain⟨Ab,HAb,opb,nb,sb,kvb,k0,k1,k2,k3,c⟩:=wnk HKb T4 1 (okW_ne hl (by decide))
 go_wp2_with fail
 refine c.mono ?_
 rintro e w5 ⟨rfl,b⟩
 obtain⟨w6,hw6,HVb,d⟩:=vbl w5 Ab.k Ab.n Ab.s
 have T6:=hid (below_to T4.out (below_to b d))
 have UaT6:=hid (below_to b d)
 clear e0 e1 e2 e3 a0 a1 a2 c d b k0 k1 k2 k3
 obtain⟨-,e0,e1,e2,e3,-⟩:=HX.out.later T6.out
 obtain⟨-,a0,a1,a2⟩:=HVa.out.later UaT6.out
 obtain⟨-,b0,b1,b2⟩:=HVb.out
 obtain⟨z0,z1,z2,f0,f1,f2,B9⟩:=fin_at HB T6 G1 HZ Ab.k Ab.n ⟨Ab.s.toArray⟩
 go_wp2_with fail
 exact bodyPost_ret (v:=V3 Ab.k Ab.n ⟨Ab.s.toArray⟩) (by simp[results,results133,go_sem, *]) rfl ⟨by rw[← HPV.out,want_y (K:=1) (a:=⟨1,xa,ta⟩) rfl,want_n hl,HAb.out],B9.out⟩
theorem rcount_mul1 (g gk o cap:Nat) (n:Int) (s:ByteArray) (a b:Va) (w:World) (ha:a.ok) (xa:RKid g w gk (o) a) (hb:b.ok) (xb:RKid g w gk (o+4) b) (hk:a.k=1) (hl:b.k=1) (hz:inZ (a.n * b.n)=true) :
  Calls prog 133 #[.pointer (some ⟨g,0,none⟩),.agg #[.int .i64 9,.int .i64 n,.string s,.slice (some ⟨gk,o,none⟩) 2 cap]] w (RCom w (wantV 1 a (wantV 1 b (numOp 9 a.n b.n)))):=by
 generalize hPV:wantV 1 a (wantV 1 b (numOp 9 a.n b.n))=PV
 have HPV:=hid hPV
 clear hPV
 obtain⟨w1,w2,hw1,hw2,G1,HB,HZ,HX⟩:=ent w 9 n s (.slice (some ⟨gk,o,none⟩) 2 cap)
 have HKa:=hid (xa.later HB.out)
 have HKb:=hid (xb.later HB.out)
 have T2:=hid (Below.refl w2.heap.size w2)
 clear xa xb
 have HE:=hid (HPV.out.symm.trans (show wantV 1 a (wantV 1 b (numOp 9 a.n b.n))=⟨1,a.n * b.n,[]⟩ by rw[want_y hk,want_y hl,show numOp 9 a.n b.n=numV (a.n * b.n) by rfl];exact nv_i hz))
 have HR:=hid ha.2
 have HS:=hid hb.2
 have HI:=hid hz
 clear hz
 obtain⟨ka,xa,ta⟩:=a
 obtain⟨kb,xb,tb⟩:=b
 try dsimp only at *
 subst hk
 subst hl
 obtain⟨-,e0,e1,e2,e3,-⟩:=HX.out
 obtain⟨opa,na,sa,kva,k0,k1,k2,k3,c⟩:=wyk HKa T2 1 ha (okW_eq rfl (by decide) (by decide))
 go_enter func133,ntmps133
 go_wp2_with fail
 refine c.mono ?_
 rintro e w3 ⟨rfl,b⟩
 obtain⟨w4,hw4,HVa,d⟩:=vbl w3 1 xa ta
 have T4:=hid (below_to T2.out (below_to b d))
 clear e0 e1 e2 e3 c d b k0 k1 k2 k3
 obtain⟨-,e0,e1,e2,e3,-⟩:=HX.out.later T4.out
 obtain⟨-,a0,a1,a2⟩:=HVa.out
 obtain⟨opb,nb,sb,kvb,k0,k1,k2,k3,c⟩:=wyk HKb T4 1 hb (okW_eq rfl (by decide) (by decide))
 go_wp2_with fail
 refine c.mono ?_
 rintro e w5 ⟨rfl,b⟩
 obtain⟨w6,hw6,HVb,d⟩:=vbl w5 1 xb tb
 have T6:=hid (below_to T4.out (below_to b d))
 have UaT6:=hid (below_to b d)
 clear e0 e1 e2 e3 a0 a1 a2 c d b k0 k1 k2 k3
 obtain⟨-,e0,e1,e2,e3,-⟩:=HX.out.later T6.out
 obtain⟨-,a0,a1,a2⟩:=HVa.out.later UaT6.out
 obtain⟨-,b0,b1,b2⟩:=HVb.out
 have c:Calls prog 216 #[.int .i64 xa,.int .i64 xb] w6 (Res2 (xa * xb) w6):=rproduct_any xa xb w6 HR.out HS.out
 unfold Res2 at c
 rw[HI.out] at c
 go_wp2_with fail
 refine c.mono ?_
 rintro e w7 ⟨cz,rfl,rfl,hcz⟩
 have HCZ:=hid (hcz (by trivial))
 clear hcz
 clear e0 e1 e2 e3 a0 a1 a2 b0 b1 b2 c
 obtain⟨-,e0,e1,e2,e3,-⟩:=HX.out.later T6.out
 obtain⟨-,a0,a1,a2⟩:=HVa.out.later UaT6.out
 obtain⟨-,b0,b1,b2⟩:=HVb.out
 have c:Calls prog 127 #[.int .i64 cz] w6 fun e w'=>e=.returned (V3 1 cz ⟨#[]⟩)∧Below w6.heap.size w6 w':=rnum_any cz w6
 go_wp2_with fail
 refine c.mono ?_
 rintro e w7 ⟨rfl,b7⟩
 have T7:=hid (below_to T6.out b7)
 have UaT7:=hid (below_to UaT6.out b7)
 have UbT7:=hid b7
 clear e0 e1 e2 e3 a0 a1 a2 b0 b1 b2 c b7
 obtain⟨-,e0,e1,e2,e3,-⟩:=HX.out.later T7.out
 obtain⟨-,a0,a1,a2⟩:=HVa.out.later UaT7.out
 obtain⟨-,b0,b1,b2⟩:=HVb.out.later UbT7.out
 obtain⟨z0,z1,z2,f0,f1,f2,B9⟩:=fin_at HB T7 G1 HZ 1 cz ⟨#[]⟩
 go_wp2_with fail
 exact bodyPost_ret (v:=V3 1 cz ⟨#[]⟩) (by simp[results,results133,go_sem, *]) rfl ⟨by rw[HE.out,HCZ.out],B9.out⟩
theorem rcount_mul2 (g gk o cap:Nat) (n:Int) (s:ByteArray) (a b:Va) (w:World) (ha:a.ok) (xa:RKid g w gk (o) a) (hb:b.ok) (xb:RKid g w gk (o+4) b) (hk:a.k=1) (hl:b.k=1) (hz:inZ (a.n * b.n)=false) :
  Calls prog 133 #[.pointer (some ⟨g,0,none⟩),.agg #[.int .i64 9,.int .i64 n,.string s,.slice (some ⟨gk,o,none⟩) 2 cap]] w (RCom w (wantV 1 a (wantV 1 b (numOp 9 a.n b.n)))):=by
 generalize hPV:wantV 1 a (wantV 1 b (numOp 9 a.n b.n))=PV
 have HPV:=hid hPV
 clear hPV
 obtain⟨w1,w2,hw1,hw2,G1,HB,HZ,HX⟩:=ent w 9 n s (.slice (some ⟨gk,o,none⟩) 2 cap)
 have HKa:=hid (xa.later HB.out)
 have HKb:=hid (xb.later HB.out)
 have T2:=hid (Below.refl w2.heap.size w2)
 clear xa xb
 have HE:=hid (HPV.out.symm.trans (show wantV 1 a (wantV 1 b (numOp 9 a.n b.n))=⟨4,1,[]⟩ by rw[want_y hk,want_y hl,show numOp 9 a.n b.n=numV (a.n * b.n) by rfl];exact nv_o hz))
 have HR:=hid ha.2
 have HS:=hid hb.2
 have HI:=hid hz
 clear hz
 obtain⟨ka,xa,ta⟩:=a
 obtain⟨kb,xb,tb⟩:=b
 try dsimp only at *
 subst hk
 subst hl
 obtain⟨-,e0,e1,e2,e3,-⟩:=HX.out
 obtain⟨opa,na,sa,kva,k0,k1,k2,k3,c⟩:=wyk HKa T2 1 ha (okW_eq rfl (by decide) (by decide))
 go_enter func133,ntmps133
 go_wp2_with fail
 refine c.mono ?_
 rintro e w3 ⟨rfl,b⟩
 obtain⟨w4,hw4,HVa,d⟩:=vbl w3 1 xa ta
 have T4:=hid (below_to T2.out (below_to b d))
 clear e0 e1 e2 e3 c d b k0 k1 k2 k3
 obtain⟨-,e0,e1,e2,e3,-⟩:=HX.out.later T4.out
 obtain⟨-,a0,a1,a2⟩:=HVa.out
 obtain⟨opb,nb,sb,kvb,k0,k1,k2,k3,c⟩:=wyk HKb T4 1 hb (okW_eq rfl (by decide) (by decide))
 go_wp2_with fail
 refine c.mono ?_
 rintro e w5 ⟨rfl,b⟩
 obtain⟨w6,hw6,HVb,d⟩:=vbl w5 1 xb tb
 have T6:=hid (below_to T4.out (below_to b d))
 have UaT6:=hid (below_to b d)
 clear e0 e1 e2 e3 a0 a1 a2 c d b k0 k1 k2 k3
 obtain⟨-,e0,e1,e2,e3,-⟩:=HX.out.later T6.out
 obtain⟨-,a0,a1,a2⟩:=HVa.out.later UaT6.out
 obtain⟨-,b0,b1,b2⟩:=HVb.out
 have c:Calls prog 216 #[.int .i64 xa,.int .i64 xb] w6 (Res2 (xa * xb) w6):=rproduct_any xa xb w6 HR.out HS.out
 unfold Res2 at c
 rw[HI.out] at c
 go_wp2_with fail
 refine c.mono ?_
 rintro e w7 ⟨cz,rfl,rfl,hcz⟩
 clear hcz
 clear e0 e1 e2 e3 a0 a1 a2 b0 b1 b2 c
 obtain⟨-,e0,e1,e2,e3,-⟩:=HX.out.later T6.out
 obtain⟨-,a0,a1,a2⟩:=HVa.out.later UaT6.out
 obtain⟨-,b0,b1,b2⟩:=HVb.out
 have c:Calls prog 211 #[.int .i64 1] w6 fun e w'=>e=.returned (V3 4 1 ⟨#[]⟩)∧Below w6.heap.size w6 w':=rbad_any 1 w6
 go_wp2_with fail
 refine c.mono ?_
 rintro e w7 ⟨rfl,b7⟩
 have T7:=hid (below_to T6.out b7)
 have UaT7:=hid (below_to UaT6.out b7)
 have UbT7:=hid b7
 clear e0 e1 e2 e3 a0 a1 a2 b0 b1 b2 c b7
 obtain⟨-,e0,e1,e2,e3,-⟩:=HX.out.later T7.out
 obtain⟨-,a0,a1,a2⟩:=HVa.out.later UaT7.out
 obtain⟨-,b0,b1,b2⟩:=HVb.out.later UbT7.out
 obtain⟨z0,z1,z2,f0,f1,f2,B9⟩:=fin_at HB T7 G1 HZ 4 1 ⟨#[]⟩
 go_wp2_with fail
 exact bodyPost_ret (v:=V3 4 1 ⟨#[]⟩) (by simp[results,results133,go_sem, *]) rfl ⟨by rw[HE.out],B9.out⟩
theorem rcount_div0 (g gk o cap:Nat) (n:Int) (s:ByteArray) (a b:Va) (w:World) (ha:a.ok) (xa:RKid g w gk (o) a) (hb:b.ok) (xb:RKid g w gk (o+4) b) (hk:a.k≠1) :
  Calls prog 133 #[.pointer (some ⟨g,0,none⟩),.agg #[.int .i64 10,.int .i64 n,.string s,.slice (some ⟨gk,o,none⟩) 2 cap]] w (RCom w (wantV 1 a (wantV 1 b (numOp 10 a.n b.n)))):=by
 generalize hPV:wantV 1 a (wantV 1 b (numOp 10 a.n b.n))=PV
 have HPV:=hid hPV
 clear hPV
 obtain⟨w1,w2,hw1,hw2,G1,HB,HZ,HX⟩:=ent w 10 n s (.slice (some ⟨gk,o,none⟩) 2 cap)
 have HKa:=hid (xa.later HB.out)
 have HKb:=hid (xb.later HB.out)
 have T2:=hid (Below.refl w2.heap.size w2)
 clear xa xb
 obtain⟨ka,xa,ta⟩:=a
 obtain⟨kb,xb,tb⟩:=b
 try dsimp only at *
 obtain⟨-,e0,e1,e2,e3,-⟩:=HX.out
 obtain⟨Aa,HAa,opa,na,sa,kva,k0,k1,k2,k3,c⟩:=wnk HKa T2 1 (okW_ne hk (by decide))
 go_enter func133,ntmps133
 go_wp2_with fail
 refine c.mono ?_
 rintro e w3 ⟨rfl,b⟩
 obtain⟨w4,hw4,HVa,d⟩:=vbl w3 Aa.k Aa.n Aa.s
 have T4:=hid (below_to T2.out (below_to b d))
 clear e0 e1 e2 e3 c d b k0 k1 k2 k3
 obtain⟨-,e0,e1,e2,e3,-⟩:=HX.out.later T4.out
 obtain⟨-,a0,a1,a2⟩:=HVa.out
 obtain⟨z0,z1,z2,f0,f1,f2,B9⟩:=fin_at HB T4 G1 HZ Aa.k Aa.n ⟨Aa.s.toArray⟩
 go_wp2_with fail
 exact bodyPost_ret (v:=V3 Aa.k Aa.n ⟨Aa.s.toArray⟩) (by simp[results,results133,go_sem, *]) rfl ⟨by rw[← HPV.out,want_n hk,HAa.out],B9.out⟩
theorem rcount_divB (g gk o cap:Nat) (n:Int) (s:ByteArray) (a b:Va) (w:World) (ha:a.ok) (xa:RKid g w gk (o) a) (hb:b.ok) (xb:RKid g w gk (o+4) b) (hk:a.k=1) (hl:b.k≠1) :
  Calls prog 133 #[.pointer (some ⟨g,0,none⟩),.agg #[.int .i64 10,.int .i64 n,.string s,.slice (some ⟨gk,o,none⟩) 2 cap]] w (RCom w (wantV 1 a (wantV 1 b (numOp 10 a.n b.n)))):=by
 generalize hPV:wantV 1 a (wantV 1 b (numOp 10 a.n b.n))=PV
 have HPV:=hid hPV
 clear hPV
 obtain⟨w1,w2,hw1,hw2,G1,HB,HZ,HX⟩:=ent w 10 n s (.slice (some ⟨gk,o,none⟩) 2 cap)
 have HKa:=hid (xa.later HB.out)
 have HKb:=hid (xb.later HB.out)
 have T2:=hid (Below.refl w2.heap.size w2)
 clear xa xb
 obtain⟨ka,xa,ta⟩:=a
 obtain⟨kb,xb,tb⟩:=b
 try dsimp only at *
 subst hk
 obtain⟨-,e0,e1,e2,e3,-⟩:=HX.out
 obtain⟨opa,na,sa,kva,k0,k1,k2,k3,c⟩:=wyk HKa T2 1 ha (okW_eq rfl (by decide) (by decide))
 go_enter func133,ntmps133
 go_wp2_with fail
 refine c.mono ?_
 rintro e w3 ⟨rfl,b⟩
 obtain⟨w4,hw4,HVa,d⟩:=vbl w3 1 xa ta
 have T4:=hid (below_to T2.out (below_to b d))
 clear e0 e1 e2 e3 c d b k0 k1 k2 k3
 obtain⟨-,e0,e1,e2,e3,-⟩:=HX.out.later T4.out
 obtain⟨-,a0,a1,a2⟩:=HVa.out
 obtain⟨Ab,HAb,opb,nb,sb,kvb,k0,k1,k2,k3,c⟩:=wnk HKb T4 1 (okW_ne hl (by decide))
 go_wp2_with fail
 refine c.mono ?_
 rintro e w5 ⟨rfl,b⟩
 obtain⟨w6,hw6,HVb,d⟩:=vbl w5 Ab.k Ab.n Ab.s
 have T6:=hid (below_to T4.out (below_to b d))
 have UaT6:=hid (below_to b d)
 clear e0 e1 e2 e3 a0 a1 a2 c d b k0 k1 k2 k3
 obtain⟨-,e0,e1,e2,e3,-⟩:=HX.out.later T6.out
 obtain⟨-,a0,a1,a2⟩:=HVa.out.later UaT6.out
 obtain⟨-,b0,b1,b2⟩:=HVb.out
 obtain⟨z0,z1,z2,f0,f1,f2,B9⟩:=fin_at HB T6 G1 HZ Ab.k Ab.n ⟨Ab.s.toArray⟩
 go_wp2_with fail
 exact bodyPost_ret (v:=V3 Ab.k Ab.n ⟨Ab.s.toArray⟩) (by simp[results,results133,go_sem, *]) rfl ⟨by rw[← HPV.out,want_y (K:=1) (a:=⟨1,xa,ta⟩) rfl,want_n hl,HAb.out],B9.out⟩
theorem rcount_divZ (g gk o cap:Nat) (n:Int) (s:ByteArray) (a b:Va) (w:World) (ha:a.ok) (xa:RKid g w gk (o) a) (hb:b.ok) (xb:RKid g w gk (o+4) b) (hk:a.k=1) (hl:b.k=1) (hz:b.n=0) :
  Calls prog 133 #[.pointer (some ⟨g,0,none⟩),.agg #[.int .i64 10,.int .i64 n,.string s,.slice (some ⟨gk,o,none⟩) 2 cap]] w (RCom w (wantV 1 a (wantV 1 b (numOp 10 a.n b.n)))):=by
 generalize hPV:wantV 1 a (wantV 1 b (numOp 10 a.n b.n))=PV
 have HPV:=hid hPV
 clear hPV
 obtain⟨w1,w2,hw1,hw2,G1,HB,HZ,HX⟩:=ent w 10 n s (.slice (some ⟨gk,o,none⟩) 2 cap)
 have HKa:=hid (xa.later HB.out)
 have HKb:=hid (xb.later HB.out)
 have T2:=hid (Below.refl w2.heap.size w2)
 clear xa xb
 have HE:=hid (HPV.out.symm.trans (show wantV 1 a (wantV 1 b (numOp 10 a.n b.n))=⟨4,2,[]⟩ by rw[want_y hk,want_y hl];unfold numOp;simp[hz,badV]))
 obtain⟨ka,xa,ta⟩:=a
 obtain⟨kb,xb,tb⟩:=b
 try dsimp only at *
 subst hk
 subst hl
 subst hz
 obtain⟨-,e0,e1,e2,e3,-⟩:=HX.out
 obtain⟨opa,na,sa,kva,k0,k1,k2,k3,c⟩:=wyk HKa T2 1 ha (okW_eq rfl (by decide) (by decide))
 go_enter func133,ntmps133
 go_wp2_with fail
 refine c.mono ?_
 rintro e w3 ⟨rfl,b⟩
 obtain⟨w4,hw4,HVa,d⟩:=vbl w3 1 xa ta
 have T4:=hid (below_to T2.out (below_to b d))
 clear e0 e1 e2 e3 c d b k0 k1 k2 k3
 obtain⟨-,e0,e1,e2,e3,-⟩:=HX.out.later T4.out
 obtain⟨-,a0,a1,a2⟩:=HVa.out
 obtain⟨opb,nb,sb,kvb,k0,k1,k2,k3,c⟩:=wyk HKb T4 1 hb (okW_eq rfl (by decide) (by decide))
 go_wp2_with fail
 refine c.mono ?_
 rintro e w5 ⟨rfl,b⟩
 obtain⟨w6,hw6,HVb,d⟩:=vbl w5 1 0 tb
 have T6:=hid (below_to T4.out (below_to b d))
 have UaT6:=hid (below_to b d)
 clear e0 e1 e2 e3 a0 a1 a2 c d b k0 k1 k2 k3
 obtain⟨-,e0,e1,e2,e3,-⟩:=HX.out.later T6.out
 obtain⟨-,a0,a1,a2⟩:=HVa.out.later UaT6.out
 obtain⟨-,b0,b1,b2⟩:=HVb.out
 have c:Calls prog 211 #[.int .i64 2] w6 fun e w'=>e=.returned (V3 4 2 ⟨#[]⟩)∧Below w6.heap.size w6 w':=rbad_any 2 w6
 go_wp2_with fail
 refine c.mono ?_
 rintro e w7 ⟨rfl,b7⟩
 have T7:=hid (below_to T6.out b7)
 have UaT7:=hid (below_to UaT6.out b7)
 have UbT7:=hid b7
 clear e0 e1 e2 e3 a0 a1 a2 b0 b1 b2 c b7
 obtain⟨-,e0,e1,e2,e3,-⟩:=HX.out.later T7.out
 obtain⟨-,a0,a1,a2⟩:=HVa.out.later UaT7.out
 obtain⟨-,b0,b1,b2⟩:=HVb.out.later UbT7.out
 obtain⟨z0,z1,z2,f0,f1,f2,B9⟩:=fin_at HB T7 G1 HZ 4 2 ⟨#[]⟩
 go_wp2_with fail
 exact bodyPost_ret (v:=V3 4 2 ⟨#[]⟩) (by simp[results,results133,go_sem, *]) rfl ⟨by rw[HE.out],B9.out⟩
theorem rcount_divM1 (g gk o cap:Nat) (n:Int) (s:ByteArray) (a b:Va) (w:World) (ha:a.ok) (xa:RKid g w gk (o) a) (hb:b.ok) (xb:RKid g w gk (o+4) b) (hk:a.k=1) (hl:b.k=1) (hm:b.n=-1) (hz:inZ (a.n * -1)=true) :
  Calls prog 133 #[.pointer (some ⟨g,0,none⟩),.agg #[.int .i64 10,.int .i64 n,.string s,.slice (some ⟨gk,o,none⟩) 2 cap]] w (RCom w (wantV 1 a (wantV 1 b (numOp 10 a.n b.n)))):=by
 generalize hPV:wantV 1 a (wantV 1 b (numOp 10 a.n b.n))=PV
 have HPV:=hid hPV
 clear hPV
 obtain⟨w1,w2,hw1,hw2,G1,HB,HZ,HX⟩:=ent w 10 n s (.slice (some ⟨gk,o,none⟩) 2 cap)
 have HKa:=hid (xa.later HB.out)
 have HKb:=hid (xb.later HB.out)
 have T2:=hid (Below.refl w2.heap.size w2)
 clear xa xb
 have HE:=hid (HPV.out.symm.trans (show wantV 1 a (wantV 1 b (numOp 10 a.n b.n))=⟨1,a.n * -1,[]⟩ by rw[want_y hk,want_y hl,show numOp 10 a.n b.n=numV (a.n * -1) by unfold numOp;simp[hm,Int.tdiv_neg,Int.tdiv_one]];exact nv_i hz))
 have HR:=hid ha.2
 have HI:=hid hz
 clear hz
 obtain⟨ka,xa,ta⟩:=a
 obtain⟨kb,xb,tb⟩:=b
 try dsimp only at *
 subst hk
 subst hl
 subst hm
 obtain⟨-,e0,e1,e2,e3,-⟩:=HX.out
 obtain⟨opa,na,sa,kva,k0,k1,k2,k3,c⟩:=wyk HKa T2 1 ha (okW_eq rfl (by decide) (by decide))
 go_enter func133,ntmps133
 go_wp2_with fail
 refine c.mono ?_
 rintro e w3 ⟨rfl,b⟩
 obtain⟨w4,hw4,HVa,d⟩:=vbl w3 1 xa ta
 have T4:=hid (below_to T2.out (below_to b d))
 clear e0 e1 e2 e3 c d b k0 k1 k2 k3
 obtain⟨-,e0,e1,e2,e3,-⟩:=HX.out.later T4.out
 obtain⟨-,a0,a1,a2⟩:=HVa.out
 obtain⟨opb,nb,sb,kvb,k0,k1,k2,k3,c⟩:=wyk HKb T4 1 hb (okW_eq rfl (by decide) (by decide))
 go_wp2_with fail
 refine c.mono ?_
 rintro e w5 ⟨rfl,b⟩
 obtain⟨w6,hw6,HVb,d⟩:=vbl w5 1 (-1) tb
 have T6:=hid (below_to T4.out (below_to b d))
 have UaT6:=hid (below_to b d)
 clear e0 e1 e2 e3 a0 a1 a2 c d b k0 k1 k2 k3
 obtain⟨-,e0,e1,e2,e3,-⟩:=HX.out.later T6.out
 obtain⟨-,a0,a1,a2⟩:=HVa.out.later UaT6.out
 obtain⟨-,b0,b1,b2⟩:=HVb.out
 have c:Calls prog 216 #[.int .i64 xa,.int .i64 (-1)] w6 (Res2 (xa * -1) w6):=rproduct_any xa (-1) w6 HR.out (by decide)
 unfold Res2 at c
 rw[HI.out] at c
 go_wp2_with fail
 refine c.mono ?_
 rintro e w7 ⟨cz,rfl,rfl,hcz⟩
 have HCZ:=hid (hcz (by trivial))
 clear hcz
 clear e0 e1 e2 e3 a0 a1 a2 b0 b1 b2 c
 obtain⟨-,e0,e1,e2,e3,-⟩:=HX.out.later T6.out
 obtain⟨-,a0,a1,a2⟩:=HVa.out.later UaT6.out
 obtain⟨-,b0,b1,b2⟩:=HVb.out
 have c:Calls prog 127 #[.int .i64 cz] w6 fun e w'=>e=.returned (V3 1 cz ⟨#[]⟩)∧Below w6.heap.size w6 w':=rnum_any cz w6
 go_wp2_with fail
 refine c.mono ?_
 rintro e w7 ⟨rfl,b7⟩
 have T7:=hid (below_to T6.out b7)
 have UaT7:=hid (below_to UaT6.out b7)
 have UbT7:=hid b7
 clear e0 e1 e2 e3 a0 a1 a2 b0 b1 b2 c b7
 obtain⟨-,e0,e1,e2,e3,-⟩:=HX.out.later T7.out
 obtain⟨-,a0,a1,a2⟩:=HVa.out.later UaT7.out
 obtain⟨-,b0,b1,b2⟩:=HVb.out.later UbT7.out
 obtain⟨z0,z1,z2,f0,f1,f2,B9⟩:=fin_at HB T7 G1 HZ 1 cz ⟨#[]⟩
 go_wp2_with fail
 exact bodyPost_ret (v:=V3 1 cz ⟨#[]⟩) (by simp[results,results133,go_sem, *]) rfl ⟨by rw[HE.out,HCZ.out],B9.out⟩
theorem rcount_divM2 (g gk o cap:Nat) (n:Int) (s:ByteArray) (a b:Va) (w:World) (ha:a.ok) (xa:RKid g w gk (o) a) (hb:b.ok) (xb:RKid g w gk (o+4) b) (hk:a.k=1) (hl:b.k=1) (hm:b.n=-1) (hz:inZ (a.n * -1)=false) :
  Calls prog 133 #[.pointer (some ⟨g,0,none⟩),.agg #[.int .i64 10,.int .i64 n,.string s,.slice (some ⟨gk,o,none⟩) 2 cap]] w (RCom w (wantV 1 a (wantV 1 b (numOp 10 a.n b.n)))):=by
 generalize hPV:wantV 1 a (wantV 1 b (numOp 10 a.n b.n))=PV
 have HPV:=hid hPV
 clear hPV
 obtain⟨w1,w2,hw1,hw2,G1,HB,HZ,HX⟩:=ent w 10 n s (.slice (some ⟨gk,o,none⟩) 2 cap)
 have HKa:=hid (xa.later HB.out)
 have HKb:=hid (xb.later HB.out)
 have T2:=hid (Below.refl w2.heap.size w2)
 clear xa xb
 have HE:=hid (HPV.out.symm.trans (show wantV 1 a (wantV 1 b (numOp 10 a.n b.n))=⟨4,1,[]⟩ by rw[want_y hk,want_y hl,show numOp 10 a.n b.n=numV (a.n * -1) by unfold numOp;simp[hm,Int.tdiv_neg,Int.tdiv_one]];exact nv_o hz))
 have HR:=hid ha.2
 have HI:=hid hz
 clear hz
 obtain⟨ka,xa,ta⟩:=a
 obtain⟨kb,xb,tb⟩:=b
 try dsimp only at *
 subst hk
 subst hl
 subst hm
 obtain⟨-,e0,e1,e2,e3,-⟩:=HX.out
 obtain⟨opa,na,sa,kva,k0,k1,k2,k3,c⟩:=wyk HKa T2 1 ha (okW_eq rfl (by decide) (by decide))
 go_enter func133,ntmps133
 go_wp2_with fail
 refine c.mono ?_
 rintro e w3 ⟨rfl,b⟩
 obtain⟨w4,hw4,HVa,d⟩:=vbl w3 1 xa ta
 have T4:=hid (below_to T2.out (below_to b d))
 clear e0 e1 e2 e3 c d b k0 k1 k2 k3
 obtain⟨-,e0,e1,e2,e3,-⟩:=HX.out.later T4.out
 obtain⟨-,a0,a1,a2⟩:=HVa.out
 obtain⟨opb,nb,sb,kvb,k0,k1,k2,k3,c⟩:=wyk HKb T4 1 hb (okW_eq rfl (by decide) (by decide))
 go_wp2_with fail
 refine c.mono ?_
 rintro e w5 ⟨rfl,b⟩
 obtain⟨w6,hw6,HVb,d⟩:=vbl w5 1 (-1) tb
 have T6:=hid (below_to T4.out (below_to b d))
 have UaT6:=hid (below_to b d)
 clear e0 e1 e2 e3 a0 a1 a2 c d b k0 k1 k2 k3
 obtain⟨-,e0,e1,e2,e3,-⟩:=HX.out.later T6.out
 obtain⟨-,a0,a1,a2⟩:=HVa.out.later UaT6.out
 obtain⟨-,b0,b1,b2⟩:=HVb.out
 have c:Calls prog 216 #[.int .i64 xa,.int .i64 (-1)] w6 (Res2 (xa * -1) w6):=rproduct_any xa (-1) w6 HR.out (by decide)
 unfold Res2 at c
 rw[HI.out] at c
 go_wp2_with fail
 refine c.mono ?_
 rintro e w7 ⟨cz,rfl,rfl,hcz⟩
 clear hcz
 clear e0 e1 e2 e3 a0 a1 a2 b0 b1 b2 c
 obtain⟨-,e0,e1,e2,e3,-⟩:=HX.out.later T6.out
 obtain⟨-,a0,a1,a2⟩:=HVa.out.later UaT6.out
 obtain⟨-,b0,b1,b2⟩:=HVb.out
 have c:Calls prog 211 #[.int .i64 1] w6 fun e w'=>e=.returned (V3 4 1 ⟨#[]⟩)∧Below w6.heap.size w6 w':=rbad_any 1 w6
 go_wp2_with fail
 refine c.mono ?_
 rintro e w7 ⟨rfl,b7⟩
 have T7:=hid (below_to T6.out b7)
 have UaT7:=hid (below_to UaT6.out b7)
 have UbT7:=hid b7
 clear e0 e1 e2 e3 a0 a1 a2 b0 b1 b2 c b7
 obtain⟨-,e0,e1,e2,e3,-⟩:=HX.out.later T7.out
 obtain⟨-,a0,a1,a2⟩:=HVa.out.later UaT7.out
 obtain⟨-,b0,b1,b2⟩:=HVb.out.later UbT7.out
 obtain⟨z0,z1,z2,f0,f1,f2,B9⟩:=fin_at HB T7 G1 HZ 4 1 ⟨#[]⟩
 go_wp2_with fail
 exact bodyPost_ret (v:=V3 4 1 ⟨#[]⟩) (by simp[results,results133,go_sem, *]) rfl ⟨by rw[HE.out],B9.out⟩
theorem rcount_div1 (g gk o cap:Nat) (n:Int) (s:ByteArray) (a b:Va) (w:World) (ha:a.ok) (xa:RKid g w gk (o) a) (hb:b.ok) (xb:RKid g w gk (o+4) b) (hk:a.k=1) (hl:b.k=1) (hz:b.n≠0) (hm:b.n≠-1) :
  Calls prog 133 #[.pointer (some ⟨g,0,none⟩),.agg #[.int .i64 10,.int .i64 n,.string s,.slice (some ⟨gk,o,none⟩) 2 cap]] w (RCom w (wantV 1 a (wantV 1 b (numOp 10 a.n b.n)))):=by
 generalize hPV:wantV 1 a (wantV 1 b (numOp 10 a.n b.n))=PV
 have HPV:=hid hPV
 clear hPV
 obtain⟨w1,w2,hw1,hw2,G1,HB,HZ,HX⟩:=ent w 10 n s (.slice (some ⟨gk,o,none⟩) 2 cap)
 have HKa:=hid (xa.later HB.out)
 have HKb:=hid (xb.later HB.out)
 have T2:=hid (Below.refl w2.heap.size w2)
 clear xa xb
 have hr:=quo_in (a:=a.n) (b:=b.n) ha.2 hz (fun h=>hm h.2)
 have HE:=hid (HPV.out.symm.trans (show wantV 1 a (wantV 1 b (numOp 10 a.n b.n))=⟨1,Int.tdiv a.n b.n,[]⟩ by rw[want_y hk,want_y hl,show numOp 10 a.n b.n=numV (Int.tdiv a.n b.n) by unfold numOp;simp[hz]];exact nv_i (decide_eq_true hr)))
 have hbz:(b.n == 0)=false:=by simp[hz]
 have hbm:(b.n == -1)=false:=by simp[hm]
 have hwz:wrap64 (Int.tdiv a.n b.n)=Int.tdiv a.n b.n:=by unfold wrap64;omega
 have hnz:¬ b.n=0:=hz
 clear hr
 obtain⟨ka,xa,ta⟩:=a
 obtain⟨kb,xb,tb⟩:=b
 try dsimp only at *
 subst hk
 subst hl
 obtain⟨-,e0,e1,e2,e3,-⟩:=HX.out
 obtain⟨opa,na,sa,kva,k0,k1,k2,k3,c⟩:=wyk HKa T2 1 ha (okW_eq rfl (by decide) (by decide))
 go_enter func133,ntmps133
 go_wp2_with fail
 refine c.mono ?_
 rintro e w3 ⟨rfl,b⟩
 obtain⟨w4,hw4,HVa,d⟩:=vbl w3 1 xa ta
 have T4:=hid (below_to T2.out (below_to b d))
 clear e0 e1 e2 e3 c d b k0 k1 k2 k3
 obtain⟨-,e0,e1,e2,e3,-⟩:=HX.out.later T4.out
 obtain⟨-,a0,a1,a2⟩:=HVa.out
 obtain⟨opb,nb,sb,kvb,k0,k1,k2,k3,c⟩:=wyk HKb T4 1 hb (okW_eq rfl (by decide) (by decide))
 go_wp2_with fail
 refine c.mono ?_
 rintro e w5 ⟨rfl,b⟩
 obtain⟨w6,hw6,HVb,d⟩:=vbl w5 1 xb tb
 have T6:=hid (below_to T4.out (below_to b d))
 have UaT6:=hid (below_to b d)
 clear e0 e1 e2 e3 a0 a1 a2 c d b k0 k1 k2 k3
 obtain⟨-,e0,e1,e2,e3,-⟩:=HX.out.later T6.out
 obtain⟨-,a0,a1,a2⟩:=HVa.out.later UaT6.out
 obtain⟨-,b0,b1,b2⟩:=HVb.out
 have c:Calls prog 127 #[.int .i64 (Int.tdiv xa xb)] w6 fun e w'=>e=.returned (V3 1 (Int.tdiv xa xb) ⟨#[]⟩)∧Below w6.heap.size w6 w':=rnum_any (Int.tdiv xa xb) w6
 go_wp2_with fail
 refine c.mono ?_
 rintro e w7 ⟨rfl,b7⟩
 have T7:=hid (below_to T6.out b7)
 have UaT7:=hid (below_to UaT6.out b7)
 have UbT7:=hid b7
 clear e0 e1 e2 e3 a0 a1 a2 b0 b1 b2 c b7
 obtain⟨-,e0,e1,e2,e3,-⟩:=HX.out.later T7.out
 obtain⟨-,a0,a1,a2⟩:=HVa.out.later UaT7.out
 obtain⟨-,b0,b1,b2⟩:=HVb.out.later UbT7.out
 obtain⟨z0,z1,z2,f0,f1,f2,B9⟩:=fin_at HB T7 G1 HZ 1 (Int.tdiv xa xb) ⟨#[]⟩
 go_wp2_with fail
 exact bodyPost_ret (v:=V3 1 (Int.tdiv xa xb) ⟨#[]⟩) (by simp[results,results133,go_sem, *]) rfl ⟨by rw[HE.out],B9.out⟩
theorem rcount_mod0 (g gk o cap:Nat) (n:Int) (s:ByteArray) (a b:Va) (w:World) (ha:a.ok) (xa:RKid g w gk (o) a) (hb:b.ok) (xb:RKid g w gk (o+4) b) (hk:a.k≠1) :
  Calls prog 133 #[.pointer (some ⟨g,0,none⟩),.agg #[.int .i64 11,.int .i64 n,.string s,.slice (some ⟨gk,o,none⟩) 2 cap]] w (RCom w (wantV 1 a (wantV 1 b (numOp 11 a.n b.n)))):=by
 generalize hPV:wantV 1 a (wantV 1 b (numOp 11 a.n b.n))=PV
 have HPV:=hid hPV
 clear hPV
 obtain⟨w1,w2,hw1,hw2,G1,HB,HZ,HX⟩:=ent w 11 n s (.slice (some ⟨gk,o,none⟩) 2 cap)
 have HKa:=hid (xa.later HB.out)
 have HKb:=hid (xb.later HB.out)
 have T2:=hid (Below.refl w2.heap.size w2)
 clear xa xb
 obtain⟨ka,xa,ta⟩:=a
 obtain⟨kb,xb,tb⟩:=b
 try dsimp only at *
 obtain⟨-,e0,e1,e2,e3,-⟩:=HX.out
 obtain⟨Aa,HAa,opa,na,sa,kva,k0,k1,k2,k3,c⟩:=wnk HKa T2 1 (okW_ne hk (by decide))
 go_enter func133,ntmps133
 go_wp2_with fail
 refine c.mono ?_
 rintro e w3 ⟨rfl,b⟩
 obtain⟨w4,hw4,HVa,d⟩:=vbl w3 Aa.k Aa.n Aa.s
 have T4:=hid (below_to T2.out (below_to b d))
 clear e0 e1 e2 e3 c d b k0 k1 k2 k3
 obtain⟨-,e0,e1,e2,e3,-⟩:=HX.out.later T4.out
 obtain⟨-,a0,a1,a2⟩:=HVa.out
 obtain⟨z0,z1,z2,f0,f1,f2,B9⟩:=fin_at HB T4 G1 HZ Aa.k Aa.n ⟨Aa.s.toArray⟩
 go_wp2_with fail
 exact bodyPost_ret (v:=V3 Aa.k Aa.n ⟨Aa.s.toArray⟩) (by simp[results,results133,go_sem, *]) rfl ⟨by rw[← HPV.out,want_n hk,HAa.out],B9.out⟩
theorem rcount_modB (g gk o cap:Nat) (n:Int) (s:ByteArray) (a b:Va) (w:World) (ha:a.ok) (xa:RKid g w gk (o) a) (hb:b.ok) (xb:RKid g w gk (o+4) b) (hk:a.k=1) (hl:b.k≠1) :
  Calls prog 133 #[.pointer (some ⟨g,0,none⟩),.agg #[.int .i64 11,.int .i64 n,.string s,.slice (some ⟨gk,o,none⟩) 2 cap]] w (RCom w (wantV 1 a (wantV 1 b (numOp 11 a.n b.n)))):=by
 generalize hPV:wantV 1 a (wantV 1 b (numOp 11 a.n b.n))=PV
 have HPV:=hid hPV
 clear hPV
 obtain⟨w1,w2,hw1,hw2,G1,HB,HZ,HX⟩:=ent w 11 n s (.slice (some ⟨gk,o,none⟩) 2 cap)
 have HKa:=hid (xa.later HB.out)
 have HKb:=hid (xb.later HB.out)
 have T2:=hid (Below.refl w2.heap.size w2)
 clear xa xb
 obtain⟨ka,xa,ta⟩:=a
 obtain⟨kb,xb,tb⟩:=b
 try dsimp only at *
 subst hk
 obtain⟨-,e0,e1,e2,e3,-⟩:=HX.out
 obtain⟨opa,na,sa,kva,k0,k1,k2,k3,c⟩:=wyk HKa T2 1 ha (okW_eq rfl (by decide) (by decide))
 go_enter func133,ntmps133
 go_wp2_with fail
 refine c.mono ?_
 rintro e w3 ⟨rfl,b⟩
 obtain⟨w4,hw4,HVa,d⟩:=vbl w3 1 xa ta
 have T4:=hid (below_to T2.out (below_to b d))
 clear e0 e1 e2 e3 c d b k0 k1 k2 k3
 obtain⟨-,e0,e1,e2,e3,-⟩:=HX.out.later T4.out
 obtain⟨-,a0,a1,a2⟩:=HVa.out
 obtain⟨Ab,HAb,opb,nb,sb,kvb,k0,k1,k2,k3,c⟩:=wnk HKb T4 1 (okW_ne hl (by decide))
 go_wp2_with fail
 refine c.mono ?_
 rintro e w5 ⟨rfl,b⟩
 obtain⟨w6,hw6,HVb,d⟩:=vbl w5 Ab.k Ab.n Ab.s
 have T6:=hid (below_to T4.out (below_to b d))
 have UaT6:=hid (below_to b d)
 clear e0 e1 e2 e3 a0 a1 a2 c d b k0 k1 k2 k3
 obtain⟨-,e0,e1,e2,e3,-⟩:=HX.out.later T6.out
 obtain⟨-,a0,a1,a2⟩:=HVa.out.later UaT6.out
 obtain⟨-,b0,b1,b2⟩:=HVb.out
 obtain⟨z0,z1,z2,f0,f1,f2,B9⟩:=fin_at HB T6 G1 HZ Ab.k Ab.n ⟨Ab.s.toArray⟩
 go_wp2_with fail
 exact bodyPost_ret (v:=V3 Ab.k Ab.n ⟨Ab.s.toArray⟩) (by simp[results,results133,go_sem, *]) rfl ⟨by rw[← HPV.out,want_y (K:=1) (a:=⟨1,xa,ta⟩) rfl,want_n hl,HAb.out],B9.out⟩
theorem rcount_modZ (g gk o cap:Nat) (n:Int) (s:ByteArray) (a b:Va) (w:World) (ha:a.ok) (xa:RKid g w gk (o) a) (hb:b.ok) (xb:RKid g w gk (o+4) b) (hk:a.k=1) (hl:b.k=1) (hz:b.n=0) :
  Calls prog 133 #[.pointer (some ⟨g,0,none⟩),.agg #[.int .i64 11,.int .i64 n,.string s,.slice (some ⟨gk,o,none⟩) 2 cap]] w (RCom w (wantV 1 a (wantV 1 b (numOp 11 a.n b.n)))):=by
 generalize hPV:wantV 1 a (wantV 1 b (numOp 11 a.n b.n))=PV
 have HPV:=hid hPV
 clear hPV
 obtain⟨w1,w2,hw1,hw2,G1,HB,HZ,HX⟩:=ent w 11 n s (.slice (some ⟨gk,o,none⟩) 2 cap)
 have HKa:=hid (xa.later HB.out)
 have HKb:=hid (xb.later HB.out)
 have T2:=hid (Below.refl w2.heap.size w2)
 clear xa xb
 have HE:=hid (HPV.out.symm.trans (show wantV 1 a (wantV 1 b (numOp 11 a.n b.n))=⟨4,2,[]⟩ by rw[want_y hk,want_y hl];unfold numOp;simp[hz,badV]))
 obtain⟨ka,xa,ta⟩:=a
 obtain⟨kb,xb,tb⟩:=b
 try dsimp only at *
 subst hk
 subst hl
 subst hz
 obtain⟨-,e0,e1,e2,e3,-⟩:=HX.out
 obtain⟨opa,na,sa,kva,k0,k1,k2,k3,c⟩:=wyk HKa T2 1 ha (okW_eq rfl (by decide) (by decide))
 go_enter func133,ntmps133
 go_wp2_with fail
 refine c.mono ?_
 rintro e w3 ⟨rfl,b⟩
 obtain⟨w4,hw4,HVa,d⟩:=vbl w3 1 xa ta
 have T4:=hid (below_to T2.out (below_to b d))
 clear e0 e1 e2 e3 c d b k0 k1 k2 k3
 obtain⟨-,e0,e1,e2,e3,-⟩:=HX.out.later T4.out
 obtain⟨-,a0,a1,a2⟩:=HVa.out
 obtain⟨opb,nb,sb,kvb,k0,k1,k2,k3,c⟩:=wyk HKb T4 1 hb (okW_eq rfl (by decide) (by decide))
 go_wp2_with fail
 refine c.mono ?_
 rintro e w5 ⟨rfl,b⟩
 obtain⟨w6,hw6,HVb,d⟩:=vbl w5 1 0 tb
 have T6:=hid (below_to T4.out (below_to b d))
 have UaT6:=hid (below_to b d)
 clear e0 e1 e2 e3 a0 a1 a2 c d b k0 k1 k2 k3
 obtain⟨-,e0,e1,e2,e3,-⟩:=HX.out.later T6.out
 obtain⟨-,a0,a1,a2⟩:=HVa.out.later UaT6.out
 obtain⟨-,b0,b1,b2⟩:=HVb.out
 have c:Calls prog 211 #[.int .i64 2] w6 fun e w'=>e=.returned (V3 4 2 ⟨#[]⟩)∧Below w6.heap.size w6 w':=rbad_any 2 w6
 go_wp2_with fail
 refine c.mono ?_
 rintro e w7 ⟨rfl,b7⟩
 have T7:=hid (below_to T6.out b7)
 have UaT7:=hid (below_to UaT6.out b7)
 have UbT7:=hid b7
 clear e0 e1 e2 e3 a0 a1 a2 b0 b1 b2 c b7
 obtain⟨-,e0,e1,e2,e3,-⟩:=HX.out.later T7.out
 obtain⟨-,a0,a1,a2⟩:=HVa.out.later UaT7.out
 obtain⟨-,b0,b1,b2⟩:=HVb.out.later UbT7.out
 obtain⟨z0,z1,z2,f0,f1,f2,B9⟩:=fin_at HB T7 G1 HZ 4 2 ⟨#[]⟩
 go_wp2_with fail
 exact bodyPost_ret (v:=V3 4 2 ⟨#[]⟩) (by simp[results,results133,go_sem, *]) rfl ⟨by rw[HE.out],B9.out⟩
theorem rcount_modM (g gk o cap:Nat) (n:Int) (s:ByteArray) (a b:Va) (w:World) (ha:a.ok) (xa:RKid g w gk (o) a) (hb:b.ok) (xb:RKid g w gk (o+4) b) (hk:a.k=1) (hl:b.k=1) (hm:b.n=-1) :
  Calls prog 133 #[.pointer (some ⟨g,0,none⟩),.agg #[.int .i64 11,.int .i64 n,.string s,.slice (some ⟨gk,o,none⟩) 2 cap]] w (RCom w (wantV 1 a (wantV 1 b (numOp 11 a.n b.n)))):=by
 generalize hPV:wantV 1 a (wantV 1 b (numOp 11 a.n b.n))=PV
 have HPV:=hid hPV
 clear hPV
 obtain⟨w1,w2,hw1,hw2,G1,HB,HZ,HX⟩:=ent w 11 n s (.slice (some ⟨gk,o,none⟩) 2 cap)
 have HKa:=hid (xa.later HB.out)
 have HKb:=hid (xb.later HB.out)
 have T2:=hid (Below.refl w2.heap.size w2)
 clear xa xb
 have HE:=hid (HPV.out.symm.trans (show wantV 1 a (wantV 1 b (numOp 11 a.n b.n))=⟨1,0,[]⟩ by rw[want_y hk,want_y hl,show numOp 11 a.n b.n=numV 0 by unfold numOp;simp[hm,Int.tmod_neg,Int.tmod_one]];exact nv_i (by decide)))
 have HR:=hid ha.2
 obtain⟨ka,xa,ta⟩:=a
 obtain⟨kb,xb,tb⟩:=b
 try dsimp only at *
 subst hk
 subst hl
 subst hm
 obtain⟨-,e0,e1,e2,e3,-⟩:=HX.out
 obtain⟨opa,na,sa,kva,k0,k1,k2,k3,c⟩:=wyk HKa T2 1 ha (okW_eq rfl (by decide) (by decide))
 go_enter func133,ntmps133
 go_wp2_with fail
 refine c.mono ?_
 rintro e w3 ⟨rfl,b⟩
 obtain⟨w4,hw4,HVa,d⟩:=vbl w3 1 xa ta
 have T4:=hid (below_to T2.out (below_to b d))
 clear e0 e1 e2 e3 c d b k0 k1 k2 k3
 obtain⟨-,e0,e1,e2,e3,-⟩:=HX.out.later T4.out
 obtain⟨-,a0,a1,a2⟩:=HVa.out
 obtain⟨opb,nb,sb,kvb,k0,k1,k2,k3,c⟩:=wyk HKb T4 1 hb (okW_eq rfl (by decide) (by decide))
 go_wp2_with fail
 refine c.mono ?_
 rintro e w5 ⟨rfl,b⟩
 obtain⟨w6,hw6,HVb,d⟩:=vbl w5 1 (-1) tb
 have T6:=hid (below_to T4.out (below_to b d))
 have UaT6:=hid (below_to b d)
 clear e0 e1 e2 e3 a0 a1 a2 c d b k0 k1 k2 k3
 obtain⟨-,e0,e1,e2,e3,-⟩:=HX.out.later T6.out
 obtain⟨-,a0,a1,a2⟩:=HVa.out.later UaT6.out
 obtain⟨-,b0,b1,b2⟩:=HVb.out
 have c:Calls prog 216 #[.int .i64 xa,.int .i64 (-1)] w6 (Res2 (xa * -1) w6):=rproduct_any xa (-1) w6 HR.out (by decide)
 unfold Res2 at c
 go_wp2_with fail
 refine c.mono ?_
 rintro e w7 ⟨cz,rfl,rfl,-⟩
 clear e0 e1 e2 e3 a0 a1 a2 b0 b1 b2 c
 obtain⟨-,e0,e1,e2,e3,-⟩:=HX.out.later T6.out
 obtain⟨-,a0,a1,a2⟩:=HVa.out.later UaT6.out
 obtain⟨-,b0,b1,b2⟩:=HVb.out
 have c:Calls prog 127 #[.int .i64 0] w6 fun e w'=>e=.returned (V3 1 0 ⟨#[]⟩)∧Below w6.heap.size w6 w':=rnum_any 0 w6
 go_wp2_with fail
 refine c.mono ?_
 rintro e w7 ⟨rfl,b7⟩
 have T7:=hid (below_to T6.out b7)
 have UaT7:=hid (below_to UaT6.out b7)
 have UbT7:=hid b7
 clear e0 e1 e2 e3 a0 a1 a2 b0 b1 b2 c b7
 obtain⟨-,e0,e1,e2,e3,-⟩:=HX.out.later T7.out
 obtain⟨-,a0,a1,a2⟩:=HVa.out.later UaT7.out
 obtain⟨-,b0,b1,b2⟩:=HVb.out.later UbT7.out
 obtain⟨z0,z1,z2,f0,f1,f2,B9⟩:=fin_at HB T7 G1 HZ 1 0 ⟨#[]⟩
 go_wp2_with fail
 exact bodyPost_ret (v:=V3 1 0 ⟨#[]⟩) (by simp[results,results133,go_sem, *]) rfl ⟨by rw[HE.out],B9.out⟩
theorem rcount_mod1 (g gk o cap:Nat) (n:Int) (s:ByteArray) (a b:Va) (w:World) (ha:a.ok) (xa:RKid g w gk (o) a) (hb:b.ok) (xb:RKid g w gk (o+4) b) (hk:a.k=1) (hl:b.k=1) (hz:b.n≠0) (hm:b.n≠-1) :
  Calls prog 133 #[.pointer (some ⟨g,0,none⟩),.agg #[.int .i64 11,.int .i64 n,.string s,.slice (some ⟨gk,o,none⟩) 2 cap]] w (RCom w (wantV 1 a (wantV 1 b (numOp 11 a.n b.n)))):=by
 generalize hPV:wantV 1 a (wantV 1 b (numOp 11 a.n b.n))=PV
 have HPV:=hid hPV
 clear hPV
 obtain⟨w1,w2,hw1,hw2,G1,HB,HZ,HX⟩:=ent w 11 n s (.slice (some ⟨gk,o,none⟩) 2 cap)
 have HKa:=hid (xa.later HB.out)
 have HKb:=hid (xb.later HB.out)
 have T2:=hid (Below.refl w2.heap.size w2)
 clear xa xb
 have hr:=mod_in (a:=a.n) (b:=b.n) hb.2 hz
 have HE:=hid (HPV.out.symm.trans (show wantV 1 a (wantV 1 b (numOp 11 a.n b.n))=⟨1,Int.tmod a.n b.n,[]⟩ by rw[want_y hk,want_y hl,show numOp 11 a.n b.n=numV (Int.tmod a.n b.n) by unfold numOp;simp[hz]];exact nv_i (decide_eq_true hr)))
 have hbz:(b.n == 0)=false:=by simp[hz]
 have hbm:(b.n == -1)=false:=by simp[hm]
 have hwz:wrap64 (Int.tmod a.n b.n)=Int.tmod a.n b.n:=by unfold wrap64;omega
 have hnz:¬ b.n=0:=hz
 clear hr
 obtain⟨ka,xa,ta⟩:=a
 obtain⟨kb,xb,tb⟩:=b
 try dsimp only at *
 subst hk
 subst hl
 obtain⟨-,e0,e1,e2,e3,-⟩:=HX.out
 obtain⟨opa,na,sa,kva,k0,k1,k2,k3,c⟩:=wyk HKa T2 1 ha (okW_eq rfl (by decide) (by decide))
 go_enter func133,ntmps133
 go_wp2_with fail
 refine c.mono ?_
 rintro e w3 ⟨rfl,b⟩
 obtain⟨w4,hw4,HVa,d⟩:=vbl w3 1 xa ta
 have T4:=hid (below_to T2.out (below_to b d))
 clear e0 e1 e2 e3 c d b k0 k1 k2 k3
 obtain⟨-,e0,e1,e2,e3,-⟩:=HX.out.later T4.out
 obtain⟨-,a0,a1,a2⟩:=HVa.out
 obtain⟨opb,nb,sb,kvb,k0,k1,k2,k3,c⟩:=wyk HKb T4 1 hb (okW_eq rfl (by decide) (by decide))
 go_wp2_with fail
 refine c.mono ?_
 rintro e w5 ⟨rfl,b⟩
 obtain⟨w6,hw6,HVb,d⟩:=vbl w5 1 xb tb
 have T6:=hid (below_to T4.out (below_to b d))
 have UaT6:=hid (below_to b d)
 clear e0 e1 e2 e3 a0 a1 a2 c d b k0 k1 k2 k3
 obtain⟨-,e0,e1,e2,e3,-⟩:=HX.out.later T6.out
 obtain⟨-,a0,a1,a2⟩:=HVa.out.later UaT6.out
 obtain⟨-,b0,b1,b2⟩:=HVb.out
 have c:Calls prog 127 #[.int .i64 (Int.tmod xa xb)] w6 fun e w'=>e=.returned (V3 1 (Int.tmod xa xb) ⟨#[]⟩)∧Below w6.heap.size w6 w':=rnum_any (Int.tmod xa xb) w6
 go_wp2_with fail
 refine c.mono ?_
 rintro e w7 ⟨rfl,b7⟩
 have T7:=hid (below_to T6.out b7)
 have UaT7:=hid (below_to UaT6.out b7)
 have UbT7:=hid b7
 clear e0 e1 e2 e3 a0 a1 a2 b0 b1 b2 c b7
 obtain⟨-,e0,e1,e2,e3,-⟩:=HX.out.later T7.out
 obtain⟨-,a0,a1,a2⟩:=HVa.out.later UaT7.out
 obtain⟨-,b0,b1,b2⟩:=HVb.out.later UbT7.out
 obtain⟨z0,z1,z2,f0,f1,f2,B9⟩:=fin_at HB T7 G1 HZ 1 (Int.tmod xa xb) ⟨#[]⟩
 go_wp2_with fail
 exact bodyPost_ret (v:=V3 1 (Int.tmod xa xb) ⟨#[]⟩) (by simp[results,results133,go_sem, *]) rfl ⟨by rw[HE.out],B9.out⟩
theorem rcount_any (g gk o cap:Nat) (op n:Int) (s:ByteArray) (a b:Va) (w:World) (ho:7≤op∧op≤11) (ha:a.ok) (xa:RKid g w gk o a) (hb:b.ok) (xb:RKid g w gk (o+4) b) :
  Calls prog 133 #[.pointer (some ⟨g,0,none⟩),.agg #[.int .i64 op,.int .i64 n,.string s,.slice (some ⟨gk,o,none⟩) 2 cap]] w (RCom w (wantV 1 a (wantV 1 b (numOp op a.n b.n)))):=by
 rcases (show op=7∨op=8∨op=9∨op=10∨op=11 by omega) with rfl | rfl | rfl | rfl | rfl
 ·by_cases hk:a.k=1
  case neg=>exact rcount_add0 g gk o cap n s a b w ha xa hb xb hk
  by_cases hl:b.k=1
  case neg=>exact rcount_addB g gk o cap n s a b w ha xa hb xb hk hl
  cases hz:inZ (a.n+b.n) with
  | true=>exact rcount_add1 g gk o cap n s a b w ha xa hb xb hk hl hz
  | false=>exact rcount_add2 g gk o cap n s a b w ha xa hb xb hk hl hz
 ·by_cases hk:a.k=1
  case neg=>exact rcount_sub0 g gk o cap n s a b w ha xa hb xb hk
  by_cases hl:b.k=1
  case neg=>exact rcount_subB g gk o cap n s a b w ha xa hb xb hk hl
  cases hz:inZ (a.n - b.n) with
  | true=>exact rcount_sub1 g gk o cap n s a b w ha xa hb xb hk hl hz
  | false=>exact rcount_sub2 g gk o cap n s a b w ha xa hb xb hk hl hz
 ·by_cases hk:a.k=1
  case neg=>exact rcount_mul0 g gk o cap n s a b w ha xa hb xb hk
  by_cases hl:b.k=1
  case neg=>exact rcount_mulB g gk o cap n s a b w ha xa hb xb hk hl
  cases hz:inZ (a.n * b.n) with
  | true=>exact rcount_mul1 g gk o cap n s a b w ha xa hb xb hk hl hz
  | false=>exact rcount_mul2 g gk o cap n s a b w ha xa hb xb hk hl hz
 ·by_cases hk:a.k=1
  case neg=>exact rcount_div0 g gk o cap n s a b w ha xa hb xb hk
  by_cases hl:b.k=1
  case neg=>exact rcount_divB g gk o cap n s a b w ha xa hb xb hk hl
  by_cases hz:b.n=0
  ·exact rcount_divZ g gk o cap n s a b w ha xa hb xb hk hl hz
  by_cases hm:b.n=-1
  ·cases hz2:inZ (a.n * -1) with
   | true=>exact rcount_divM1 g gk o cap n s a b w ha xa hb xb hk hl hm hz2
   | false=>exact rcount_divM2 g gk o cap n s a b w ha xa hb xb hk hl hm hz2
  ·exact rcount_div1 g gk o cap n s a b w ha xa hb xb hk hl hz hm
 ·by_cases hk:a.k=1
  case neg=>exact rcount_mod0 g gk o cap n s a b w ha xa hb xb hk
  by_cases hl:b.k=1
  case neg=>exact rcount_modB g gk o cap n s a b w ha xa hb xb hk hl
  by_cases hz:b.n=0
  ·exact rcount_modZ g gk o cap n s a b w ha xa hb xb hk hl hz
  by_cases hm:b.n=-1
  ·exact rcount_modM g gk o cap n s a b w ha xa hb xb hk hl hm
  ·exact rcount_mod1 g gk o cap n s a b w ha xa hb xb hk hl hz hm
theorem rcount_one (g gk o cap:Nat) (n:Int) (s:ByteArray) (a:Va) (w:World) (ha:a.ok) (xa:RKid g w gk o a) :
  Calls prog 133 #[.pointer (some ⟨g,0,none⟩),.agg #[.int .i64 5,.int .i64 n,.string s,.slice (some ⟨gk,o,none⟩) 1 cap]] w (RCom w (wantV 1 a (numV (0 - a.n)))):=by
 by_cases hk:a.k=1
 case neg=>exact rcount_neg0 g gk o cap n s a w ha xa hk
 cases hz:inZ (a.n * -1) with
 | true=>exact rcount_neg1 g gk o cap n s a w ha xa hk hz
 | false=>exact rcount_neg2 g gk o cap n s a w ha xa hk hz
end
section
open Go.RowKit
theorem okW_any {a:Va}:okW 0 a=true↔a.k≠4∧a.k≠0:=by
 unfold okW
 rw[decide_eq_true_eq]
 exact⟨fun h=>⟨h.1,h.2.1⟩,fun h=>⟨h.1,h.2,.inl rfl⟩⟩
theorem kind_few {a:Va} (h:a.ok):a.k=0∨a.k=1∨a.k=2∨a.k=3∨a.k=4:=by
 rcases check_kind h.1 with h | h | h | h | h
 ·exact .inl h.1
 ·exact .inr (.inl h.1)
 ·exact .inr (.inr (.inl h.1))
 ·exact .inr (.inr (.inr (.inl h.1)))
 ·exact .inr (.inr (.inr (.inr h.1)))
theorem lt_irr (a:List UInt8):¬ a<a:=List.lt_irrefl _
theorem txt_less (a b:List UInt8):Op.bytesLess (⟨a.toArray⟩:ByteArray).toList (⟨b.toArray⟩:ByteArray).toList=decide (a<b):=by
 rw[Lib.toList_data,Lib.toList_data,bytesLess_eq]
theorem below_da {B:Nat} {a w:World} (h:Below B a w) (hB:B≤a.heap.size) (o:Obj):Below B a (w.alloc o):=h.alloc (Nat.le_trans hB h.size) o
theorem put3_in {w w1:World} {g:Nat} (a:Va) (h:Below w.heap.size w w1) (hg:w.heap.size≤g):Below w.heap.size w (((w1.setCell ⟨g,0,none⟩ (.int .i64 a.k)).setCell ⟨g,1,none⟩ (.int .i64 a.n)).setCell ⟨g,2,none⟩ (.string ⟨a.s.toArray⟩)):=put3_at a h hg
theorem VB.put {w:World} {g:Nat} (h:ZB w g) (k n:Int) (t:List UInt8):VB (((w.setCell ⟨g,0,none⟩ (.int .i64 k)).setCell ⟨g,1,none⟩ (.int .i64 n)).setCell ⟨g,2,none⟩ (.string ⟨t.toArray⟩)) g k n t:=by
 obtain⟨hl,-,z0,z1,z2⟩:=h
 refine⟨by simpa using hl,?_,?_,?_⟩<;>simp[z0,z1,z2,go_sem]
end
end Go.Proofs.YtbbblmedoagncaaGreatDoor
