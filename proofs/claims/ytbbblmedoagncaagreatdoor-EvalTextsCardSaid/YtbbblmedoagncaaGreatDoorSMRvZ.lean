/- RvZ -/
import Derived.Test.YtbbblmedoagncaaGreatDoorSVX
import Derived.Test.YtbbblmedoagncaaGreatDoorSHE
namespace Go.Proofs.YtbbblmedoagncaaGreatDoor
section
open _root_.Go.Lib (hid)
open _root_.Go.Proofs.Tryz
set_option maxHeartbeats 2000000
set_option maxRecDepth 100000
open Go.RowKit
theorem tru_not {a:Va} (h:a.ok) (hk:a.k=2):truV (a.n == 0)=truV (decide (a.n≠1)):=by
 rcases (h.truth hk).1 with h | h<;>rw[h]<;>rfl
theorem app_cat (a b:List UInt8):(⟨a.toArray⟩:ByteArray)++⟨b.toArray⟩=⟨(a++b).toArray⟩:=by
 apply ByteArray.ext
 rw[ByteArray.data_append]
 simp
theorem rlogic_not0 (g gk o cap:Nat) (n:Int) (s:ByteArray) (a:Va) (w:World) (ha:a.ok) (xa:RKid g w gk (o) a) (hk:a.k≠2) :
  Calls prog 130 #[.pointer (some ⟨g,0,none⟩),.agg #[.int .i64 6,.int .i64 n,.string s,.slice (some ⟨gk,o,none⟩) 1 cap]] w (RCom w (wantV 2 a (truV (decide (a.n≠1))))):=by
 generalize hPV:wantV 2 a (truV (decide (a.n≠1)))=PV
 have HPV:=hid hPV
 clear hPV
 obtain⟨w1,w2,hw1,hw2,G1,HB,HZ,HX⟩:=ent w 6 n s (.slice (some ⟨gk,o,none⟩) 1 cap)
 have HKa:=hid (xa.later HB.out)
 have T2:=hid (Below.refl w2.heap.size w2)
 clear xa
 obtain⟨ka,xa,ta⟩:=a
 try dsimp only at *
 obtain⟨-,e0,e1,e2,e3,-⟩:=HX.out
 obtain⟨Aa,HAa,opa,na,sa,kva,k0,k1,k2,k3,c⟩:=wnk HKa T2 2 (okW_ne hk (by decide))
 go_enter func130,ntmps130
 go_wp2_with fail
 refine c.mono ?_
 rintro e w3 ⟨rfl,b⟩
 obtain⟨w4,hw4,HVa,d⟩:=vbl w3 Aa.k Aa.n Aa.s
 have T4:=hid (below_to T2.out (below_to b d))
 clear e0 e1 e2 e3 c d b k0 k1 k2 k3
 obtain⟨-,e0,e1,e2,e3,-⟩:=HX.out.later T4.out
 obtain⟨-,a0,a1,a2⟩:=HVa.out
 obtain⟨z0,z1,z2,f0,f1,f2,B9⟩:=fin_at HB T4 G1 HZ Aa.k Aa.n ⟨Aa.s.toArray⟩
 go_wp2_with fail
 exact bodyPost_ret (v:=V3 Aa.k Aa.n ⟨Aa.s.toArray⟩) (by simp[results,results130,go_sem, *]) rfl ⟨by rw[← HPV.out,want_n hk,HAa.out],B9.out⟩
theorem rlogic_not1 (g gk o cap:Nat) (n:Int) (s:ByteArray) (a:Va) (w:World) (ha:a.ok) (xa:RKid g w gk (o) a) (hk:a.k=2) :
  Calls prog 130 #[.pointer (some ⟨g,0,none⟩),.agg #[.int .i64 6,.int .i64 n,.string s,.slice (some ⟨gk,o,none⟩) 1 cap]] w (RCom w (wantV 2 a (truV (decide (a.n≠1))))):=by
 generalize hPV:wantV 2 a (truV (decide (a.n≠1)))=PV
 have HPV:=hid hPV
 clear hPV
 obtain⟨w1,w2,hw1,hw2,G1,HB,HZ,HX⟩:=ent w 6 n s (.slice (some ⟨gk,o,none⟩) 1 cap)
 have HKa:=hid (xa.later HB.out)
 have T2:=hid (Below.refl w2.heap.size w2)
 clear xa
 have HE:=hid (HPV.out.symm.trans (show wantV 2 a (truV (decide (a.n≠1)))=truV (a.n == 0) by rw[want_y hk,tru_not ha hk]))
 obtain⟨ka,xa,ta⟩:=a
 try dsimp only at *
 subst hk
 obtain⟨R,hR⟩:∃ R,truV (xa == 0)=R:=⟨_,rfl⟩
 rw[hR] at HE
 have HR:=hid hR
 clear hR
 obtain⟨-,e0,e1,e2,e3,-⟩:=HX.out
 obtain⟨opa,na,sa,kva,k0,k1,k2,k3,c⟩:=wyk HKa T2 2 ha (okW_eq rfl (by decide) (by decide))
 go_enter func130,ntmps130
 go_wp2_with fail
 refine c.mono ?_
 rintro e w3 ⟨rfl,b⟩
 obtain⟨w4,hw4,HVa,d⟩:=vbl w3 2 xa ta
 have T4:=hid (below_to T2.out (below_to b d))
 clear e0 e1 e2 e3 c d b k0 k1 k2 k3
 obtain⟨-,e0,e1,e2,e3,-⟩:=HX.out.later T4.out
 obtain⟨-,a0,a1,a2⟩:=HVa.out
 have c:Calls prog 128 #[.bool (xa == 0)] w4 fun e w'=>e=.returned (V3 R.k R.n ⟨R.s.toArray⟩)∧Below w4.heap.size w4 w':=(by rw[← HR.out];exact rtruth_any (xa == 0) w4)
 go_wp2_with fail
 refine c.mono ?_
 rintro e w5 ⟨rfl,b5⟩
 have T5:=hid (below_to T4.out b5)
 have UaT5:=hid b5
 clear e0 e1 e2 e3 a0 a1 a2 c b5
 obtain⟨-,e0,e1,e2,e3,-⟩:=HX.out.later T5.out
 obtain⟨-,a0,a1,a2⟩:=HVa.out.later UaT5.out
 obtain⟨z0,z1,z2,f0,f1,f2,B9⟩:=fin_at HB T5 G1 HZ R.k R.n ⟨R.s.toArray⟩
 go_wp2_with fail
 exact bodyPost_ret (v:=V3 R.k R.n ⟨R.s.toArray⟩) (by simp[results,results130,go_sem, *]) rfl ⟨by rw[HE.out],B9.out⟩
theorem rlogic_if0 (g gk o cap:Nat) (n:Int) (s:ByteArray) (a b c:Va) (w:World) (ha:a.ok) (xa:RKid g w gk (o) a) (hb:b.ok) (xb:RKid g w gk (o+4) b) (hc:c.ok) (xc:RKid g w gk (o+8) c) (hk:a.k≠2) :
  Calls prog 130 #[.pointer (some ⟨g,0,none⟩),.agg #[.int .i64 18,.int .i64 n,.string s,.slice (some ⟨gk,o,none⟩) 3 cap]] w (RCom w (wantV 2 a (if a.n=1 then b else c))):=by
 generalize hPV:wantV 2 a (if a.n=1 then b else c)=PV
 have HPV:=hid hPV
 clear hPV
 obtain⟨w1,w2,hw1,hw2,G1,HB,HZ,HX⟩:=ent w 18 n s (.slice (some ⟨gk,o,none⟩) 3 cap)
 have HKa:=hid (xa.later HB.out)
 have HKb:=hid (xb.later HB.out)
 have HKc:=hid (xc.later HB.out)
 have T2:=hid (Below.refl w2.heap.size w2)
 clear xa xb xc
 obtain⟨ka,xa,ta⟩:=a
 obtain⟨kb,xb,tb⟩:=b
 obtain⟨kc,xc,tc⟩:=c
 try dsimp only at *
 obtain⟨-,e0,e1,e2,e3,-⟩:=HX.out
 obtain⟨Aa,HAa,opa,na,sa,kva,k0,k1,k2,k3,c⟩:=wnk HKa T2 2 (okW_ne hk (by decide))
 go_enter func130,ntmps130
 go_wp2_with fail
 refine c.mono ?_
 rintro e w3 ⟨rfl,b⟩
 obtain⟨w4,hw4,HVa,d⟩:=vbl w3 Aa.k Aa.n Aa.s
 have T4:=hid (below_to T2.out (below_to b d))
 clear e0 e1 e2 e3 c d b k0 k1 k2 k3
 obtain⟨-,e0,e1,e2,e3,-⟩:=HX.out.later T4.out
 obtain⟨-,a0,a1,a2⟩:=HVa.out
 obtain⟨z0,z1,z2,f0,f1,f2,B9⟩:=fin_at HB T4 G1 HZ Aa.k Aa.n ⟨Aa.s.toArray⟩
 go_wp2_with fail
 exact bodyPost_ret (v:=V3 Aa.k Aa.n ⟨Aa.s.toArray⟩) (by simp[results,results130,go_sem, *]) rfl ⟨by rw[← HPV.out,want_n hk,HAa.out],B9.out⟩
theorem rlogic_if1 (g gk o cap:Nat) (n:Int) (s:ByteArray) (a b c:Va) (w:World) (ha:a.ok) (xa:RKid g w gk (o) a) (hb:b.ok) (xb:RKid g w gk (o+4) b) (hc:c.ok) (xc:RKid g w gk (o+8) c) (hk:a.k=2) (hn:a.n=1) :
  Calls prog 130 #[.pointer (some ⟨g,0,none⟩),.agg #[.int .i64 18,.int .i64 n,.string s,.slice (some ⟨gk,o,none⟩) 3 cap]] w (RCom w (wantV 2 a (if a.n=1 then b else c))):=by
 generalize hPV:wantV 2 a (if a.n=1 then b else c)=PV
 have HPV:=hid hPV
 clear hPV
 obtain⟨w1,w2,hw1,hw2,G1,HB,HZ,HX⟩:=ent w 18 n s (.slice (some ⟨gk,o,none⟩) 3 cap)
 have HKa:=hid (xa.later HB.out)
 have HKb:=hid (xb.later HB.out)
 have HKc:=hid (xc.later HB.out)
 have T2:=hid (Below.refl w2.heap.size w2)
 clear xa xb xc
 have HE:=hid (HPV.out.symm.trans (show wantV 2 a (if a.n=1 then b else c)=b by rw[want_y hk,if_pos hn]))
 obtain⟨ka,xa,ta⟩:=a
 obtain⟨kb,xb,tb⟩:=b
 obtain⟨kc,xc,tc⟩:=c
 try dsimp only at *
 subst hk
 subst hn
 obtain⟨-,e0,e1,e2,e3,-⟩:=HX.out
 obtain⟨opa,na,sa,kva,k0,k1,k2,k3,c⟩:=wyk HKa T2 2 ha (okW_eq rfl (by decide) (by decide))
 go_enter func130,ntmps130
 go_wp2_with fail
 refine c.mono ?_
 rintro e w3 ⟨rfl,b⟩
 obtain⟨w4,hw4,HVa,d⟩:=vbl w3 2 1 ta
 have T4:=hid (below_to T2.out (below_to b d))
 clear e0 e1 e2 e3 c d b k0 k1 k2 k3
 obtain⟨-,e0,e1,e2,e3,-⟩:=HX.out.later T4.out
 obtain⟨-,a0,a1,a2⟩:=HVa.out
 obtain⟨opb,nb,sb,kvb,k0,k1,k2,k3,c⟩:=ofk HKb T4
 go_wp2_with fail
 refine c.mono ?_
 rintro e w5 ⟨rfl,b5⟩
 have T5:=hid (below_to T4.out b5)
 have UaT5:=hid b5
 clear e0 e1 e2 e3 a0 a1 a2 c b5 k0 k1 k2 k3
 obtain⟨-,e0,e1,e2,e3,-⟩:=HX.out.later T5.out
 obtain⟨-,a0,a1,a2⟩:=HVa.out.later UaT5.out
 obtain⟨z0,z1,z2,f0,f1,f2,B9⟩:=fin_at HB T5 G1 HZ kb xb ⟨tb.toArray⟩
 go_wp2_with fail
 exact bodyPost_ret (v:=V3 kb xb ⟨tb.toArray⟩) (by simp[results,results130,go_sem, *]) rfl ⟨by rw[HE.out],B9.out⟩
theorem rlogic_if2 (g gk o cap:Nat) (n:Int) (s:ByteArray) (a b c:Va) (w:World) (ha:a.ok) (xa:RKid g w gk (o) a) (hb:b.ok) (xb:RKid g w gk (o+4) b) (hc:c.ok) (xc:RKid g w gk (o+8) c) (hk:a.k=2) (hn:¬ a.n=1) :
  Calls prog 130 #[.pointer (some ⟨g,0,none⟩),.agg #[.int .i64 18,.int .i64 n,.string s,.slice (some ⟨gk,o,none⟩) 3 cap]] w (RCom w (wantV 2 a (if a.n=1 then b else c))):=by
 generalize hPV:wantV 2 a (if a.n=1 then b else c)=PV
 have HPV:=hid hPV
 clear hPV
 obtain⟨w1,w2,hw1,hw2,G1,HB,HZ,HX⟩:=ent w 18 n s (.slice (some ⟨gk,o,none⟩) 3 cap)
 have HKa:=hid (xa.later HB.out)
 have HKb:=hid (xb.later HB.out)
 have HKc:=hid (xc.later HB.out)
 have T2:=hid (Below.refl w2.heap.size w2)
 clear xa xb xc
 have HE:=hid (HPV.out.symm.trans (show wantV 2 a (if a.n=1 then b else c)=c by rw[want_y hk,if_neg hn]))
 have hnz:(a.n == 1)=false:=by simp[hn]
 obtain⟨ka,xa,ta⟩:=a
 obtain⟨kb,xb,tb⟩:=b
 obtain⟨kc,xc,tc⟩:=c
 try dsimp only at *
 subst hk
 obtain⟨-,e0,e1,e2,e3,-⟩:=HX.out
 obtain⟨opa,na,sa,kva,k0,k1,k2,k3,c⟩:=wyk HKa T2 2 ha (okW_eq rfl (by decide) (by decide))
 go_enter func130,ntmps130
 go_wp2_with fail
 refine c.mono ?_
 rintro e w3 ⟨rfl,b⟩
 obtain⟨w4,hw4,HVa,d⟩:=vbl w3 2 xa ta
 have T4:=hid (below_to T2.out (below_to b d))
 clear e0 e1 e2 e3 c d b k0 k1 k2 k3
 obtain⟨-,e0,e1,e2,e3,-⟩:=HX.out.later T4.out
 obtain⟨-,a0,a1,a2⟩:=HVa.out
 obtain⟨opc,nc,sc,kvc,k0,k1,k2,k3,c⟩:=ofk HKc T4
 go_wp2_with fail
 refine c.mono ?_
 rintro e w5 ⟨rfl,b5⟩
 have T5:=hid (below_to T4.out b5)
 have UaT5:=hid b5
 clear e0 e1 e2 e3 a0 a1 a2 c b5 k0 k1 k2 k3
 obtain⟨-,e0,e1,e2,e3,-⟩:=HX.out.later T5.out
 obtain⟨-,a0,a1,a2⟩:=HVa.out.later UaT5.out
 obtain⟨z0,z1,z2,f0,f1,f2,B9⟩:=fin_at HB T5 G1 HZ kc xc ⟨tc.toArray⟩
 go_wp2_with fail
 exact bodyPost_ret (v:=V3 kc xc ⟨tc.toArray⟩) (by simp[results,results130,go_sem, *]) rfl ⟨by rw[HE.out],B9.out⟩
theorem rlogic_and0 (g gk o cap:Nat) (n:Int) (s:ByteArray) (a b:Va) (w:World) (ha:a.ok) (xa:RKid g w gk (o) a) (hb:b.ok) (xb:RKid g w gk (o+4) b) (hk:a.k≠2) :
  Calls prog 130 #[.pointer (some ⟨g,0,none⟩),.agg #[.int .i64 16,.int .i64 n,.string s,.slice (some ⟨gk,o,none⟩) 2 cap]] w (RCom w (wantV 2 a (if a.n=1 then wantV 2 b b else a))):=by
 generalize hPV:wantV 2 a (if a.n=1 then wantV 2 b b else a)=PV
 have HPV:=hid hPV
 clear hPV
 obtain⟨w1,w2,hw1,hw2,G1,HB,HZ,HX⟩:=ent w 16 n s (.slice (some ⟨gk,o,none⟩) 2 cap)
 have HKa:=hid (xa.later HB.out)
 have HKb:=hid (xb.later HB.out)
 have T2:=hid (Below.refl w2.heap.size w2)
 clear xa xb
 obtain⟨ka,xa,ta⟩:=a
 obtain⟨kb,xb,tb⟩:=b
 try dsimp only at *
 obtain⟨-,e0,e1,e2,e3,-⟩:=HX.out
 obtain⟨Aa,HAa,opa,na,sa,kva,k0,k1,k2,k3,c⟩:=wnk HKa T2 2 (okW_ne hk (by decide))
 go_enter func130,ntmps130
 go_wp2_with fail
 refine c.mono ?_
 rintro e w3 ⟨rfl,b⟩
 obtain⟨w4,hw4,HVa,d⟩:=vbl w3 Aa.k Aa.n Aa.s
 have T4:=hid (below_to T2.out (below_to b d))
 clear e0 e1 e2 e3 c d b k0 k1 k2 k3
 obtain⟨-,e0,e1,e2,e3,-⟩:=HX.out.later T4.out
 obtain⟨-,a0,a1,a2⟩:=HVa.out
 obtain⟨z0,z1,z2,f0,f1,f2,B9⟩:=fin_at HB T4 G1 HZ Aa.k Aa.n ⟨Aa.s.toArray⟩
 go_wp2_with fail
 exact bodyPost_ret (v:=V3 Aa.k Aa.n ⟨Aa.s.toArray⟩) (by simp[results,results130,go_sem, *]) rfl ⟨by rw[← HPV.out,want_n hk,HAa.out],B9.out⟩
theorem rlogic_andB1 (g gk o cap:Nat) (n:Int) (s:ByteArray) (a b:Va) (w:World) (ha:a.ok) (xa:RKid g w gk (o) a) (hb:b.ok) (xb:RKid g w gk (o+4) b) (hk:a.k=2) (hn:a.n=1) (hl:b.k=2) :
  Calls prog 130 #[.pointer (some ⟨g,0,none⟩),.agg #[.int .i64 16,.int .i64 n,.string s,.slice (some ⟨gk,o,none⟩) 2 cap]] w (RCom w (wantV 2 a (if a.n=1 then wantV 2 b b else a))):=by
 generalize hPV:wantV 2 a (if a.n=1 then wantV 2 b b else a)=PV
 have HPV:=hid hPV
 clear hPV
 obtain⟨w1,w2,hw1,hw2,G1,HB,HZ,HX⟩:=ent w 16 n s (.slice (some ⟨gk,o,none⟩) 2 cap)
 have HKa:=hid (xa.later HB.out)
 have HKb:=hid (xb.later HB.out)
 have T2:=hid (Below.refl w2.heap.size w2)
 clear xa xb
 have HE:=hid (HPV.out.symm.trans (show wantV 2 a (if a.n=1 then wantV 2 b b else a)=b by rw[want_y hk,if_pos hn,want_y hl]))
 obtain⟨ka,xa,ta⟩:=a
 obtain⟨kb,xb,tb⟩:=b
 try dsimp only at *
 subst hk
 subst hn
 subst hl
 obtain⟨-,e0,e1,e2,e3,-⟩:=HX.out
 obtain⟨opa,na,sa,kva,k0,k1,k2,k3,c⟩:=wyk HKa T2 2 ha (okW_eq rfl (by decide) (by decide))
 go_enter func130,ntmps130
 go_wp2_with fail
 refine c.mono ?_
 rintro e w3 ⟨rfl,b⟩
 obtain⟨w4,hw4,HVa,d⟩:=vbl w3 2 1 ta
 have T4:=hid (below_to T2.out (below_to b d))
 clear e0 e1 e2 e3 c d b k0 k1 k2 k3
 obtain⟨-,e0,e1,e2,e3,-⟩:=HX.out.later T4.out
 obtain⟨-,a0,a1,a2⟩:=HVa.out
 obtain⟨opb,nb,sb,kvb,k0,k1,k2,k3,c⟩:=wyk HKb T4 2 hb (okW_eq rfl (by decide) (by decide))
 go_wp2_with fail
 refine c.mono ?_
 rintro e w5 ⟨rfl,b⟩
 obtain⟨w6,hw6,HVb,d⟩:=vbl w5 2 xb tb
 have T6:=hid (below_to T4.out (below_to b d))
 have UaT6:=hid (below_to b d)
 clear e0 e1 e2 e3 a0 a1 a2 c d b k0 k1 k2 k3
 obtain⟨-,e0,e1,e2,e3,-⟩:=HX.out.later T6.out
 obtain⟨-,a0,a1,a2⟩:=HVa.out.later UaT6.out
 obtain⟨-,b0,b1,b2⟩:=HVb.out
 obtain⟨z0,z1,z2,f0,f1,f2,B9⟩:=fin_at HB T6 G1 HZ 2 xb ⟨tb.toArray⟩
 go_wp2_with fail
 exact bodyPost_ret (v:=V3 2 xb ⟨tb.toArray⟩) (by simp[results,results130,go_sem, *]) rfl ⟨by rw[HE.out],B9.out⟩
theorem rlogic_andB2 (g gk o cap:Nat) (n:Int) (s:ByteArray) (a b:Va) (w:World) (ha:a.ok) (xa:RKid g w gk (o) a) (hb:b.ok) (xb:RKid g w gk (o+4) b) (hk:a.k=2) (hn:a.n=1) (hl:b.k≠2) :
  Calls prog 130 #[.pointer (some ⟨g,0,none⟩),.agg #[.int .i64 16,.int .i64 n,.string s,.slice (some ⟨gk,o,none⟩) 2 cap]] w (RCom w (wantV 2 a (if a.n=1 then wantV 2 b b else a))):=by
 generalize hPV:wantV 2 a (if a.n=1 then wantV 2 b b else a)=PV
 have HPV:=hid hPV
 clear hPV
 obtain⟨w1,w2,hw1,hw2,G1,HB,HZ,HX⟩:=ent w 16 n s (.slice (some ⟨gk,o,none⟩) 2 cap)
 have HKa:=hid (xa.later HB.out)
 have HKb:=hid (xb.later HB.out)
 have T2:=hid (Below.refl w2.heap.size w2)
 clear xa xb
 have HE:=hid (HPV.out.symm.trans (show wantV 2 a (if a.n=1 then wantV 2 b b else a)=wrongV b by rw[want_y hk,if_pos hn,want_n hl]))
 obtain⟨ka,xa,ta⟩:=a
 obtain⟨kb,xb,tb⟩:=b
 try dsimp only at *
 subst hk
 subst hn
 obtain⟨-,e0,e1,e2,e3,-⟩:=HX.out
 obtain⟨opa,na,sa,kva,k0,k1,k2,k3,c⟩:=wyk HKa T2 2 ha (okW_eq rfl (by decide) (by decide))
 go_enter func130,ntmps130
 go_wp2_with fail
 refine c.mono ?_
 rintro e w3 ⟨rfl,b⟩
 obtain⟨w4,hw4,HVa,d⟩:=vbl w3 2 1 ta
 have T4:=hid (below_to T2.out (below_to b d))
 clear e0 e1 e2 e3 c d b k0 k1 k2 k3
 obtain⟨-,e0,e1,e2,e3,-⟩:=HX.out.later T4.out
 obtain⟨-,a0,a1,a2⟩:=HVa.out
 obtain⟨Ab,HAb,opb,nb,sb,kvb,k0,k1,k2,k3,c⟩:=wnk HKb T4 2 (okW_ne hl (by decide))
 go_wp2_with fail
 refine c.mono ?_
 rintro e w5 ⟨rfl,b⟩
 obtain⟨w6,hw6,HVb,d⟩:=vbl w5 Ab.k Ab.n Ab.s
 have T6:=hid (below_to T4.out (below_to b d))
 have UaT6:=hid (below_to b d)
 clear e0 e1 e2 e3 a0 a1 a2 c d b k0 k1 k2 k3
 obtain⟨-,e0,e1,e2,e3,-⟩:=HX.out.later T6.out
 obtain⟨-,a0,a1,a2⟩:=HVa.out.later UaT6.out
 obtain⟨-,b0,b1,b2⟩:=HVb.out
 obtain⟨z0,z1,z2,f0,f1,f2,B9⟩:=fin_at HB T6 G1 HZ Ab.k Ab.n ⟨Ab.s.toArray⟩
 go_wp2_with fail
 exact bodyPost_ret (v:=V3 Ab.k Ab.n ⟨Ab.s.toArray⟩) (by simp[results,results130,go_sem, *]) rfl ⟨by rw[HE.out,HAb.out],B9.out⟩
theorem rlogic_andA (g gk o cap:Nat) (n:Int) (s:ByteArray) (a b:Va) (w:World) (ha:a.ok) (xa:RKid g w gk (o) a) (hb:b.ok) (xb:RKid g w gk (o+4) b) (hk:a.k=2) (hn:¬ a.n=1) :
  Calls prog 130 #[.pointer (some ⟨g,0,none⟩),.agg #[.int .i64 16,.int .i64 n,.string s,.slice (some ⟨gk,o,none⟩) 2 cap]] w (RCom w (wantV 2 a (if a.n=1 then wantV 2 b b else a))):=by
 generalize hPV:wantV 2 a (if a.n=1 then wantV 2 b b else a)=PV
 have HPV:=hid hPV
 clear hPV
 obtain⟨w1,w2,hw1,hw2,G1,HB,HZ,HX⟩:=ent w 16 n s (.slice (some ⟨gk,o,none⟩) 2 cap)
 have HKa:=hid (xa.later HB.out)
 have HKb:=hid (xb.later HB.out)
 have T2:=hid (Below.refl w2.heap.size w2)
 clear xa xb
 have HE:=hid (HPV.out.symm.trans (show wantV 2 a (if a.n=1 then wantV 2 b b else a)=a by rw[want_y hk,if_neg hn]))
 have hnz:(a.n == 1)=false:=by simp[hn]
 obtain⟨ka,xa,ta⟩:=a
 obtain⟨kb,xb,tb⟩:=b
 try dsimp only at *
 subst hk
 obtain⟨-,e0,e1,e2,e3,-⟩:=HX.out
 obtain⟨opa,na,sa,kva,k0,k1,k2,k3,c⟩:=wyk HKa T2 2 ha (okW_eq rfl (by decide) (by decide))
 go_enter func130,ntmps130
 go_wp2_with fail
 refine c.mono ?_
 rintro e w3 ⟨rfl,b⟩
 obtain⟨w4,hw4,HVa,d⟩:=vbl w3 2 xa ta
 have T4:=hid (below_to T2.out (below_to b d))
 clear e0 e1 e2 e3 c d b k0 k1 k2 k3
 obtain⟨-,e0,e1,e2,e3,-⟩:=HX.out.later T4.out
 obtain⟨-,a0,a1,a2⟩:=HVa.out
 obtain⟨z0,z1,z2,f0,f1,f2,B9⟩:=fin_at HB T4 G1 HZ 2 xa ⟨ta.toArray⟩
 go_wp2_with fail
 exact bodyPost_ret (v:=V3 2 xa ⟨ta.toArray⟩) (by simp[results,results130,go_sem, *]) rfl ⟨by rw[HE.out],B9.out⟩
theorem rlogic_or0 (g gk o cap:Nat) (n:Int) (s:ByteArray) (a b:Va) (w:World) (ha:a.ok) (xa:RKid g w gk (o) a) (hb:b.ok) (xb:RKid g w gk (o+4) b) (hk:a.k≠2) :
  Calls prog 130 #[.pointer (some ⟨g,0,none⟩),.agg #[.int .i64 17,.int .i64 n,.string s,.slice (some ⟨gk,o,none⟩) 2 cap]] w (RCom w (wantV 2 a (if a.n=1 then a else wantV 2 b b))):=by
 generalize hPV:wantV 2 a (if a.n=1 then a else wantV 2 b b)=PV
 have HPV:=hid hPV
 clear hPV
 obtain⟨w1,w2,hw1,hw2,G1,HB,HZ,HX⟩:=ent w 17 n s (.slice (some ⟨gk,o,none⟩) 2 cap)
 have HKa:=hid (xa.later HB.out)
 have HKb:=hid (xb.later HB.out)
 have T2:=hid (Below.refl w2.heap.size w2)
 clear xa xb
 obtain⟨ka,xa,ta⟩:=a
 obtain⟨kb,xb,tb⟩:=b
 try dsimp only at *
 obtain⟨-,e0,e1,e2,e3,-⟩:=HX.out
 obtain⟨Aa,HAa,opa,na,sa,kva,k0,k1,k2,k3,c⟩:=wnk HKa T2 2 (okW_ne hk (by decide))
 go_enter func130,ntmps130
 go_wp2_with fail
 refine c.mono ?_
 rintro e w3 ⟨rfl,b⟩
 obtain⟨w4,hw4,HVa,d⟩:=vbl w3 Aa.k Aa.n Aa.s
 have T4:=hid (below_to T2.out (below_to b d))
 clear e0 e1 e2 e3 c d b k0 k1 k2 k3
 obtain⟨-,e0,e1,e2,e3,-⟩:=HX.out.later T4.out
 obtain⟨-,a0,a1,a2⟩:=HVa.out
 obtain⟨z0,z1,z2,f0,f1,f2,B9⟩:=fin_at HB T4 G1 HZ Aa.k Aa.n ⟨Aa.s.toArray⟩
 go_wp2_with fail
 exact bodyPost_ret (v:=V3 Aa.k Aa.n ⟨Aa.s.toArray⟩) (by simp[results,results130,go_sem, *]) rfl ⟨by rw[← HPV.out,want_n hk,HAa.out],B9.out⟩
theorem rlogic_orA (g gk o cap:Nat) (n:Int) (s:ByteArray) (a b:Va) (w:World) (ha:a.ok) (xa:RKid g w gk (o) a) (hb:b.ok) (xb:RKid g w gk (o+4) b) (hk:a.k=2) (hn:a.n=1) :
  Calls prog 130 #[.pointer (some ⟨g,0,none⟩),.agg #[.int .i64 17,.int .i64 n,.string s,.slice (some ⟨gk,o,none⟩) 2 cap]] w (RCom w (wantV 2 a (if a.n=1 then a else wantV 2 b b))):=by
 generalize hPV:wantV 2 a (if a.n=1 then a else wantV 2 b b)=PV
 have HPV:=hid hPV
 clear hPV
 obtain⟨w1,w2,hw1,hw2,G1,HB,HZ,HX⟩:=ent w 17 n s (.slice (some ⟨gk,o,none⟩) 2 cap)
 have HKa:=hid (xa.later HB.out)
 have HKb:=hid (xb.later HB.out)
 have T2:=hid (Below.refl w2.heap.size w2)
 clear xa xb
 have HE:=hid (HPV.out.symm.trans (show wantV 2 a (if a.n=1 then a else wantV 2 b b)=a by rw[want_y hk,if_pos hn]))
 obtain⟨ka,xa,ta⟩:=a
 obtain⟨kb,xb,tb⟩:=b
 try dsimp only at *
 subst hk
 subst hn
 obtain⟨-,e0,e1,e2,e3,-⟩:=HX.out
 obtain⟨opa,na,sa,kva,k0,k1,k2,k3,c⟩:=wyk HKa T2 2 ha (okW_eq rfl (by decide) (by decide))
 go_enter func130,ntmps130
 go_wp2_with fail
 refine c.mono ?_
 rintro e w3 ⟨rfl,b⟩
 obtain⟨w4,hw4,HVa,d⟩:=vbl w3 2 1 ta
 have T4:=hid (below_to T2.out (below_to b d))
 clear e0 e1 e2 e3 c d b k0 k1 k2 k3
 obtain⟨-,e0,e1,e2,e3,-⟩:=HX.out.later T4.out
 obtain⟨-,a0,a1,a2⟩:=HVa.out
 obtain⟨z0,z1,z2,f0,f1,f2,B9⟩:=fin_at HB T4 G1 HZ 2 1 ⟨ta.toArray⟩
 go_wp2_with fail
 exact bodyPost_ret (v:=V3 2 1 ⟨ta.toArray⟩) (by simp[results,results130,go_sem, *]) rfl ⟨by rw[HE.out],B9.out⟩
theorem rlogic_orB1 (g gk o cap:Nat) (n:Int) (s:ByteArray) (a b:Va) (w:World) (ha:a.ok) (xa:RKid g w gk (o) a) (hb:b.ok) (xb:RKid g w gk (o+4) b) (hk:a.k=2) (hn:¬ a.n=1) (hl:b.k=2) :
  Calls prog 130 #[.pointer (some ⟨g,0,none⟩),.agg #[.int .i64 17,.int .i64 n,.string s,.slice (some ⟨gk,o,none⟩) 2 cap]] w (RCom w (wantV 2 a (if a.n=1 then a else wantV 2 b b))):=by
 generalize hPV:wantV 2 a (if a.n=1 then a else wantV 2 b b)=PV
 have HPV:=hid hPV
 clear hPV
 obtain⟨w1,w2,hw1,hw2,G1,HB,HZ,HX⟩:=ent w 17 n s (.slice (some ⟨gk,o,none⟩) 2 cap)
 have HKa:=hid (xa.later HB.out)
 have HKb:=hid (xb.later HB.out)
 have T2:=hid (Below.refl w2.heap.size w2)
 clear xa xb
 have HE:=hid (HPV.out.symm.trans (show wantV 2 a (if a.n=1 then a else wantV 2 b b)=b by rw[want_y hk,if_neg hn,want_y hl]))
 have hnz:(a.n == 1)=false:=by simp[hn]
 obtain⟨ka,xa,ta⟩:=a
 obtain⟨kb,xb,tb⟩:=b
 try dsimp only at *
 subst hk
 subst hl
 obtain⟨-,e0,e1,e2,e3,-⟩:=HX.out
 obtain⟨opa,na,sa,kva,k0,k1,k2,k3,c⟩:=wyk HKa T2 2 ha (okW_eq rfl (by decide) (by decide))
 go_enter func130,ntmps130
 go_wp2_with fail
 refine c.mono ?_
 rintro e w3 ⟨rfl,b⟩
 obtain⟨w4,hw4,HVa,d⟩:=vbl w3 2 xa ta
 have T4:=hid (below_to T2.out (below_to b d))
 clear e0 e1 e2 e3 c d b k0 k1 k2 k3
 obtain⟨-,e0,e1,e2,e3,-⟩:=HX.out.later T4.out
 obtain⟨-,a0,a1,a2⟩:=HVa.out
 obtain⟨opb,nb,sb,kvb,k0,k1,k2,k3,c⟩:=wyk HKb T4 2 hb (okW_eq rfl (by decide) (by decide))
 go_wp2_with fail
 refine c.mono ?_
 rintro e w5 ⟨rfl,b⟩
 obtain⟨w6,hw6,HVb,d⟩:=vbl w5 2 xb tb
 have T6:=hid (below_to T4.out (below_to b d))
 have UaT6:=hid (below_to b d)
 clear e0 e1 e2 e3 a0 a1 a2 c d b k0 k1 k2 k3
 obtain⟨-,e0,e1,e2,e3,-⟩:=HX.out.later T6.out
 obtain⟨-,a0,a1,a2⟩:=HVa.out.later UaT6.out
 obtain⟨-,b0,b1,b2⟩:=HVb.out
 obtain⟨z0,z1,z2,f0,f1,f2,B9⟩:=fin_at HB T6 G1 HZ 2 xb ⟨tb.toArray⟩
 go_wp2_with fail
 exact bodyPost_ret (v:=V3 2 xb ⟨tb.toArray⟩) (by simp[results,results130,go_sem, *]) rfl ⟨by rw[HE.out],B9.out⟩
theorem rlogic_orB2 (g gk o cap:Nat) (n:Int) (s:ByteArray) (a b:Va) (w:World) (ha:a.ok) (xa:RKid g w gk (o) a) (hb:b.ok) (xb:RKid g w gk (o+4) b) (hk:a.k=2) (hn:¬ a.n=1) (hl:b.k≠2) :
  Calls prog 130 #[.pointer (some ⟨g,0,none⟩),.agg #[.int .i64 17,.int .i64 n,.string s,.slice (some ⟨gk,o,none⟩) 2 cap]] w (RCom w (wantV 2 a (if a.n=1 then a else wantV 2 b b))):=by
 generalize hPV:wantV 2 a (if a.n=1 then a else wantV 2 b b)=PV
 have HPV:=hid hPV
 clear hPV
 obtain⟨w1,w2,hw1,hw2,G1,HB,HZ,HX⟩:=ent w 17 n s (.slice (some ⟨gk,o,none⟩) 2 cap)
 have HKa:=hid (xa.later HB.out)
 have HKb:=hid (xb.later HB.out)
 have T2:=hid (Below.refl w2.heap.size w2)
 clear xa xb
 have HE:=hid (HPV.out.symm.trans (show wantV 2 a (if a.n=1 then a else wantV 2 b b)=wrongV b by rw[want_y hk,if_neg hn,want_n hl]))
 have hnz:(a.n == 1)=false:=by simp[hn]
 obtain⟨ka,xa,ta⟩:=a
 obtain⟨kb,xb,tb⟩:=b
 try dsimp only at *
 subst hk
 obtain⟨-,e0,e1,e2,e3,-⟩:=HX.out
 obtain⟨opa,na,sa,kva,k0,k1,k2,k3,c⟩:=wyk HKa T2 2 ha (okW_eq rfl (by decide) (by decide))
 go_enter func130,ntmps130
 go_wp2_with fail
 refine c.mono ?_
 rintro e w3 ⟨rfl,b⟩
 obtain⟨w4,hw4,HVa,d⟩:=vbl w3 2 xa ta
 have T4:=hid (below_to T2.out (below_to b d))
 clear e0 e1 e2 e3 c d b k0 k1 k2 k3
 obtain⟨-,e0,e1,e2,e3,-⟩:=HX.out.later T4.out
 obtain⟨-,a0,a1,a2⟩:=HVa.out
 obtain⟨Ab,HAb,opb,nb,sb,kvb,k0,k1,k2,k3,c⟩:=wnk HKb T4 2 (okW_ne hl (by decide))
 go_wp2_with fail
 refine c.mono ?_
 rintro e w5 ⟨rfl,b⟩
 obtain⟨w6,hw6,HVb,d⟩:=vbl w5 Ab.k Ab.n Ab.s
 have T6:=hid (below_to T4.out (below_to b d))
 have UaT6:=hid (below_to b d)
 clear e0 e1 e2 e3 a0 a1 a2 c d b k0 k1 k2 k3
 obtain⟨-,e0,e1,e2,e3,-⟩:=HX.out.later T6.out
 obtain⟨-,a0,a1,a2⟩:=HVa.out.later UaT6.out
 obtain⟨-,b0,b1,b2⟩:=HVb.out
 obtain⟨z0,z1,z2,f0,f1,f2,B9⟩:=fin_at HB T6 G1 HZ Ab.k Ab.n ⟨Ab.s.toArray⟩
 go_wp2_with fail
 exact bodyPost_ret (v:=V3 Ab.k Ab.n ⟨Ab.s.toArray⟩) (by simp[results,results130,go_sem, *]) rfl ⟨by rw[HE.out,HAb.out],B9.out⟩
theorem rtexts_len0 (g gk o cap:Nat) (n:Int) (s:ByteArray) (a:Va) (w:World) (ha:a.ok) (xa:RKid g w gk (o) a) (hk:a.k≠3) :
  Calls prog 132 #[.pointer (some ⟨g,0,none⟩),.agg #[.int .i64 19,.int .i64 n,.string s,.slice (some ⟨gk,o,none⟩) 1 cap]] w (RCom w (wantV 3 a ⟨1,(countL a.s:Int),[]⟩)):=by
 generalize hPV:wantV 3 a ⟨1,(countL a.s:Int),[]⟩=PV
 have HPV:=hid hPV
 clear hPV
 obtain⟨w1,w2,hw1,hw2,G1,HB,HZ,HX⟩:=ent w 19 n s (.slice (some ⟨gk,o,none⟩) 1 cap)
 have HKa:=hid (xa.later HB.out)
 have T2:=hid (Below.refl w2.heap.size w2)
 clear xa
 obtain⟨ka,xa,ta⟩:=a
 try dsimp only at *
 obtain⟨-,e0,e1,e2,e3,-⟩:=HX.out
 obtain⟨Aa,HAa,opa,na,sa,kva,k0,k1,k2,k3,c⟩:=wnk HKa T2 3 (okW_ne hk (by decide))
 go_enter func132,ntmps132
 go_wp2_with fail
 refine c.mono ?_
 rintro e w3 ⟨rfl,b⟩
 obtain⟨w4,hw4,HVa,d⟩:=vbl w3 Aa.k Aa.n Aa.s
 have T4:=hid (below_to T2.out (below_to b d))
 clear e0 e1 e2 e3 c d b k0 k1 k2 k3
 obtain⟨-,e0,e1,e2,e3,-⟩:=HX.out.later T4.out
 obtain⟨-,a0,a1,a2⟩:=HVa.out
 obtain⟨z0,z1,z2,f0,f1,f2,B9⟩:=fin_at HB T4 G1 HZ Aa.k Aa.n ⟨Aa.s.toArray⟩
 go_wp2_with fail
 exact bodyPost_ret (v:=V3 Aa.k Aa.n ⟨Aa.s.toArray⟩) (by simp[results,results132,go_sem, *]) rfl ⟨by rw[← HPV.out,want_n hk,HAa.out],B9.out⟩
theorem rtexts_len1 (g gk o cap:Nat) (n:Int) (s:ByteArray) (a:Va) (w:World) (ha:a.ok) (xa:RKid g w gk (o) a) (hk:a.k=3) :
  Calls prog 132 #[.pointer (some ⟨g,0,none⟩),.agg #[.int .i64 19,.int .i64 n,.string s,.slice (some ⟨gk,o,none⟩) 1 cap]] w (RCom w (wantV 3 a ⟨1,(countL a.s:Int),[]⟩)):=by
 generalize hPV:wantV 3 a ⟨1,(countL a.s:Int),[]⟩=PV
 have HPV:=hid hPV
 clear hPV
 obtain⟨w1,w2,hw1,hw2,G1,HB,HZ,HX⟩:=ent w 19 n s (.slice (some ⟨gk,o,none⟩) 1 cap)
 have HKa:=hid (xa.later HB.out)
 have T2:=hid (Below.refl w2.heap.size w2)
 clear xa
 have HE:=hid (HPV.out.symm.trans (show wantV 3 a ⟨1,(countL a.s:Int),[]⟩=⟨1,(countL a.s:Int),[]⟩ by rw[want_y hk]))
 have HL:=hid (show (⟨a.s.toArray⟩:ByteArray).size≤1099511627776 by have:=ha.len hk;rw[show (⟨a.s.toArray⟩:ByteArray).size=a.s.length from List.size_toArray];omega)
 obtain⟨ka,xa,ta⟩:=a
 try dsimp only at *
 subst hk
 obtain⟨K,hK⟩:∃ x,(countL ta:Int)=x:=⟨_,rfl⟩
 rw[hK] at HE
 have HK:=hid hK
 clear hK
 obtain⟨-,e0,e1,e2,e3,-⟩:=HX.out
 obtain⟨opa,na,sa,kva,k0,k1,k2,k3,c⟩:=wyk HKa T2 3 ha (okW_eq rfl (by decide) (by decide))
 go_enter func132,ntmps132
 go_wp2_with fail
 refine c.mono ?_
 rintro e w3 ⟨rfl,b⟩
 obtain⟨w4,hw4,HVa,d⟩:=vbl w3 3 xa ta
 have T4:=hid (below_to T2.out (below_to b d))
 clear e0 e1 e2 e3 c d b k0 k1 k2 k3
 obtain⟨-,e0,e1,e2,e3,-⟩:=HX.out.later T4.out
 obtain⟨-,a0,a1,a2⟩:=HVa.out
 have c:Calls prog 212 #[.string ⟨ta.toArray⟩] w4 fun e w'=>e=.returned (.int .i64 K)∧Below w4.heap.size w4 w':=by rw[← HK.out];exact refCount_any ⟨ta.toArray⟩ w4 HL.out
 go_wp2_with fail
 refine c.mono ?_
 rintro e w5 ⟨rfl,b5⟩
 have T5:=hid (below_to T4.out b5)
 have UaT5:=hid b5
 clear e0 e1 e2 e3 a0 a1 a2 c b5
 obtain⟨-,e0,e1,e2,e3,-⟩:=HX.out.later T5.out
 obtain⟨-,a0,a1,a2⟩:=HVa.out.later UaT5.out
 have c:Calls prog 127 #[.int .i64 K] w5 fun e w'=>e=.returned (V3 1 K ⟨#[]⟩)∧Below w5.heap.size w5 w':=rnum_any K w5
 go_wp2_with fail
 refine c.mono ?_
 rintro e w6 ⟨rfl,b6⟩
 have T6:=hid (below_to T5.out b6)
 have UaT6:=hid (below_to UaT5.out b6)
 clear e0 e1 e2 e3 a0 a1 a2 c b6
 obtain⟨-,e0,e1,e2,e3,-⟩:=HX.out.later T6.out
 obtain⟨-,a0,a1,a2⟩:=HVa.out.later UaT6.out
 obtain⟨z0,z1,z2,f0,f1,f2,B9⟩:=fin_at HB T6 G1 HZ 1 K ⟨#[]⟩
 go_wp2_with fail
 exact bodyPost_ret (v:=V3 1 K ⟨#[]⟩) (by simp[results,results132,go_sem, *]) rfl ⟨by rw[HE.out],B9.out⟩
theorem rtexts_up0 (g gk o cap:Nat) (n:Int) (s:ByteArray) (a:Va) (w:World) (ha:a.ok) (xa:RKid g w gk (o) a) (hk:a.k≠3) :
  Calls prog 132 #[.pointer (some ⟨g,0,none⟩),.agg #[.int .i64 23,.int .i64 n,.string s,.slice (some ⟨gk,o,none⟩) 1 cap]] w (RCom w (wantV 3 a (texV (foldL a.s)))):=by
 generalize hPV:wantV 3 a (texV (foldL a.s))=PV
 have HPV:=hid hPV
 clear hPV
 obtain⟨w1,w2,hw1,hw2,G1,HB,HZ,HX⟩:=ent w 23 n s (.slice (some ⟨gk,o,none⟩) 1 cap)
 have HKa:=hid (xa.later HB.out)
 have T2:=hid (Below.refl w2.heap.size w2)
 clear xa
 obtain⟨ka,xa,ta⟩:=a
 try dsimp only at *
 obtain⟨-,e0,e1,e2,e3,-⟩:=HX.out
 obtain⟨Aa,HAa,opa,na,sa,kva,k0,k1,k2,k3,c⟩:=wnk HKa T2 3 (okW_ne hk (by decide))
 go_enter func132,ntmps132
 go_wp2_with fail
 refine c.mono ?_
 rintro e w3 ⟨rfl,b⟩
 obtain⟨w4,hw4,HVa,d⟩:=vbl w3 Aa.k Aa.n Aa.s
 have T4:=hid (below_to T2.out (below_to b d))
 clear e0 e1 e2 e3 c d b k0 k1 k2 k3
 obtain⟨-,e0,e1,e2,e3,-⟩:=HX.out.later T4.out
 obtain⟨-,a0,a1,a2⟩:=HVa.out
 obtain⟨z0,z1,z2,f0,f1,f2,B9⟩:=fin_at HB T4 G1 HZ Aa.k Aa.n ⟨Aa.s.toArray⟩
 go_wp2_with fail
 exact bodyPost_ret (v:=V3 Aa.k Aa.n ⟨Aa.s.toArray⟩) (by simp[results,results132,go_sem, *]) rfl ⟨by rw[← HPV.out,want_n hk,HAa.out],B9.out⟩
theorem rtexts_up1 (g gk o cap:Nat) (n:Int) (s:ByteArray) (a:Va) (w:World) (ha:a.ok) (xa:RKid g w gk (o) a) (hk:a.k=3) (hf:(foldL a.s).length≤100000) :
  Calls prog 132 #[.pointer (some ⟨g,0,none⟩),.agg #[.int .i64 23,.int .i64 n,.string s,.slice (some ⟨gk,o,none⟩) 1 cap]] w (RCom w (wantV 3 a (texV (foldL a.s)))):=by
 generalize hPV:wantV 3 a (texV (foldL a.s))=PV
 have HPV:=hid hPV
 clear hPV
 obtain⟨w1,w2,hw1,hw2,G1,HB,HZ,HX⟩:=ent w 23 n s (.slice (some ⟨gk,o,none⟩) 1 cap)
 have HKa:=hid (xa.later HB.out)
 have T2:=hid (Below.refl w2.heap.size w2)
 clear xa
 have HE:=hid (HPV.out.symm.trans (show wantV 3 a (texV (foldL a.s))=texV (foldL a.s) by rw[want_y hk]))
 have HL:=hid (show (⟨a.s.toArray⟩:ByteArray).size≤1099511627776 by have:=ha.len hk;rw[show (⟨a.s.toArray⟩:ByteArray).size=a.s.length from List.size_toArray];omega)
 have HF:=hid hf
 clear hf
 obtain⟨ka,xa,ta⟩:=a
 try dsimp only at *
 subst hk
 obtain⟨K,hK⟩:∃ x,foldL ta=x:=⟨_,rfl⟩
 rw[hK] at HE HF
 have HK:=hid hK
 clear hK
 obtain⟨R,hR⟩:∃ x,texV K=x:=⟨_,rfl⟩
 rw[hR] at HE
 have HR:=hid hR
 clear hR
 obtain⟨-,e0,e1,e2,e3,-⟩:=HX.out
 obtain⟨opa,na,sa,kva,k0,k1,k2,k3,c⟩:=wyk HKa T2 3 ha (okW_eq rfl (by decide) (by decide))
 go_enter func132,ntmps132
 go_wp2_with fail
 refine c.mono ?_
 rintro e w3 ⟨rfl,b⟩
 obtain⟨w4,hw4,HVa,d⟩:=vbl w3 3 xa ta
 have T4:=hid (below_to T2.out (below_to b d))
 clear e0 e1 e2 e3 c d b k0 k1 k2 k3
 obtain⟨-,e0,e1,e2,e3,-⟩:=HX.out.later T4.out
 obtain⟨-,a0,a1,a2⟩:=HVa.out
 have c:Calls prog 214 #[.string ⟨ta.toArray⟩] w4 fun e w'=>e=.returned (.string ⟨K.toArray⟩)∧Below w4.heap.size w4 w':=by rw[← HK.out];exact refFold_any ⟨ta.toArray⟩ w4 HL.out
 go_wp2_with fail
 refine c.mono ?_
 rintro e w5 ⟨rfl,b5⟩
 have T5:=hid (below_to T4.out b5)
 have UaT5:=hid b5
 clear e0 e1 e2 e3 a0 a1 a2 c b5
 obtain⟨-,e0,e1,e2,e3,-⟩:=HX.out.later T5.out
 obtain⟨-,a0,a1,a2⟩:=HVa.out.later UaT5.out
 have c:Calls prog 213 #[.string ⟨K.toArray⟩] w5 fun e w'=>e=.returned (V3 R.k R.n ⟨R.s.toArray⟩)∧Below w5.heap.size w5 w':=(by rw[← HR.out];exact rtext_any K w5 HF.out)
 go_wp2_with fail
 refine c.mono ?_
 rintro e w6 ⟨rfl,b6⟩
 have T6:=hid (below_to T5.out b6)
 have UaT6:=hid (below_to UaT5.out b6)
 clear e0 e1 e2 e3 a0 a1 a2 c b6
 obtain⟨-,e0,e1,e2,e3,-⟩:=HX.out.later T6.out
 obtain⟨-,a0,a1,a2⟩:=HVa.out.later UaT6.out
 obtain⟨z0,z1,z2,f0,f1,f2,B9⟩:=fin_at HB T6 G1 HZ R.k R.n ⟨R.s.toArray⟩
 go_wp2_with fail
 exact bodyPost_ret (v:=V3 R.k R.n ⟨R.s.toArray⟩) (by simp[results,results132,go_sem, *]) rfl ⟨by rw[HE.out],B9.out⟩
theorem rtexts_cat0 (g gk o cap:Nat) (n:Int) (s:ByteArray) (a b:Va) (w:World) (ha:a.ok) (xa:RKid g w gk (o) a) (hb:b.ok) (xb:RKid g w gk (o+4) b) (hk:a.k≠3) :
  Calls prog 132 #[.pointer (some ⟨g,0,none⟩),.agg #[.int .i64 20,.int .i64 n,.string s,.slice (some ⟨gk,o,none⟩) 2 cap]] w (RCom w (wantV 3 a (wantV 3 b (texV (a.s++b.s))))):=by
 generalize hPV:wantV 3 a (wantV 3 b (texV (a.s++b.s)))=PV
 have HPV:=hid hPV
 clear hPV
 obtain⟨w1,w2,hw1,hw2,G1,HB,HZ,HX⟩:=ent w 20 n s (.slice (some ⟨gk,o,none⟩) 2 cap)
 have HKa:=hid (xa.later HB.out)
 have HKb:=hid (xb.later HB.out)
 have T2:=hid (Below.refl w2.heap.size w2)
 clear xa xb
 obtain⟨ka,xa,ta⟩:=a
 obtain⟨kb,xb,tb⟩:=b
 try dsimp only at *
 obtain⟨-,e0,e1,e2,e3,-⟩:=HX.out
 obtain⟨Aa,HAa,opa,na,sa,kva,k0,k1,k2,k3,c⟩:=wnk HKa T2 3 (okW_ne hk (by decide))
 go_enter func132,ntmps132
 go_wp2_with fail
 refine c.mono ?_
 rintro e w3 ⟨rfl,b⟩
 obtain⟨w4,hw4,HVa,d⟩:=vbl w3 Aa.k Aa.n Aa.s
 have T4:=hid (below_to T2.out (below_to b d))
 clear e0 e1 e2 e3 c d b k0 k1 k2 k3
 obtain⟨-,e0,e1,e2,e3,-⟩:=HX.out.later T4.out
 obtain⟨-,a0,a1,a2⟩:=HVa.out
 obtain⟨z0,z1,z2,f0,f1,f2,B9⟩:=fin_at HB T4 G1 HZ Aa.k Aa.n ⟨Aa.s.toArray⟩
 go_wp2_with fail
 exact bodyPost_ret (v:=V3 Aa.k Aa.n ⟨Aa.s.toArray⟩) (by simp[results,results132,go_sem, *]) rfl ⟨by rw[← HPV.out,want_n hk,HAa.out],B9.out⟩
theorem rtexts_catB (g gk o cap:Nat) (n:Int) (s:ByteArray) (a b:Va) (w:World) (ha:a.ok) (xa:RKid g w gk (o) a) (hb:b.ok) (xb:RKid g w gk (o+4) b) (hk:a.k=3) (hl:b.k≠3) :
  Calls prog 132 #[.pointer (some ⟨g,0,none⟩),.agg #[.int .i64 20,.int .i64 n,.string s,.slice (some ⟨gk,o,none⟩) 2 cap]] w (RCom w (wantV 3 a (wantV 3 b (texV (a.s++b.s))))):=by
 generalize hPV:wantV 3 a (wantV 3 b (texV (a.s++b.s)))=PV
 have HPV:=hid hPV
 clear hPV
 obtain⟨w1,w2,hw1,hw2,G1,HB,HZ,HX⟩:=ent w 20 n s (.slice (some ⟨gk,o,none⟩) 2 cap)
 have HKa:=hid (xa.later HB.out)
 have HKb:=hid (xb.later HB.out)
 have T2:=hid (Below.refl w2.heap.size w2)
 clear xa xb
 obtain⟨ka,xa,ta⟩:=a
 obtain⟨kb,xb,tb⟩:=b
 try dsimp only at *
 subst hk
 obtain⟨-,e0,e1,e2,e3,-⟩:=HX.out
 obtain⟨opa,na,sa,kva,k0,k1,k2,k3,c⟩:=wyk HKa T2 3 ha (okW_eq rfl (by decide) (by decide))
 go_enter func132,ntmps132
 go_wp2_with fail
 refine c.mono ?_
 rintro e w3 ⟨rfl,b⟩
 obtain⟨w4,hw4,HVa,d⟩:=vbl w3 3 xa ta
 have T4:=hid (below_to T2.out (below_to b d))
 clear e0 e1 e2 e3 c d b k0 k1 k2 k3
 obtain⟨-,e0,e1,e2,e3,-⟩:=HX.out.later T4.out
 obtain⟨-,a0,a1,a2⟩:=HVa.out
 obtain⟨Ab,HAb,opb,nb,sb,kvb,k0,k1,k2,k3,c⟩:=wnk HKb T4 3 (okW_ne hl (by decide))
 go_wp2_with fail
 refine c.mono ?_
 rintro e w5 ⟨rfl,b⟩
 obtain⟨w6,hw6,HVb,d⟩:=vbl w5 Ab.k Ab.n Ab.s
 have T6:=hid (below_to T4.out (below_to b d))
 have UaT6:=hid (below_to b d)
 clear e0 e1 e2 e3 a0 a1 a2 c d b k0 k1 k2 k3
 obtain⟨-,e0,e1,e2,e3,-⟩:=HX.out.later T6.out
 obtain⟨-,a0,a1,a2⟩:=HVa.out.later UaT6.out
 obtain⟨-,b0,b1,b2⟩:=HVb.out
 obtain⟨z0,z1,z2,f0,f1,f2,B9⟩:=fin_at HB T6 G1 HZ Ab.k Ab.n ⟨Ab.s.toArray⟩
 go_wp2_with fail
 exact bodyPost_ret (v:=V3 Ab.k Ab.n ⟨Ab.s.toArray⟩) (by simp[results,results132,go_sem, *]) rfl ⟨by rw[← HPV.out,want_y (K:=3) (a:=⟨3,xa,ta⟩) rfl,want_n hl,HAb.out],B9.out⟩
theorem rtexts_cat1 (g gk o cap:Nat) (n:Int) (s:ByteArray) (a b:Va) (w:World) (ha:a.ok) (xa:RKid g w gk (o) a) (hb:b.ok) (xb:RKid g w gk (o+4) b) (hk:a.k=3) (hl:b.k=3) :
  Calls prog 132 #[.pointer (some ⟨g,0,none⟩),.agg #[.int .i64 20,.int .i64 n,.string s,.slice (some ⟨gk,o,none⟩) 2 cap]] w (RCom w (wantV 3 a (wantV 3 b (texV (a.s++b.s))))):=by
 generalize hPV:wantV 3 a (wantV 3 b (texV (a.s++b.s)))=PV
 have HPV:=hid hPV
 clear hPV
 obtain⟨w1,w2,hw1,hw2,G1,HB,HZ,HX⟩:=ent w 20 n s (.slice (some ⟨gk,o,none⟩) 2 cap)
 have HKa:=hid (xa.later HB.out)
 have HKb:=hid (xb.later HB.out)
 have T2:=hid (Below.refl w2.heap.size w2)
 clear xa xb
 have HE:=hid (HPV.out.symm.trans (show wantV 3 a (wantV 3 b (texV (a.s++b.s)))=texV (a.s++b.s) by rw[want_y hk,want_y hl]))
 have HF:=hid (show (a.s++b.s).length≤100000 by have:=ha.len hk;have:=hb.len hl;rw[List.length_append];omega)
 have hsz:¬ 9223372036854775807<(⟨a.s.toArray⟩:ByteArray).size+(⟨b.s.toArray⟩:ByteArray).size:=by have:=ha.len hk;have:=hb.len hl;rw[show (⟨a.s.toArray⟩:ByteArray).size=a.s.length from List.size_toArray,show (⟨b.s.toArray⟩:ByteArray).size=b.s.length from List.size_toArray];omega
 have happ:=app_cat a.s b.s
 obtain⟨ka,xa,ta⟩:=a
 obtain⟨kb,xb,tb⟩:=b
 try dsimp only at *
 subst hk
 subst hl
 obtain⟨K,hK⟩:∃ x,ta++tb=x:=⟨_,rfl⟩
 rw[hK] at HE HF happ
 have HK:=hid hK
 clear hK
 obtain⟨R,hR⟩:∃ x,texV K=x:=⟨_,rfl⟩
 rw[hR] at HE
 have HR:=hid hR
 clear hR
 obtain⟨-,e0,e1,e2,e3,-⟩:=HX.out
 obtain⟨opa,na,sa,kva,k0,k1,k2,k3,c⟩:=wyk HKa T2 3 ha (okW_eq rfl (by decide) (by decide))
 go_enter func132,ntmps132
 go_wp2_with fail
 refine c.mono ?_
 rintro e w3 ⟨rfl,b⟩
 obtain⟨w4,hw4,HVa,d⟩:=vbl w3 3 xa ta
 have T4:=hid (below_to T2.out (below_to b d))
 clear e0 e1 e2 e3 c d b k0 k1 k2 k3
 obtain⟨-,e0,e1,e2,e3,-⟩:=HX.out.later T4.out
 obtain⟨-,a0,a1,a2⟩:=HVa.out
 obtain⟨opb,nb,sb,kvb,k0,k1,k2,k3,c⟩:=wyk HKb T4 3 hb (okW_eq rfl (by decide) (by decide))
 go_wp2_with fail
 refine c.mono ?_
 rintro e w5 ⟨rfl,b⟩
 obtain⟨w6,hw6,HVb,d⟩:=vbl w5 3 xb tb
 have T6:=hid (below_to T4.out (below_to b d))
 have UaT6:=hid (below_to b d)
 clear e0 e1 e2 e3 a0 a1 a2 c d b k0 k1 k2 k3
 obtain⟨-,e0,e1,e2,e3,-⟩:=HX.out.later T6.out
 obtain⟨-,a0,a1,a2⟩:=HVa.out.later UaT6.out
 obtain⟨-,b0,b1,b2⟩:=HVb.out
 have c:Calls prog 213 #[.string ⟨K.toArray⟩] w6 fun e w'=>e=.returned (V3 R.k R.n ⟨R.s.toArray⟩)∧Below w6.heap.size w6 w':=(by rw[← HR.out];exact rtext_any K w6 HF.out)
 go_wp2_with fail
 refine c.mono ?_
 rintro e w7 ⟨rfl,b7⟩
 have T7:=hid (below_to T6.out b7)
 have UaT7:=hid (below_to UaT6.out b7)
 have UbT7:=hid b7
 clear e0 e1 e2 e3 a0 a1 a2 b0 b1 b2 c b7
 obtain⟨-,e0,e1,e2,e3,-⟩:=HX.out.later T7.out
 obtain⟨-,a0,a1,a2⟩:=HVa.out.later UaT7.out
 obtain⟨-,b0,b1,b2⟩:=HVb.out.later UbT7.out
 obtain⟨z0,z1,z2,f0,f1,f2,B9⟩:=fin_at HB T7 G1 HZ R.k R.n ⟨R.s.toArray⟩
 go_wp2_with fail
 exact bodyPost_ret (v:=V3 R.k R.n ⟨R.s.toArray⟩) (by simp[results,results132,go_sem, *]) rfl ⟨by rw[HE.out],B9.out⟩
theorem rtexts_cut0 (g gk o cap:Nat) (n:Int) (s:ByteArray) (a b:Va) (w:World) (ha:a.ok) (xa:RKid g w gk (o) a) (hb:b.ok) (xb:RKid g w gk (o+4) b) (hk:a.k≠3) :
  Calls prog 132 #[.pointer (some ⟨g,0,none⟩),.agg #[.int .i64 21,.int .i64 n,.string s,.slice (some ⟨gk,o,none⟩) 2 cap]] w (RCom w (wantV 3 a (wantV 1 b ⟨3,0,cutL a.s b.n.toNat⟩))):=by
 generalize hPV:wantV 3 a (wantV 1 b ⟨3,0,cutL a.s b.n.toNat⟩)=PV
 have HPV:=hid hPV
 clear hPV
 obtain⟨w1,w2,hw1,hw2,G1,HB,HZ,HX⟩:=ent w 21 n s (.slice (some ⟨gk,o,none⟩) 2 cap)
 have HKa:=hid (xa.later HB.out)
 have HKb:=hid (xb.later HB.out)
 have T2:=hid (Below.refl w2.heap.size w2)
 clear xa xb
 obtain⟨ka,xa,ta⟩:=a
 obtain⟨kb,xb,tb⟩:=b
 try dsimp only at *
 obtain⟨-,e0,e1,e2,e3,-⟩:=HX.out
 obtain⟨Aa,HAa,opa,na,sa,kva,k0,k1,k2,k3,c⟩:=wnk HKa T2 3 (okW_ne hk (by decide))
 go_enter func132,ntmps132
 go_wp2_with fail
 refine c.mono ?_
 rintro e w3 ⟨rfl,b⟩
 obtain⟨w4,hw4,HVa,d⟩:=vbl w3 Aa.k Aa.n Aa.s
 have T4:=hid (below_to T2.out (below_to b d))
 clear e0 e1 e2 e3 c d b k0 k1 k2 k3
 obtain⟨-,e0,e1,e2,e3,-⟩:=HX.out.later T4.out
 obtain⟨-,a0,a1,a2⟩:=HVa.out
 obtain⟨z0,z1,z2,f0,f1,f2,B9⟩:=fin_at HB T4 G1 HZ Aa.k Aa.n ⟨Aa.s.toArray⟩
 go_wp2_with fail
 exact bodyPost_ret (v:=V3 Aa.k Aa.n ⟨Aa.s.toArray⟩) (by simp[results,results132,go_sem, *]) rfl ⟨by rw[← HPV.out,want_n hk,HAa.out],B9.out⟩
theorem rtexts_cutB (g gk o cap:Nat) (n:Int) (s:ByteArray) (a b:Va) (w:World) (ha:a.ok) (xa:RKid g w gk (o) a) (hb:b.ok) (xb:RKid g w gk (o+4) b) (hk:a.k=3) (hl:b.k≠1) :
  Calls prog 132 #[.pointer (some ⟨g,0,none⟩),.agg #[.int .i64 21,.int .i64 n,.string s,.slice (some ⟨gk,o,none⟩) 2 cap]] w (RCom w (wantV 3 a (wantV 1 b ⟨3,0,cutL a.s b.n.toNat⟩))):=by
 generalize hPV:wantV 3 a (wantV 1 b ⟨3,0,cutL a.s b.n.toNat⟩)=PV
 have HPV:=hid hPV
 clear hPV
 obtain⟨w1,w2,hw1,hw2,G1,HB,HZ,HX⟩:=ent w 21 n s (.slice (some ⟨gk,o,none⟩) 2 cap)
 have HKa:=hid (xa.later HB.out)
 have HKb:=hid (xb.later HB.out)
 have T2:=hid (Below.refl w2.heap.size w2)
 clear xa xb
 obtain⟨ka,xa,ta⟩:=a
 obtain⟨kb,xb,tb⟩:=b
 try dsimp only at *
 subst hk
 obtain⟨-,e0,e1,e2,e3,-⟩:=HX.out
 obtain⟨opa,na,sa,kva,k0,k1,k2,k3,c⟩:=wyk HKa T2 3 ha (okW_eq rfl (by decide) (by decide))
 go_enter func132,ntmps132
 go_wp2_with fail
 refine c.mono ?_
 rintro e w3 ⟨rfl,b⟩
 obtain⟨w4,hw4,HVa,d⟩:=vbl w3 3 xa ta
 have T4:=hid (below_to T2.out (below_to b d))
 clear e0 e1 e2 e3 c d b k0 k1 k2 k3
 obtain⟨-,e0,e1,e2,e3,-⟩:=HX.out.later T4.out
 obtain⟨-,a0,a1,a2⟩:=HVa.out
 obtain⟨Ab,HAb,opb,nb,sb,kvb,k0,k1,k2,k3,c⟩:=wnk HKb T4 1 (okW_ne hl (by decide))
 go_wp2_with fail
 refine c.mono ?_
 rintro e w5 ⟨rfl,b⟩
 obtain⟨w6,hw6,HVb,d⟩:=vbl w5 Ab.k Ab.n Ab.s
 have T6:=hid (below_to T4.out (below_to b d))
 have UaT6:=hid (below_to b d)
 clear e0 e1 e2 e3 a0 a1 a2 c d b k0 k1 k2 k3
 obtain⟨-,e0,e1,e2,e3,-⟩:=HX.out.later T6.out
 obtain⟨-,a0,a1,a2⟩:=HVa.out.later UaT6.out
 obtain⟨-,b0,b1,b2⟩:=HVb.out
 obtain⟨z0,z1,z2,f0,f1,f2,B9⟩:=fin_at HB T6 G1 HZ Ab.k Ab.n ⟨Ab.s.toArray⟩
 go_wp2_with fail
 exact bodyPost_ret (v:=V3 Ab.k Ab.n ⟨Ab.s.toArray⟩) (by simp[results,results132,go_sem, *]) rfl ⟨by rw[← HPV.out,want_y (K:=3) (a:=⟨3,xa,ta⟩) rfl,want_n hl,HAb.out],B9.out⟩
theorem rtexts_cut1 (g gk o cap:Nat) (n:Int) (s:ByteArray) (a b:Va) (w:World) (ha:a.ok) (xa:RKid g w gk (o) a) (hb:b.ok) (xb:RKid g w gk (o+4) b) (hk:a.k=3) (hl:b.k=1) (hn:100<b.n) :
  Calls prog 132 #[.pointer (some ⟨g,0,none⟩),.agg #[.int .i64 21,.int .i64 n,.string s,.slice (some ⟨gk,o,none⟩) 2 cap]] w (RCom w (wantV 3 a (wantV 1 b ⟨3,0,cutL a.s b.n.toNat⟩))):=by
 generalize hPV:wantV 3 a (wantV 1 b ⟨3,0,cutL a.s b.n.toNat⟩)=PV
 have HPV:=hid hPV
 clear hPV
 obtain⟨w1,w2,hw1,hw2,G1,HB,HZ,HX⟩:=ent w 21 n s (.slice (some ⟨gk,o,none⟩) 2 cap)
 have HKa:=hid (xa.later HB.out)
 have HKb:=hid (xb.later HB.out)
 have T2:=hid (Below.refl w2.heap.size w2)
 clear xa xb
 have HE:=hid (HPV.out.symm.trans (show wantV 3 a (wantV 1 b ⟨3,0,cutL a.s b.n.toNat⟩)=a by rw[want_y hk,want_y hl,cut_big _ _ (by have:=(ha.text hk).2.1;unfold countL at this;omega)];obtain⟨K,m,t⟩:=a;obtain rfl:K=3:=hk;obtain rfl:m=0:=(ha.text rfl).2.2;rfl))
 obtain⟨ka,xa,ta⟩:=a
 obtain⟨kb,xb,tb⟩:=b
 try dsimp only at *
 subst hk
 subst hl
 obtain⟨-,e0,e1,e2,e3,-⟩:=HX.out
 obtain⟨opa,na,sa,kva,k0,k1,k2,k3,c⟩:=wyk HKa T2 3 ha (okW_eq rfl (by decide) (by decide))
 go_enter func132,ntmps132
 go_wp2_with fail
 refine c.mono ?_
 rintro e w3 ⟨rfl,b⟩
 obtain⟨w4,hw4,HVa,d⟩:=vbl w3 3 xa ta
 have T4:=hid (below_to T2.out (below_to b d))
 clear e0 e1 e2 e3 c d b k0 k1 k2 k3
 obtain⟨-,e0,e1,e2,e3,-⟩:=HX.out.later T4.out
 obtain⟨-,a0,a1,a2⟩:=HVa.out
 obtain⟨opb,nb,sb,kvb,k0,k1,k2,k3,c⟩:=wyk HKb T4 1 hb (okW_eq rfl (by decide) (by decide))
 go_wp2_with fail
 refine c.mono ?_
 rintro e w5 ⟨rfl,b⟩
 obtain⟨w6,hw6,HVb,d⟩:=vbl w5 1 xb tb
 have T6:=hid (below_to T4.out (below_to b d))
 have UaT6:=hid (below_to b d)
 clear e0 e1 e2 e3 a0 a1 a2 c d b k0 k1 k2 k3
 obtain⟨-,e0,e1,e2,e3,-⟩:=HX.out.later T6.out
 obtain⟨-,a0,a1,a2⟩:=HVa.out.later UaT6.out
 obtain⟨-,b0,b1,b2⟩:=HVb.out
 obtain⟨z0,z1,z2,f0,f1,f2,B9⟩:=fin_at HB T6 G1 HZ 3 xa ⟨ta.toArray⟩
 go_wp2_with fail
 exact bodyPost_ret (v:=V3 3 xa ⟨ta.toArray⟩) (by simp[results,results132,go_sem, *]) rfl ⟨by rw[HE.out],B9.out⟩
theorem rtexts_cut2 (g gk o cap:Nat) (n:Int) (s:ByteArray) (a b:Va) (w:World) (ha:a.ok) (xa:RKid g w gk (o) a) (hb:b.ok) (xb:RKid g w gk (o+4) b) (hk:a.k=3) (hl:b.k=1) (hn:¬ 100<b.n) :
  Calls prog 132 #[.pointer (some ⟨g,0,none⟩),.agg #[.int .i64 21,.int .i64 n,.string s,.slice (some ⟨gk,o,none⟩) 2 cap]] w (RCom w (wantV 3 a (wantV 1 b ⟨3,0,cutL a.s b.n.toNat⟩))):=by
 generalize hPV:wantV 3 a (wantV 1 b ⟨3,0,cutL a.s b.n.toNat⟩)=PV
 have HPV:=hid hPV
 clear hPV
 obtain⟨w1,w2,hw1,hw2,G1,HB,HZ,HX⟩:=ent w 21 n s (.slice (some ⟨gk,o,none⟩) 2 cap)
 have HKa:=hid (xa.later HB.out)
 have HKb:=hid (xb.later HB.out)
 have T2:=hid (Below.refl w2.heap.size w2)
 clear xa xb
 have HE:=hid (HPV.out.symm.trans (show wantV 3 a (wantV 1 b ⟨3,0,cutL a.s b.n.toNat⟩)=texV (cutL a.s (max b.n 0).toNat) by rw[want_y hk,want_y hl,show (max b.n 0).toNat=b.n.toNat by omega];unfold texV;rw[if_neg (by rw[count_cut];have:=(ha.text hk).2.1;omega)]))
 have HL:=hid (show (⟨a.s.toArray⟩:ByteArray).size≤1099511627776 by have:=ha.len hk;rw[show (⟨a.s.toArray⟩:ByteArray).size=a.s.length from List.size_toArray];omega)
 have HF:=hid (show (cutL a.s (max b.n 0).toNat).length≤100000 by have:=cutL_le a.s (max b.n 0).toNat;have:=ha.len hk;omega)
 obtain⟨ka,xa,ta⟩:=a
 obtain⟨kb,xb,tb⟩:=b
 try dsimp only at *
 subst hk
 subst hl
 obtain⟨M,hM⟩:∃ x,max xb 0=x:=⟨_,rfl⟩
 rw[hM] at HE HF
 obtain⟨K,hK⟩:∃ x,cutL ta M.toNat=x:=⟨_,rfl⟩
 rw[hK] at HE HF
 have HK:=hid hK
 clear hK
 obtain⟨R,hR⟩:∃ x,texV K=x:=⟨_,rfl⟩
 rw[hR] at HE
 have HR:=hid hR
 clear hR
 obtain⟨-,e0,e1,e2,e3,-⟩:=HX.out
 obtain⟨opa,na,sa,kva,k0,k1,k2,k3,c⟩:=wyk HKa T2 3 ha (okW_eq rfl (by decide) (by decide))
 go_enter func132,ntmps132
 go_wp2_with fail
 refine c.mono ?_
 rintro e w3 ⟨rfl,b⟩
 obtain⟨w4,hw4,HVa,d⟩:=vbl w3 3 xa ta
 have T4:=hid (below_to T2.out (below_to b d))
 clear e0 e1 e2 e3 c d b k0 k1 k2 k3
 obtain⟨-,e0,e1,e2,e3,-⟩:=HX.out.later T4.out
 obtain⟨-,a0,a1,a2⟩:=HVa.out
 obtain⟨opb,nb,sb,kvb,k0,k1,k2,k3,c⟩:=wyk HKb T4 1 hb (okW_eq rfl (by decide) (by decide))
 go_wp2_with fail
 refine c.mono ?_
 rintro e w5 ⟨rfl,b⟩
 obtain⟨w6,hw6,HVb,d⟩:=vbl w5 1 xb tb
 have T6:=hid (below_to T4.out (below_to b d))
 have UaT6:=hid (below_to b d)
 clear e0 e1 e2 e3 a0 a1 a2 c d b k0 k1 k2 k3
 obtain⟨-,e0,e1,e2,e3,-⟩:=HX.out.later T6.out
 obtain⟨-,a0,a1,a2⟩:=HVa.out.later UaT6.out
 obtain⟨-,b0,b1,b2⟩:=HVb.out
 have c:Calls prog 215 #[.string ⟨ta.toArray⟩,.int .i64 M] w6 fun e w'=>e=.returned (.string ⟨K.toArray⟩)∧Below w6.heap.size w6 w':=by rw[← HK.out];exact refCut_any ⟨ta.toArray⟩ M w6 HL.out
 go_wp2_with fail
 refine c.mono ?_
 rintro e w7 ⟨rfl,b7⟩
 have T7:=hid (below_to T6.out b7)
 have UaT7:=hid (below_to UaT6.out b7)
 have UbT7:=hid b7
 clear e0 e1 e2 e3 a0 a1 a2 b0 b1 b2 c b7
 obtain⟨-,e0,e1,e2,e3,-⟩:=HX.out.later T7.out
 obtain⟨-,a0,a1,a2⟩:=HVa.out.later UaT7.out
 obtain⟨-,b0,b1,b2⟩:=HVb.out.later UbT7.out
 have c:Calls prog 213 #[.string ⟨K.toArray⟩] w7 fun e w'=>e=.returned (V3 R.k R.n ⟨R.s.toArray⟩)∧Below w7.heap.size w7 w':=(by rw[← HR.out];exact rtext_any K w7 HF.out)
 go_wp2_with fail
 refine c.mono ?_
 rintro e w8 ⟨rfl,b8⟩
 have T8:=hid (below_to T7.out b8)
 have UaT8:=hid (below_to UaT7.out b8)
 have UbT8:=hid (below_to UbT7.out b8)
 clear e0 e1 e2 e3 a0 a1 a2 b0 b1 b2 c b8
 obtain⟨-,e0,e1,e2,e3,-⟩:=HX.out.later T8.out
 obtain⟨-,a0,a1,a2⟩:=HVa.out.later UaT8.out
 obtain⟨-,b0,b1,b2⟩:=HVb.out.later UbT8.out
 obtain⟨z0,z1,z2,f0,f1,f2,B9⟩:=fin_at HB T8 G1 HZ R.k R.n ⟨R.s.toArray⟩
 go_wp2_with fail
 exact bodyPost_ret (v:=V3 R.k R.n ⟨R.s.toArray⟩) (by simp[results,results132,go_sem, *]) rfl ⟨by rw[HE.out],B9.out⟩
end
end Go.Proofs.YtbbblmedoagncaaGreatDoor
