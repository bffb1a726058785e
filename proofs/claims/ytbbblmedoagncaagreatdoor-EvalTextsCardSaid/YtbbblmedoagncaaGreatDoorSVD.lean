/- RvYA, RvYB -/
import Derived.Test.YtbbblmedoagncaaGreatDoorSVX
namespace Go.Proofs.YtbbblmedoagncaaGreatDoor
section
open _root_.Go.Lib (hid)
open _root_.Go.Proofs.Tryz
set_option maxHeartbeats 2000000
set_option maxRecDepth 100000
open Go.RowKit
theorem rhold_0 (g gk o cap:Nat) (n:Int) (s:ByteArray) (a b:Va) (w:World) (ha:a.ok) (xa:RKid g w gk (o) a) (hb:b.ok) (xb:RKid g w gk (o+4) b) (op:Int) (_ho:op=12∨op=13∨op=14∨op=15) (hk:okW 0 a=false) :
  Calls prog 131 #[.pointer (some ⟨g,0,none⟩),.agg #[.int .i64 op,.int .i64 n,.string s,.slice (some ⟨gk,o,none⟩) 2 cap]] w (RCom w (cmpV op a b)):=by
 generalize hPV:cmpV op a b=PV
 have HPV:=hid hPV
 clear hPV
 obtain⟨w1,w2,hw1,hw2,G1,HB,HZ,HX⟩:=ent w op n s (.slice (some ⟨gk,o,none⟩) 2 cap)
 have HKa:=hid (xa.later HB.out)
 have HKb:=hid (xb.later HB.out)
 have T2:=hid (Below.refl w2.heap.size w2)
 clear xa xb
 have HE:=hid (HPV.out.symm.trans (show cmpV op a b=wrongV a by unfold cmpV;have h:=hk;unfold okW at h;rw[decide_eq_false_iff_not] at h;rcases kind_few ha with k | k | k | k | k<;>simp[k] at h ⊢))
 obtain⟨ka,xa,ta⟩:=a
 obtain⟨kb,xb,tb⟩:=b
 try dsimp only at *
 obtain⟨-,e0,e1,e2,e3,-⟩:=HX.out
 obtain⟨Aa,HAa,opa,na,sa,kva,k0,k1,k2,k3,c⟩:=wnk HKa T2 0 hk
 go_enter func131,ntmps131
 go_wp2_with fail
 refine c.mono ?_
 rintro e w3 ⟨rfl,b⟩
 obtain⟨w4,hw4,HVa,d⟩:=vbl w3 Aa.k Aa.n Aa.s
 have T4:=hid (below_to T2.out (below_to b d))
 clear e0 e1 e2 e3 c d b k0 k1 k2 k3
 obtain⟨-,e0,e1,e2,e3,-⟩:=HX.out.later T4.out
 obtain⟨-,a0,a1,a2⟩:=HVa.out
 obtain⟨z0,z1,z2,f0,f1,f2,B9⟩:=fin_at HB T4 G1 HZ Aa.k Aa.n ⟨Aa.s.toArray⟩
 go_wp2_with fail
 exact bodyPost_ret (v:=V3 Aa.k Aa.n ⟨Aa.s.toArray⟩) (by simp[results,results131,go_sem, *]) rfl ⟨by rw[HE.out,HAa.out],B9.out⟩
theorem rhold_T (g gk o cap:Nat) (n:Int) (s:ByteArray) (a b:Va) (w:World) (ha:a.ok) (xa:RKid g w gk (o) a) (hb:b.ok) (xb:RKid g w gk (o+4) b) (op:Int) (ho:op=14∨op=15) (hk:a.k=2) :
  Calls prog 131 #[.pointer (some ⟨g,0,none⟩),.agg #[.int .i64 op,.int .i64 n,.string s,.slice (some ⟨gk,o,none⟩) 2 cap]] w (RCom w (cmpV op a b)):=by
 generalize hPV:cmpV op a b=PV
 have HPV:=hid hPV
 clear hPV
 obtain⟨w1,w2,hw1,hw2,G1,HB,HZ,HX⟩:=ent w op n s (.slice (some ⟨gk,o,none⟩) 2 cap)
 have HKa:=hid (xa.later HB.out)
 have HKb:=hid (xb.later HB.out)
 have T2:=hid (Below.refl w2.heap.size w2)
 clear xa xb
 have HE:=hid (HPV.out.symm.trans (show cmpV op a b=⟨4,3,[]⟩ by unfold cmpV;simp[hk,badV,ho]))
 have HO:=hid ho
 clear ho
 obtain⟨ka,xa,ta⟩:=a
 obtain⟨kb,xb,tb⟩:=b
 try dsimp only at *
 subst hk
 obtain⟨-,e0,e1,e2,e3,-⟩:=HX.out
 obtain⟨opa,na,sa,kva,k0,k1,k2,k3,c⟩:=wyk HKa T2 0 ha (okW_any.2 ⟨(by decide:(2:Int)≠4),(by decide:(2:Int)≠0)⟩)
 go_enter func131,ntmps131
 go_wp2_with fail
 refine c.mono ?_
 rintro e w3 ⟨rfl,b⟩
 obtain⟨w4,hw4,HVa,d⟩:=vbl w3 2 xa ta
 have T4:=hid (below_to T2.out (below_to b d))
 clear e0 e1 e2 e3 c d b k0 k1 k2 k3
 rcases HO.out with rfl | rfl
 all_goals
  obtain⟨-,e0,e1,e2,e3,-⟩:=HX.out.later T4.out
  obtain⟨-,a0,a1,a2⟩:=HVa.out
  have c:Calls prog 211 #[.int .i64 3] w4 fun e w'=>e=.returned (V3 4 3 ⟨#[]⟩)∧Below w4.heap.size w4 w':=rbad_any 3 w4
  go_wp2_with fail
  refine c.mono ?_
  rintro e w5 ⟨rfl,b5⟩
  have T5:=hid (below_to T4.out b5)
  have UaT5:=hid b5
  clear e0 e1 e2 e3 a0 a1 a2 c b5
  obtain⟨-,e0,e1,e2,e3,-⟩:=HX.out.later T5.out
  obtain⟨-,a0,a1,a2⟩:=HVa.out.later UaT5.out
  obtain⟨z0,z1,z2,f0,f1,f2,B9⟩:=fin_at HB T5 G1 HZ 4 3 ⟨#[]⟩
  go_wp2_with fail
  exact bodyPost_ret (v:=V3 4 3 ⟨#[]⟩) (by simp[results,results131,go_sem, *]) rfl ⟨by rw[HE.out],B9.out⟩
theorem rhold_B1 (g gk o cap:Nat) (n:Int) (s:ByteArray) (a b:Va) (w:World) (ha:a.ok) (xa:RKid g w gk (o) a) (hb:b.ok) (xb:RKid g w gk (o+4) b) (op:Int) (ho:op=12∨op=13∨op=14∨op=15) (hk:a.k=1) (hl:b.k≠1) :
  Calls prog 131 #[.pointer (some ⟨g,0,none⟩),.agg #[.int .i64 op,.int .i64 n,.string s,.slice (some ⟨gk,o,none⟩) 2 cap]] w (RCom w (cmpV op a b)):=by
 generalize hPV:cmpV op a b=PV
 have HPV:=hid hPV
 clear hPV
 obtain⟨w1,w2,hw1,hw2,G1,HB,HZ,HX⟩:=ent w op n s (.slice (some ⟨gk,o,none⟩) 2 cap)
 have HKa:=hid (xa.later HB.out)
 have HKb:=hid (xb.later HB.out)
 have T2:=hid (Below.refl w2.heap.size w2)
 clear xa xb
 have HE:=hid (HPV.out.symm.trans (show cmpV op a b=wrongV b by unfold cmpV;simp[hk,want_n hl]))
 have hw:okW 1 b=false:=okW_ne hl (by decide)
 clear hl
 have HOP:=hid ho
 clear ho
 obtain⟨ka,xa,ta⟩:=a
 obtain⟨kb,xb,tb⟩:=b
 try dsimp only at *
 subst hk
 obtain⟨-,e0,e1,e2,e3,-⟩:=HX.out
 obtain⟨opa,na,sa,kva,k0,k1,k2,k3,c⟩:=wyk HKa T2 0 ha (okW_any.2 ⟨(by decide:(1:Int)≠4),(by decide:(1:Int)≠0)⟩)
 go_enter func131,ntmps131
 go_wp2_with fail
 refine c.mono ?_
 rintro e w3 ⟨rfl,b⟩
 obtain⟨w4,hw4,HVa,d⟩:=vbl w3 1 xa ta
 have T4:=hid (below_to T2.out (below_to b d))
 clear e0 e1 e2 e3 c d b k0 k1 k2 k3
 obtain⟨-,e0,e1,e2,e3,-⟩:=HX.out.later T4.out
 obtain⟨-,a0,a1,a2⟩:=HVa.out
 have elt:=(HX.out.later T4.out).lt
 have alt:=(HVa.out).1
 obtain⟨A,HAb,opb,nb,sb,kvb,k0,k1,k2,k3,glt,cP1,cP2⟩:=wnd HKb T4 1 hw
 go_wp2_with fail
 go_cut [6,7] from 36 to 46 (fun s6 s7 wx=>∃ gg:Nat,s6=.bool false∧s7=.pointer (some ⟨gg,0,none⟩)∧Hid (Below w4.heap.size w4 wx)∧Hid (VB wx gg A.k A.n A.s))
 case first =>
  go_region_with (go_at_call 210;first | (refine cP2.mono ?_;rintro e wy ⟨rfl,hby,ul,un,u0,u1,u2⟩;have uf0:=(un.weak 0).2;have uf1:=(un.weak 1).2;have uf2:=(un.weak 2).2) | (refine cP1.mono ?_;rintro e wy ⟨rfl,hby⟩))
  all_goals
   go_wp2_with fail
   go_meet
   first
    | exact⟨wy.heap.size,rfl,rfl,hid (below_da hby (Nat.le_refl _) _),hid (VB.new wy A.k A.n A.s)⟩
    | exact⟨w4.heap.size,rfl,rfl,hid (put3_in (⟨A.k,A.n,A.s⟩) hby (Nat.le_refl _)),hid (VB.put ⟨ul,un,u0,u1,u2⟩ A.k A.n A.s)⟩
 case rest =>
  obtain⟨gb,rfl,rfl,HBc,HVb⟩:=hcut
  have Tc:=hid (below_to T4.out HBc.out)
  have UaTc:=HBc
  clear e0 e1 e2 e3 a0 a1 a2 cP1 cP2 k0 k1 k2 k3 elt alt glt
  obtain⟨-,e0,e1,e2,e3,-⟩:=HX.out.later Tc.out
  obtain⟨-,a0,a1,a2⟩:=HVa.out.later UaTc.out
  obtain⟨-,b0,b1,b2⟩:=HVb.out
  obtain⟨z0,z1,z2,f0,f1,f2,B9⟩:=fin_at HB Tc G1 HZ A.k A.n ⟨A.s.toArray⟩
  go_wp2_with fail
  exact bodyPost_ret (v:=V3 A.k A.n ⟨A.s.toArray⟩) (by simp[results,results131,go_sem, *]) rfl ⟨by rw[HE.out,HAb.out],B9.out⟩
theorem rhold_2eq (g gk o cap:Nat) (n:Int) (s:ByteArray) (a b:Va) (w:World) (ha:a.ok) (xa:RKid g w gk (o) a) (hb:b.ok) (xb:RKid g w gk (o+4) b) (op:Int) (ho:op=12∨op=13) (hk:a.k=2) (hl:b.k=2) (hz:a.n=b.n) :
  Calls prog 131 #[.pointer (some ⟨g,0,none⟩),.agg #[.int .i64 op,.int .i64 n,.string s,.slice (some ⟨gk,o,none⟩) 2 cap]] w (RCom w (cmpV op a b)):=by
 generalize hPV:cmpV op a b=PV
 have HPV:=hid hPV
 clear hPV
 obtain⟨w1,w2,hw1,hw2,G1,HB,HZ,HX⟩:=ent w op n s (.slice (some ⟨gk,o,none⟩) 2 cap)
 have HKa:=hid (xa.later HB.out)
 have HKb:=hid (xb.later HB.out)
 have T2:=hid (Below.refl w2.heap.size w2)
 clear xa xb
 have HE12:Hid (op=12→PV=⟨2,1,[]⟩):=hid (fun h=>HPV.out.symm.trans (show cmpV op a b=⟨2,1,[]⟩ by subst h;unfold cmpV;simp only[hk,want_y hl];simp[holdB,truV,hz]))
 have HE13:Hid (op=13→PV=⟨2,0,[]⟩):=hid (fun h=>HPV.out.symm.trans (show cmpV op a b=⟨2,0,[]⟩ by subst h;unfold cmpV;simp only[hk,want_y hl];simp[holdB,truV,hz]))
 have hes:(a.s == b.s)=true:=by rw[(ha.truth hk).2,(hb.truth hl).2];rfl
 have hw:okW 2 b=true:=okW_eq hl (by decide) (by decide)
 have o14:(op == 14)=false:=by rcases ho with rfl | rfl<;>rfl
 have o15:(op == 15)=false:=by rcases ho with rfl | rfl<;>rfl
 have HOP:=hid ho
 clear ho
 obtain⟨ka,xa,ta⟩:=a
 obtain⟨kb,xb,tb⟩:=b
 try dsimp only at *
 subst hk
 subst hl
 subst hz
 obtain⟨-,e0,e1,e2,e3,-⟩:=HX.out
 obtain⟨opa,na,sa,kva,k0,k1,k2,k3,c⟩:=wyk HKa T2 0 ha (okW_any.2 ⟨(by decide:(2:Int)≠4),(by decide:(2:Int)≠0)⟩)
 go_enter func131,ntmps131
 go_wp2_with fail
 refine c.mono ?_
 rintro e w3 ⟨rfl,b⟩
 obtain⟨w4,hw4,HVa,d⟩:=vbl w3 2 xa ta
 have T4:=hid (below_to T2.out (below_to b d))
 clear e0 e1 e2 e3 c d b k0 k1 k2 k3
 obtain⟨-,e0,e1,e2,e3,-⟩:=HX.out.later T4.out
 obtain⟨-,a0,a1,a2⟩:=HVa.out
 have elt:=(HX.out.later T4.out).lt
 have alt:=(HVa.out).1
 obtain⟨opb,nb,sb,kvb,k0,k1,k2,k3,glt,cP1,cP2⟩:=wyd HKb T4 2 hb hw
 go_wp2_with fail
 go_cut [6,7] from 36 to 46 (fun s6 s7 wx=>∃ gg:Nat,s6=.bool true∧s7=.pointer (some ⟨gg,0,none⟩)∧Hid (Below w4.heap.size w4 wx)∧Hid (VB wx gg 2 xa tb))
 case first =>
  go_region_with (go_at_call 210;first | (refine cP2.mono ?_;rintro e wy ⟨rfl,hby,ul,un,u0,u1,u2⟩;have uf0:=(un.weak 0).2;have uf1:=(un.weak 1).2;have uf2:=(un.weak 2).2) | (refine cP1.mono ?_;rintro e wy ⟨rfl,hby⟩))
  all_goals
   go_wp2_with fail
   go_meet
   first
    | exact⟨wy.heap.size,rfl,rfl,hid (below_da hby (Nat.le_refl _) _),hid (VB.new wy 2 xa tb)⟩
    | exact⟨w4.heap.size,rfl,rfl,hid (put3_in (⟨2,xa,tb⟩) hby (Nat.le_refl _)),hid (VB.put ⟨ul,un,u0,u1,u2⟩ 2 xa tb)⟩
 case rest =>
  obtain⟨gb,rfl,rfl,HBc,HVb⟩:=hcut
  have Tc:=hid (below_to T4.out HBc.out)
  have UaTc:=HBc
  clear e0 e1 e2 e3 a0 a1 a2 cP1 cP2 k0 k1 k2 k3 elt alt glt
  rcases HOP.out with rfl | rfl
  ·have HE:=HE12.out rfl
   have HE:=hid HE
   obtain⟨-,e0,e1,e2,e3,-⟩:=HX.out.later Tc.out
   obtain⟨-,a0,a1,a2⟩:=HVa.out.later UaTc.out
   obtain⟨-,b0,b1,b2⟩:=HVb.out
   have c:Calls prog 128 #[.bool true] wc fun e w'=>e=.returned (V3 2 1 ⟨#[]⟩)∧Below wc.heap.size wc w':=rtruth_any true wc
   go_wp2_with fail
   refine c.mono ?_
   rintro e we ⟨rfl,be⟩
   have Te:=hid (below_to Tc.out be)
   obtain⟨z0,z1,z2,f0,f1,f2,B9⟩:=fin_at HB Te G1 HZ 2 1 ⟨#[]⟩
   clear e0 e1 e2 e3 a0 a1 a2 b0 b1 b2 c be
   go_wp2_with fail
   exact bodyPost_ret (v:=V3 2 1 ⟨#[]⟩) (by simp[results,results131,go_sem, *]) rfl ⟨by rw[HE.out],B9.out⟩
  ·have HE:=HE13.out rfl
   have HE:=hid HE
   obtain⟨-,e0,e1,e2,e3,-⟩:=HX.out.later Tc.out
   obtain⟨-,a0,a1,a2⟩:=HVa.out.later UaTc.out
   obtain⟨-,b0,b1,b2⟩:=HVb.out
   have c:Calls prog 128 #[.bool false] wc fun e w'=>e=.returned (V3 2 0 ⟨#[]⟩)∧Below wc.heap.size wc w':=rtruth_any false wc
   go_wp2_with fail
   refine c.mono ?_
   rintro e we ⟨rfl,be⟩
   have Te:=hid (below_to Tc.out be)
   obtain⟨z0,z1,z2,f0,f1,f2,B9⟩:=fin_at HB Te G1 HZ 2 0 ⟨#[]⟩
   clear e0 e1 e2 e3 a0 a1 a2 b0 b1 b2 c be
   go_wp2_with fail
   exact bodyPost_ret (v:=V3 2 0 ⟨#[]⟩) (by simp[results,results131,go_sem, *]) rfl ⟨by rw[HE.out],B9.out⟩
end
section
open _root_.Go.Lib (hid)
open _root_.Go.Proofs.Tryz
set_option maxHeartbeats 2000000
set_option maxRecDepth 100000
open Go.RowKit
theorem rhold_1eq (g gk o cap:Nat) (n:Int) (s:ByteArray) (a b:Va) (w:World) (ha:a.ok) (xa:RKid g w gk (o) a) (hb:b.ok) (xb:RKid g w gk (o+4) b) (op:Int) (ho:op=12∨op=13∨op=14∨op=15) (hk:a.k=1) (hl:b.k=1) (hz:a.n=b.n) :
  Calls prog 131 #[.pointer (some ⟨g,0,none⟩),.agg #[.int .i64 op,.int .i64 n,.string s,.slice (some ⟨gk,o,none⟩) 2 cap]] w (RCom w (cmpV op a b)):=by
 generalize hPV:cmpV op a b=PV
 have HPV:=hid hPV
 clear hPV
 obtain⟨w1,w2,hw1,hw2,G1,HB,HZ,HX⟩:=ent w op n s (.slice (some ⟨gk,o,none⟩) 2 cap)
 have HKa:=hid (xa.later HB.out)
 have HKb:=hid (xb.later HB.out)
 have T2:=hid (Below.refl w2.heap.size w2)
 clear xa xb
 have HE12:Hid (op=12→PV=⟨2,1,[]⟩):=hid (fun h=>HPV.out.symm.trans (show cmpV op a b=⟨2,1,[]⟩ by subst h;unfold cmpV;simp only[hk,want_y hl];simp[holdB,truV,hz]))
 have HE13:Hid (op=13→PV=⟨2,0,[]⟩):=hid (fun h=>HPV.out.symm.trans (show cmpV op a b=⟨2,0,[]⟩ by subst h;unfold cmpV;simp only[hk,want_y hl];simp[holdB,truV,hz]))
 have HE14:Hid (op=14→PV=⟨2,0,[]⟩):=hid (fun h=>HPV.out.symm.trans (show cmpV op a b=⟨2,0,[]⟩ by subst h;unfold cmpV;simp only[hk,want_y hl];simp[holdB,truV,hz]))
 have HE15:Hid (op=15→PV=⟨2,1,[]⟩):=hid (fun h=>HPV.out.symm.trans (show cmpV op a b=⟨2,1,[]⟩ by subst h;unfold cmpV;simp only[hk,want_y hl];simp[holdB,truV,hz]))
 have hes:(a.s == b.s)=true:=by rw[ha.num hk,hb.num hl];rfl
 have hw:okW 1 b=true:=okW_eq hl (by decide) (by decide)
 have HOP:=hid ho
 clear ho
 obtain⟨ka,xa,ta⟩:=a
 obtain⟨kb,xb,tb⟩:=b
 try dsimp only at *
 subst hk
 subst hl
 subst hz
 obtain⟨-,e0,e1,e2,e3,-⟩:=HX.out
 obtain⟨opa,na,sa,kva,k0,k1,k2,k3,c⟩:=wyk HKa T2 0 ha (okW_any.2 ⟨(by decide:(1:Int)≠4),(by decide:(1:Int)≠0)⟩)
 go_enter func131,ntmps131
 go_wp2_with fail
 refine c.mono ?_
 rintro e w3 ⟨rfl,b⟩
 obtain⟨w4,hw4,HVa,d⟩:=vbl w3 1 xa ta
 have T4:=hid (below_to T2.out (below_to b d))
 clear e0 e1 e2 e3 c d b k0 k1 k2 k3
 obtain⟨-,e0,e1,e2,e3,-⟩:=HX.out.later T4.out
 obtain⟨-,a0,a1,a2⟩:=HVa.out
 have elt:=(HX.out.later T4.out).lt
 have alt:=(HVa.out).1
 obtain⟨opb,nb,sb,kvb,k0,k1,k2,k3,glt,cP1,cP2⟩:=wyd HKb T4 1 hb hw
 go_wp2_with fail
 go_cut [6,7] from 36 to 46 (fun s6 s7 wx=>∃ gg:Nat,s6=.bool true∧s7=.pointer (some ⟨gg,0,none⟩)∧Hid (Below w4.heap.size w4 wx)∧Hid (VB wx gg 1 xa tb))
 case first =>
  go_region_with (go_at_call 210;first | (refine cP2.mono ?_;rintro e wy ⟨rfl,hby,ul,un,u0,u1,u2⟩;have uf0:=(un.weak 0).2;have uf1:=(un.weak 1).2;have uf2:=(un.weak 2).2) | (refine cP1.mono ?_;rintro e wy ⟨rfl,hby⟩))
  all_goals
   go_wp2_with fail
   go_meet
   first
    | exact⟨wy.heap.size,rfl,rfl,hid (below_da hby (Nat.le_refl _) _),hid (VB.new wy 1 xa tb)⟩
    | exact⟨w4.heap.size,rfl,rfl,hid (put3_in (⟨1,xa,tb⟩) hby (Nat.le_refl _)),hid (VB.put ⟨ul,un,u0,u1,u2⟩ 1 xa tb)⟩
 case rest =>
  obtain⟨gb,rfl,rfl,HBc,HVb⟩:=hcut
  have Tc:=hid (below_to T4.out HBc.out)
  have UaTc:=HBc
  clear e0 e1 e2 e3 a0 a1 a2 cP1 cP2 k0 k1 k2 k3 elt alt glt
  rcases HOP.out with rfl | rfl | rfl | rfl
  ·have HE:=HE12.out rfl
   have HE:=hid HE
   obtain⟨-,e0,e1,e2,e3,-⟩:=HX.out.later Tc.out
   obtain⟨-,a0,a1,a2⟩:=HVa.out.later UaTc.out
   obtain⟨-,b0,b1,b2⟩:=HVb.out
   have c:Calls prog 128 #[.bool true] wc fun e w'=>e=.returned (V3 2 1 ⟨#[]⟩)∧Below wc.heap.size wc w':=rtruth_any true wc
   go_wp2_with fail
   refine c.mono ?_
   rintro e we ⟨rfl,be⟩
   have Te:=hid (below_to Tc.out be)
   obtain⟨z0,z1,z2,f0,f1,f2,B9⟩:=fin_at HB Te G1 HZ 2 1 ⟨#[]⟩
   clear e0 e1 e2 e3 a0 a1 a2 b0 b1 b2 c be
   go_wp2_with fail
   exact bodyPost_ret (v:=V3 2 1 ⟨#[]⟩) (by simp[results,results131,go_sem, *]) rfl ⟨by rw[HE.out],B9.out⟩
  ·have HE:=HE13.out rfl
   have HE:=hid HE
   obtain⟨-,e0,e1,e2,e3,-⟩:=HX.out.later Tc.out
   obtain⟨-,a0,a1,a2⟩:=HVa.out.later UaTc.out
   obtain⟨-,b0,b1,b2⟩:=HVb.out
   have c:Calls prog 128 #[.bool false] wc fun e w'=>e=.returned (V3 2 0 ⟨#[]⟩)∧Below wc.heap.size wc w':=rtruth_any false wc
   go_wp2_with fail
   refine c.mono ?_
   rintro e we ⟨rfl,be⟩
   have Te:=hid (below_to Tc.out be)
   obtain⟨z0,z1,z2,f0,f1,f2,B9⟩:=fin_at HB Te G1 HZ 2 0 ⟨#[]⟩
   clear e0 e1 e2 e3 a0 a1 a2 b0 b1 b2 c be
   go_wp2_with fail
   exact bodyPost_ret (v:=V3 2 0 ⟨#[]⟩) (by simp[results,results131,go_sem, *]) rfl ⟨by rw[HE.out],B9.out⟩
  ·have HE:=HE14.out rfl
   have HE:=hid HE
   obtain⟨-,e0,e1,e2,e3,-⟩:=HX.out.later Tc.out
   obtain⟨-,a0,a1,a2⟩:=HVa.out.later UaTc.out
   obtain⟨-,b0,b1,b2⟩:=HVb.out
   have c:Calls prog 128 #[.bool false] wc fun e w'=>e=.returned (V3 2 0 ⟨#[]⟩)∧Below wc.heap.size wc w':=rtruth_any false wc
   go_wp2_with fail
   refine c.mono ?_
   rintro e we ⟨rfl,be⟩
   have Te:=hid (below_to Tc.out be)
   obtain⟨z0,z1,z2,f0,f1,f2,B9⟩:=fin_at HB Te G1 HZ 2 0 ⟨#[]⟩
   clear e0 e1 e2 e3 a0 a1 a2 b0 b1 b2 c be
   go_wp2_with fail
   exact bodyPost_ret (v:=V3 2 0 ⟨#[]⟩) (by simp[results,results131,go_sem, *]) rfl ⟨by rw[HE.out],B9.out⟩
  ·have HE:=HE15.out rfl
   have HE:=hid HE
   obtain⟨-,e0,e1,e2,e3,-⟩:=HX.out.later Tc.out
   obtain⟨-,a0,a1,a2⟩:=HVa.out.later UaTc.out
   obtain⟨-,b0,b1,b2⟩:=HVb.out
   have c:Calls prog 128 #[.bool true] wc fun e w'=>e=.returned (V3 2 1 ⟨#[]⟩)∧Below wc.heap.size wc w':=rtruth_any true wc
   go_wp2_with fail
   refine c.mono ?_
   rintro e we ⟨rfl,be⟩
   have Te:=hid (below_to Tc.out be)
   obtain⟨z0,z1,z2,f0,f1,f2,B9⟩:=fin_at HB Te G1 HZ 2 1 ⟨#[]⟩
   clear e0 e1 e2 e3 a0 a1 a2 b0 b1 b2 c be
   go_wp2_with fail
   exact bodyPost_ret (v:=V3 2 1 ⟨#[]⟩) (by simp[results,results131,go_sem, *]) rfl ⟨by rw[HE.out],B9.out⟩
theorem rhold_B2 (g gk o cap:Nat) (n:Int) (s:ByteArray) (a b:Va) (w:World) (ha:a.ok) (xa:RKid g w gk (o) a) (hb:b.ok) (xb:RKid g w gk (o+4) b) (op:Int) (ho:op=12∨op=13) (hk:a.k=2) (hl:b.k≠2) :
  Calls prog 131 #[.pointer (some ⟨g,0,none⟩),.agg #[.int .i64 op,.int .i64 n,.string s,.slice (some ⟨gk,o,none⟩) 2 cap]] w (RCom w (cmpV op a b)):=by
 generalize hPV:cmpV op a b=PV
 have HPV:=hid hPV
 clear hPV
 obtain⟨w1,w2,hw1,hw2,G1,HB,HZ,HX⟩:=ent w op n s (.slice (some ⟨gk,o,none⟩) 2 cap)
 have HKa:=hid (xa.later HB.out)
 have HKb:=hid (xb.later HB.out)
 have T2:=hid (Below.refl w2.heap.size w2)
 clear xa xb
 have HE:=hid (HPV.out.symm.trans (show cmpV op a b=wrongV b by rcases ho with rfl | rfl<;>(unfold cmpV;simp[hk,want_n hl])))
 have hw:okW 2 b=false:=okW_ne hl (by decide)
 clear hl
 have o14:(op == 14)=false:=by rcases ho with rfl | rfl<;>rfl
 have o15:(op == 15)=false:=by rcases ho with rfl | rfl<;>rfl
 have HOP:=hid ho
 clear ho
 obtain⟨ka,xa,ta⟩:=a
 obtain⟨kb,xb,tb⟩:=b
 try dsimp only at *
 subst hk
 obtain⟨-,e0,e1,e2,e3,-⟩:=HX.out
 obtain⟨opa,na,sa,kva,k0,k1,k2,k3,c⟩:=wyk HKa T2 0 ha (okW_any.2 ⟨(by decide:(2:Int)≠4),(by decide:(2:Int)≠0)⟩)
 go_enter func131,ntmps131
 go_wp2_with fail
 refine c.mono ?_
 rintro e w3 ⟨rfl,b⟩
 obtain⟨w4,hw4,HVa,d⟩:=vbl w3 2 xa ta
 have T4:=hid (below_to T2.out (below_to b d))
 clear e0 e1 e2 e3 c d b k0 k1 k2 k3
 obtain⟨-,e0,e1,e2,e3,-⟩:=HX.out.later T4.out
 obtain⟨-,a0,a1,a2⟩:=HVa.out
 have elt:=(HX.out.later T4.out).lt
 have alt:=(HVa.out).1
 obtain⟨A,HAb,opb,nb,sb,kvb,k0,k1,k2,k3,glt,cP1,cP2⟩:=wnd HKb T4 2 hw
 go_wp2_with fail
 go_cut [6,7] from 36 to 46 (fun s6 s7 wx=>∃ gg:Nat,s6=.bool false∧s7=.pointer (some ⟨gg,0,none⟩)∧Hid (Below w4.heap.size w4 wx)∧Hid (VB wx gg A.k A.n A.s))
 case first =>
  go_region_with (go_at_call 210;first | (refine cP2.mono ?_;rintro e wy ⟨rfl,hby,ul,un,u0,u1,u2⟩;have uf0:=(un.weak 0).2;have uf1:=(un.weak 1).2;have uf2:=(un.weak 2).2) | (refine cP1.mono ?_;rintro e wy ⟨rfl,hby⟩))
  all_goals
   go_wp2_with fail
   go_meet
   first
    | exact⟨wy.heap.size,rfl,rfl,hid (below_da hby (Nat.le_refl _) _),hid (VB.new wy A.k A.n A.s)⟩
    | exact⟨w4.heap.size,rfl,rfl,hid (put3_in (⟨A.k,A.n,A.s⟩) hby (Nat.le_refl _)),hid (VB.put ⟨ul,un,u0,u1,u2⟩ A.k A.n A.s)⟩
 case rest =>
  obtain⟨gb,rfl,rfl,HBc,HVb⟩:=hcut
  have Tc:=hid (below_to T4.out HBc.out)
  have UaTc:=HBc
  clear e0 e1 e2 e3 a0 a1 a2 cP1 cP2 k0 k1 k2 k3 elt alt glt
  obtain⟨-,e0,e1,e2,e3,-⟩:=HX.out.later Tc.out
  obtain⟨-,a0,a1,a2⟩:=HVa.out.later UaTc.out
  obtain⟨-,b0,b1,b2⟩:=HVb.out
  obtain⟨z0,z1,z2,f0,f1,f2,B9⟩:=fin_at HB Tc G1 HZ A.k A.n ⟨A.s.toArray⟩
  go_wp2_with fail
  exact bodyPost_ret (v:=V3 A.k A.n ⟨A.s.toArray⟩) (by simp[results,results131,go_sem, *]) rfl ⟨by rw[HE.out,HAb.out],B9.out⟩
theorem rhold_2ne (g gk o cap:Nat) (n:Int) (s:ByteArray) (a b:Va) (w:World) (ha:a.ok) (xa:RKid g w gk (o) a) (hb:b.ok) (xb:RKid g w gk (o+4) b) (op:Int) (ho:op=12∨op=13) (hk:a.k=2) (hl:b.k=2) (hz:¬ a.n=b.n) :
  Calls prog 131 #[.pointer (some ⟨g,0,none⟩),.agg #[.int .i64 op,.int .i64 n,.string s,.slice (some ⟨gk,o,none⟩) 2 cap]] w (RCom w (cmpV op a b)):=by
 generalize hPV:cmpV op a b=PV
 have HPV:=hid hPV
 clear hPV
 obtain⟨w1,w2,hw1,hw2,G1,HB,HZ,HX⟩:=ent w op n s (.slice (some ⟨gk,o,none⟩) 2 cap)
 have HKa:=hid (xa.later HB.out)
 have HKb:=hid (xb.later HB.out)
 have T2:=hid (Below.refl w2.heap.size w2)
 clear xa xb
 have HE12:Hid (op=12→PV=⟨2,0,[]⟩):=hid (fun h=>HPV.out.symm.trans (show cmpV op a b=⟨2,0,[]⟩ by subst h;unfold cmpV;simp only[hk,want_y hl];simp[holdB,truV,show ¬ a.n=b.n from hz]))
 have HE13:Hid (op=13→PV=⟨2,1,[]⟩):=hid (fun h=>HPV.out.symm.trans (show cmpV op a b=⟨2,1,[]⟩ by subst h;unfold cmpV;simp only[hk,want_y hl];simp[holdB,truV,show ¬ a.n=b.n from hz]))
 have hes:(a.s == b.s)=true:=by rw[(ha.truth hk).2,(hb.truth hl).2];rfl
 have hnn:(a.n == b.n)=false:=beq_eq_false_iff_ne.2 (hz)
 have hw:okW 2 b=true:=okW_eq hl (by decide) (by decide)
 have o14:(op == 14)=false:=by rcases ho with rfl | rfl<;>rfl
 have o15:(op == 15)=false:=by rcases ho with rfl | rfl<;>rfl
 have HOP:=hid ho
 clear ho
 obtain⟨ka,xa,ta⟩:=a
 obtain⟨kb,xb,tb⟩:=b
 try dsimp only at *
 subst hk
 subst hl
 obtain⟨-,e0,e1,e2,e3,-⟩:=HX.out
 obtain⟨opa,na,sa,kva,k0,k1,k2,k3,c⟩:=wyk HKa T2 0 ha (okW_any.2 ⟨(by decide:(2:Int)≠4),(by decide:(2:Int)≠0)⟩)
 go_enter func131,ntmps131
 go_wp2_with fail
 refine c.mono ?_
 rintro e w3 ⟨rfl,b⟩
 obtain⟨w4,hw4,HVa,d⟩:=vbl w3 2 xa ta
 have T4:=hid (below_to T2.out (below_to b d))
 clear e0 e1 e2 e3 c d b k0 k1 k2 k3
 obtain⟨-,e0,e1,e2,e3,-⟩:=HX.out.later T4.out
 obtain⟨-,a0,a1,a2⟩:=HVa.out
 have elt:=(HX.out.later T4.out).lt
 have alt:=(HVa.out).1
 obtain⟨opb,nb,sb,kvb,k0,k1,k2,k3,glt,cP1,cP2⟩:=wyd HKb T4 2 hb hw
 go_wp2_with fail
 go_cut [6,7] from 36 to 46 (fun s6 s7 wx=>∃ gg:Nat,s6=.bool true∧s7=.pointer (some ⟨gg,0,none⟩)∧Hid (Below w4.heap.size w4 wx)∧Hid (VB wx gg 2 xb tb))
 case first =>
  go_region_with (go_at_call 210;first | (refine cP2.mono ?_;rintro e wy ⟨rfl,hby,ul,un,u0,u1,u2⟩;have uf0:=(un.weak 0).2;have uf1:=(un.weak 1).2;have uf2:=(un.weak 2).2) | (refine cP1.mono ?_;rintro e wy ⟨rfl,hby⟩))
  all_goals
   go_wp2_with fail
   go_meet
   first
    | exact⟨wy.heap.size,rfl,rfl,hid (below_da hby (Nat.le_refl _) _),hid (VB.new wy 2 xb tb)⟩
    | exact⟨w4.heap.size,rfl,rfl,hid (put3_in (⟨2,xb,tb⟩) hby (Nat.le_refl _)),hid (VB.put ⟨ul,un,u0,u1,u2⟩ 2 xb tb)⟩
 case rest =>
  obtain⟨gb,rfl,rfl,HBc,HVb⟩:=hcut
  have Tc:=hid (below_to T4.out HBc.out)
  have UaTc:=HBc
  clear e0 e1 e2 e3 a0 a1 a2 cP1 cP2 k0 k1 k2 k3 elt alt glt
  rcases HOP.out with rfl | rfl
  ·have HE:=HE12.out rfl
   have HE:=hid HE
   obtain⟨-,e0,e1,e2,e3,-⟩:=HX.out.later Tc.out
   obtain⟨-,a0,a1,a2⟩:=HVa.out.later UaTc.out
   obtain⟨-,b0,b1,b2⟩:=HVb.out
   have c:Calls prog 128 #[.bool false] wc fun e w'=>e=.returned (V3 2 0 ⟨#[]⟩)∧Below wc.heap.size wc w':=rtruth_any false wc
   go_wp2_with fail
   refine c.mono ?_
   rintro e we ⟨rfl,be⟩
   have Te:=hid (below_to Tc.out be)
   obtain⟨z0,z1,z2,f0,f1,f2,B9⟩:=fin_at HB Te G1 HZ 2 0 ⟨#[]⟩
   clear e0 e1 e2 e3 a0 a1 a2 b0 b1 b2 c be
   go_wp2_with fail
   exact bodyPost_ret (v:=V3 2 0 ⟨#[]⟩) (by simp[results,results131,go_sem, *]) rfl ⟨by rw[HE.out],B9.out⟩
  ·have HE:=HE13.out rfl
   have HE:=hid HE
   obtain⟨-,e0,e1,e2,e3,-⟩:=HX.out.later Tc.out
   obtain⟨-,a0,a1,a2⟩:=HVa.out.later UaTc.out
   obtain⟨-,b0,b1,b2⟩:=HVb.out
   have c:Calls prog 128 #[.bool true] wc fun e w'=>e=.returned (V3 2 1 ⟨#[]⟩)∧Below wc.heap.size wc w':=rtruth_any true wc
   go_wp2_with fail
   refine c.mono ?_
   rintro e we ⟨rfl,be⟩
   have Te:=hid (below_to Tc.out be)
   obtain⟨z0,z1,z2,f0,f1,f2,B9⟩:=fin_at HB Te G1 HZ 2 1 ⟨#[]⟩
   clear e0 e1 e2 e3 a0 a1 a2 b0 b1 b2 c be
   go_wp2_with fail
   exact bodyPost_ret (v:=V3 2 1 ⟨#[]⟩) (by simp[results,results131,go_sem, *]) rfl ⟨by rw[HE.out],B9.out⟩
end
end Go.Proofs.YtbbblmedoagncaaGreatDoor
