/- RvYD -/
import Derived.Test.YtbbblmedoagncaaGreatDoorSVX
namespace Go.Proofs.YtbbblmedoagncaaGreatDoor
section
open _root_.Go.Lib (hid)
open _root_.Go.Proofs.Tryz
set_option maxHeartbeats 2000000
set_option maxRecDepth 100000
open Go.RowKit
theorem rhold_1lt (g gk o cap:Nat) (n:Int) (s:ByteArray) (a b:Va) (w:World) (ha:a.ok) (xa:RKid g w gk (o) a) (hb:b.ok) (xb:RKid g w gk (o+4) b) (op:Int) (ho:op=12∨op=13∨op=14∨op=15) (hk:a.k=1) (hl:b.k=1) (hz:a.n<b.n) :
  Calls prog 131 #[.pointer (some ⟨g,0,none⟩),.agg #[.int .i64 op,.int .i64 n,.string s,.slice (some ⟨gk,o,none⟩) 2 cap]] w (RCom w (cmpV op a b)):=by
 generalize hPV:cmpV op a b=PV
 have HPV:=hid hPV
 clear hPV
 obtain⟨w1,w2,hw1,hw2,G1,HB,HZ,HX⟩:=ent w op n s (.slice (some ⟨gk,o,none⟩) 2 cap)
 have HKa:=hid (xa.later HB.out)
 have HKb:=hid (xb.later HB.out)
 have T2:=hid (Below.refl w2.heap.size w2)
 clear xa xb
 have HE12:Hid (op=12→PV=⟨2,0,[]⟩):=hid (fun h=>HPV.out.symm.trans (show cmpV op a b=⟨2,0,[]⟩ by subst h;unfold cmpV;simp only[hk,want_y hl];simp[holdB,truV,show ¬ a.n=b.n from fun h=>by rw[h] at hz;exact absurd hz (Int.lt_irrefl _)]))
 have HE13:Hid (op=13→PV=⟨2,1,[]⟩):=hid (fun h=>HPV.out.symm.trans (show cmpV op a b=⟨2,1,[]⟩ by subst h;unfold cmpV;simp only[hk,want_y hl];simp[holdB,truV,show ¬ a.n=b.n from fun h=>by rw[h] at hz;exact absurd hz (Int.lt_irrefl _)]))
 have HE14:Hid (op=14→PV=⟨2,1,[]⟩):=hid (fun h=>HPV.out.symm.trans (show cmpV op a b=⟨2,1,[]⟩ by subst h;unfold cmpV;simp only[hk,want_y hl];simp[holdB,truV,hz]))
 have HE15:Hid (op=15→PV=⟨2,1,[]⟩):=hid (fun h=>HPV.out.symm.trans (show cmpV op a b=⟨2,1,[]⟩ by subst h;unfold cmpV;simp only[hk,want_y hl];simp[holdB,truV,show ¬ a.n=b.n from fun h=>by rw[h] at hz;exact absurd hz (Int.lt_irrefl _),hz]))
 have hes:(a.s == b.s)=true:=by rw[ha.num hk,hb.num hl];rfl
 have hnn:(a.n == b.n)=false:=beq_eq_false_iff_ne.2 (by omega)
 have hw:okW 1 b=true:=okW_eq hl (by decide) (by decide)
 have HOP:=hid ho
 clear ho
 obtain⟨ka,xa,ta⟩:=a
 obtain⟨kb,xb,tb⟩:=b
 try dsimp only at *
 subst hk
 subst hl
 obtain⟨-,e0,e1,e2,e3,-⟩:=HX.out
 obtain⟨opa,na,sa,kva,k0,k1,k2,k3,c⟩:=wyk HKa T2 0 ha (okW_any.2 ⟨(by decide:(1:Int)≠4),(by decide:(1:Int)≠0)⟩)
 go_enter func131,ntmps131
 go_wp2_with fail
 refine c.mono ?_
 rintro e w3 ⟨rfl,b⟩
 obtain⟨w4,hw4,HVa,d⟩:=vbl w3 1 xa ta
 have T4:=hid (below_to T2.out (below_to b d))
 clear e0 e1 e2 e3 c d b k0 k1 k2 k3
 obtain⟨-,e0,e1,e2,e3,-⟩:=HX.out.later T4.out
 obtain⟨-,a0,a1,a2⟩:=HVa.out
 have elt:=(HX.out.later T4.out).lt
 have alt:=(HVa.out).1
 obtain⟨opb,nb,sb,kvb,k0,k1,k2,k3,glt,cP1,cP2⟩:=wyd HKb T4 1 hb hw
 go_wp2_with fail
 go_cut [6,7] from 36 to 46 (fun s6 s7 wx=>∃ gg:Nat,s6=.bool true∧s7=.pointer (some ⟨gg,0,none⟩)∧Hid (Below w4.heap.size w4 wx)∧Hid (VB wx gg 1 xb tb))
 case first =>
  go_region_with (go_at_call 210;first | (refine cP2.mono ?_;rintro e wy ⟨rfl,hby,ul,un,u0,u1,u2⟩;have uf0:=(un.weak 0).2;have uf1:=(un.weak 1).2;have uf2:=(un.weak 2).2) | (refine cP1.mono ?_;rintro e wy ⟨rfl,hby⟩))
  all_goals
   go_wp2_with fail
   go_meet
   first
    | exact⟨wy.heap.size,rfl,rfl,hid (below_da hby (Nat.le_refl _) _),hid (VB.new wy 1 xb tb)⟩
    | exact⟨w4.heap.size,rfl,rfl,hid (put3_in (⟨1,xb,tb⟩) hby (Nat.le_refl _)),hid (VB.put ⟨ul,un,u0,u1,u2⟩ 1 xb tb)⟩
 case rest =>
  obtain⟨gb,rfl,rfl,HBc,HVb⟩:=hcut
  have Tc:=hid (below_to T4.out HBc.out)
  have UaTc:=HBc
  clear e0 e1 e2 e3 a0 a1 a2 cP1 cP2 k0 k1 k2 k3 elt alt glt
  rcases HOP.out with rfl | rfl | rfl | rfl
  ·have HE:=HE12.out rfl
   have HE:=hid HE
   obtain⟨-,e0,e1,e2,e3,-⟩:=HX.out.later Tc.out
   obtain⟨-,a0,a1,a2⟩:=HVa.out.later UaTc.out
   obtain⟨-,b0,b1,b2⟩:=HVb.out
   have c:Calls prog 128 #[.bool false] wc fun e w'=>e=.returned (V3 2 0 ⟨#[]⟩)∧Below wc.heap.size wc w':=rtruth_any false wc
   go_wp2_with fail
   refine c.mono ?_
   rintro e we ⟨rfl,be⟩
   have Te:=hid (below_to Tc.out be)
   obtain⟨z0,z1,z2,f0,f1,f2,B9⟩:=fin_at HB Te G1 HZ 2 0 ⟨#[]⟩
   clear e0 e1 e2 e3 a0 a1 a2 b0 b1 b2 c be
   go_wp2_with fail
   exact bodyPost_ret (v:=V3 2 0 ⟨#[]⟩) (by simp[results,results131,go_sem, *]) rfl ⟨by rw[HE.out],B9.out⟩
  ·have HE:=HE13.out rfl
   have HE:=hid HE
   obtain⟨-,e0,e1,e2,e3,-⟩:=HX.out.later Tc.out
   obtain⟨-,a0,a1,a2⟩:=HVa.out.later UaTc.out
   obtain⟨-,b0,b1,b2⟩:=HVb.out
   have c:Calls prog 128 #[.bool true] wc fun e w'=>e=.returned (V3 2 1 ⟨#[]⟩)∧Below wc.heap.size wc w':=rtruth_any true wc
   go_wp2_with fail
   refine c.mono ?_
   rintro e we ⟨rfl,be⟩
   have Te:=hid (below_to Tc.out be)
   obtain⟨z0,z1,z2,f0,f1,f2,B9⟩:=fin_at HB Te G1 HZ 2 1 ⟨#[]⟩
   clear e0 e1 e2 e3 a0 a1 a2 b0 b1 b2 c be
   go_wp2_with fail
   exact bodyPost_ret (v:=V3 2 1 ⟨#[]⟩) (by simp[results,results131,go_sem, *]) rfl ⟨by rw[HE.out],B9.out⟩
  ·have HE:=HE14.out rfl
   have HE:=hid HE
   obtain⟨-,e0,e1,e2,e3,-⟩:=HX.out.later Tc.out
   obtain⟨-,a0,a1,a2⟩:=HVa.out.later UaTc.out
   obtain⟨-,b0,b1,b2⟩:=HVb.out
   have c:Calls prog 128 #[.bool true] wc fun e w'=>e=.returned (V3 2 1 ⟨#[]⟩)∧Below wc.heap.size wc w':=rtruth_any true wc
   go_wp2_with fail
   refine c.mono ?_
   rintro e we ⟨rfl,be⟩
   have Te:=hid (below_to Tc.out be)
   obtain⟨z0,z1,z2,f0,f1,f2,B9⟩:=fin_at HB Te G1 HZ 2 1 ⟨#[]⟩
   clear e0 e1 e2 e3 a0 a1 a2 b0 b1 b2 c be
   go_wp2_with fail
   exact bodyPost_ret (v:=V3 2 1 ⟨#[]⟩) (by simp[results,results131,go_sem, *]) rfl ⟨by rw[HE.out],B9.out⟩
  ·have HE:=HE15.out rfl
   have HE:=hid HE
   obtain⟨-,e0,e1,e2,e3,-⟩:=HX.out.later Tc.out
   obtain⟨-,a0,a1,a2⟩:=HVa.out.later UaTc.out
   obtain⟨-,b0,b1,b2⟩:=HVb.out
   have c:Calls prog 128 #[.bool true] wc fun e w'=>e=.returned (V3 2 1 ⟨#[]⟩)∧Below wc.heap.size wc w':=rtruth_any true wc
   go_wp2_with fail
   refine c.mono ?_
   rintro e we ⟨rfl,be⟩
   have Te:=hid (below_to Tc.out be)
   obtain⟨z0,z1,z2,f0,f1,f2,B9⟩:=fin_at HB Te G1 HZ 2 1 ⟨#[]⟩
   clear e0 e1 e2 e3 a0 a1 a2 b0 b1 b2 c be
   go_wp2_with fail
   exact bodyPost_ret (v:=V3 2 1 ⟨#[]⟩) (by simp[results,results131,go_sem, *]) rfl ⟨by rw[HE.out],B9.out⟩
theorem rhold_3gt (g gk o cap:Nat) (n:Int) (s:ByteArray) (a b:Va) (w:World) (ha:a.ok) (xa:RKid g w gk (o) a) (hb:b.ok) (xb:RKid g w gk (o+4) b) (op:Int) (ho:op=12∨op=13∨op=14∨op=15) (hk:a.k=3) (hl:b.k=3) (hz:¬ a.s<b.s) (hy:¬ a.s=b.s) :
  Calls prog 131 #[.pointer (some ⟨g,0,none⟩),.agg #[.int .i64 op,.int .i64 n,.string s,.slice (some ⟨gk,o,none⟩) 2 cap]] w (RCom w (cmpV op a b)):=by
 generalize hPV:cmpV op a b=PV
 have HPV:=hid hPV
 clear hPV
 obtain⟨w1,w2,hw1,hw2,G1,HB,HZ,HX⟩:=ent w op n s (.slice (some ⟨gk,o,none⟩) 2 cap)
 have HKa:=hid (xa.later HB.out)
 have HKb:=hid (xb.later HB.out)
 have T2:=hid (Below.refl w2.heap.size w2)
 clear xa xb
 have HE12:Hid (op=12→PV=⟨2,0,[]⟩):=hid (fun h=>HPV.out.symm.trans (show cmpV op a b=⟨2,0,[]⟩ by subst h;unfold cmpV;simp only[hk,want_y hl];simp[holdB,truV,show ¬ a.s=b.s from hy]))
 have HE13:Hid (op=13→PV=⟨2,1,[]⟩):=hid (fun h=>HPV.out.symm.trans (show cmpV op a b=⟨2,1,[]⟩ by subst h;unfold cmpV;simp only[hk,want_y hl];simp[holdB,truV,show ¬ a.s=b.s from hy]))
 have HE14:Hid (op=14→PV=⟨2,0,[]⟩):=hid (fun h=>HPV.out.symm.trans (show cmpV op a b=⟨2,0,[]⟩ by subst h;unfold cmpV;simp only[hk,want_y hl];simp[holdB,truV,hz]))
 have HE15:Hid (op=15→PV=⟨2,0,[]⟩):=hid (fun h=>HPV.out.symm.trans (show cmpV op a b=⟨2,0,[]⟩ by subst h;unfold cmpV;simp only[hk,want_y hl];simp[holdB,truV,show ¬ a.s=b.s from hy,hz]))
 have na0:=(ha.text hk).2.2
 have nb0:=(hb.text hl).2.2
 have hes:(a.s == b.s)=false:=beq_eq_false_iff_ne.2 (hy)
 have hls:Op.bytesLess a.s b.s=false:=by rw[bytesLess_eq];exact decide_eq_false hz
 have hlt:Op.bytesLess (⟨a.s.toArray⟩:ByteArray).toList (⟨b.s.toArray⟩:ByteArray).toList=false:=by rw[txt_less];exact decide_eq_false hz
 clear hz hy
 have hw:okW 3 b=true:=okW_eq hl (by decide) (by decide)
 have HOP:=hid ho
 clear ho
 obtain⟨ka,xa,ta⟩:=a
 obtain⟨kb,xb,tb⟩:=b
 try dsimp only at *
 subst hk
 subst na0
 subst hl
 subst nb0
 obtain⟨-,e0,e1,e2,e3,-⟩:=HX.out
 obtain⟨opa,na,sa,kva,k0,k1,k2,k3,c⟩:=wyk HKa T2 0 ha (okW_any.2 ⟨(by decide:(3:Int)≠4),(by decide:(3:Int)≠0)⟩)
 go_enter func131,ntmps131
 go_wp2_with fail
 refine c.mono ?_
 rintro e w3 ⟨rfl,b⟩
 obtain⟨w4,hw4,HVa,d⟩:=vbl w3 3 0 ta
 have T4:=hid (below_to T2.out (below_to b d))
 clear e0 e1 e2 e3 c d b k0 k1 k2 k3
 obtain⟨-,e0,e1,e2,e3,-⟩:=HX.out.later T4.out
 obtain⟨-,a0,a1,a2⟩:=HVa.out
 have elt:=(HX.out.later T4.out).lt
 have alt:=(HVa.out).1
 obtain⟨opb,nb,sb,kvb,k0,k1,k2,k3,glt,cP1,cP2⟩:=wyd HKb T4 3 hb hw
 go_wp2_with fail
 go_cut [6,7] from 36 to 46 (fun s6 s7 wx=>∃ gg:Nat,s6=.bool true∧s7=.pointer (some ⟨gg,0,none⟩)∧Hid (Below w4.heap.size w4 wx)∧Hid (VB wx gg 3 0 tb))
 case first =>
  go_region_with (go_at_call 210;first | (refine cP2.mono ?_;rintro e wy ⟨rfl,hby,ul,un,u0,u1,u2⟩;have uf0:=(un.weak 0).2;have uf1:=(un.weak 1).2;have uf2:=(un.weak 2).2) | (refine cP1.mono ?_;rintro e wy ⟨rfl,hby⟩))
  all_goals
   go_wp2_with fail
   go_meet
   first
    | exact⟨wy.heap.size,rfl,rfl,hid (below_da hby (Nat.le_refl _) _),hid (VB.new wy 3 0 tb)⟩
    | exact⟨w4.heap.size,rfl,rfl,hid (put3_in (⟨3,0,tb⟩) hby (Nat.le_refl _)),hid (VB.put ⟨ul,un,u0,u1,u2⟩ 3 0 tb)⟩
 case rest =>
  obtain⟨gb,rfl,rfl,HBc,HVb⟩:=hcut
  have Tc:=hid (below_to T4.out HBc.out)
  have UaTc:=HBc
  clear e0 e1 e2 e3 a0 a1 a2 cP1 cP2 k0 k1 k2 k3 elt alt glt
  rcases HOP.out with rfl | rfl | rfl | rfl
  ·have HE:=HE12.out rfl
   have HE:=hid HE
   obtain⟨-,e0,e1,e2,e3,-⟩:=HX.out.later Tc.out
   obtain⟨-,a0,a1,a2⟩:=HVa.out.later UaTc.out
   obtain⟨-,b0,b1,b2⟩:=HVb.out
   have c:Calls prog 128 #[.bool false] wc fun e w'=>e=.returned (V3 2 0 ⟨#[]⟩)∧Below wc.heap.size wc w':=rtruth_any false wc
   go_wp2_with fail
   refine c.mono ?_
   rintro e we ⟨rfl,be⟩
   have Te:=hid (below_to Tc.out be)
   obtain⟨z0,z1,z2,f0,f1,f2,B9⟩:=fin_at HB Te G1 HZ 2 0 ⟨#[]⟩
   clear e0 e1 e2 e3 a0 a1 a2 b0 b1 b2 c be
   go_wp2_with fail
   exact bodyPost_ret (v:=V3 2 0 ⟨#[]⟩) (by simp[results,results131,go_sem, *]) rfl ⟨by rw[HE.out],B9.out⟩
  ·have HE:=HE13.out rfl
   have HE:=hid HE
   obtain⟨-,e0,e1,e2,e3,-⟩:=HX.out.later Tc.out
   obtain⟨-,a0,a1,a2⟩:=HVa.out.later UaTc.out
   obtain⟨-,b0,b1,b2⟩:=HVb.out
   have c:Calls prog 128 #[.bool true] wc fun e w'=>e=.returned (V3 2 1 ⟨#[]⟩)∧Below wc.heap.size wc w':=rtruth_any true wc
   go_wp2_with fail
   refine c.mono ?_
   rintro e we ⟨rfl,be⟩
   have Te:=hid (below_to Tc.out be)
   obtain⟨z0,z1,z2,f0,f1,f2,B9⟩:=fin_at HB Te G1 HZ 2 1 ⟨#[]⟩
   clear e0 e1 e2 e3 a0 a1 a2 b0 b1 b2 c be
   go_wp2_with fail
   exact bodyPost_ret (v:=V3 2 1 ⟨#[]⟩) (by simp[results,results131,go_sem, *]) rfl ⟨by rw[HE.out],B9.out⟩
  ·have HE:=HE14.out rfl
   have HE:=hid HE
   obtain⟨-,e0,e1,e2,e3,-⟩:=HX.out.later Tc.out
   obtain⟨-,a0,a1,a2⟩:=HVa.out.later UaTc.out
   obtain⟨-,b0,b1,b2⟩:=HVb.out
   have c:Calls prog 128 #[.bool false] wc fun e w'=>e=.returned (V3 2 0 ⟨#[]⟩)∧Below wc.heap.size wc w':=rtruth_any false wc
   go_wp2_with fail
   refine c.mono ?_
   rintro e we ⟨rfl,be⟩
   have Te:=hid (below_to Tc.out be)
   obtain⟨z0,z1,z2,f0,f1,f2,B9⟩:=fin_at HB Te G1 HZ 2 0 ⟨#[]⟩
   clear e0 e1 e2 e3 a0 a1 a2 b0 b1 b2 c be
   go_wp2_with fail
   exact bodyPost_ret (v:=V3 2 0 ⟨#[]⟩) (by simp[results,results131,go_sem, *]) rfl ⟨by rw[HE.out],B9.out⟩
  ·have HE:=HE15.out rfl
   have HE:=hid HE
   obtain⟨-,e0,e1,e2,e3,-⟩:=HX.out.later Tc.out
   obtain⟨-,a0,a1,a2⟩:=HVa.out.later UaTc.out
   obtain⟨-,b0,b1,b2⟩:=HVb.out
   have c:Calls prog 128 #[.bool false] wc fun e w'=>e=.returned (V3 2 0 ⟨#[]⟩)∧Below wc.heap.size wc w':=rtruth_any false wc
   go_wp2_with fail
   refine c.mono ?_
   rintro e we ⟨rfl,be⟩
   have Te:=hid (below_to Tc.out be)
   obtain⟨z0,z1,z2,f0,f1,f2,B9⟩:=fin_at HB Te G1 HZ 2 0 ⟨#[]⟩
   clear e0 e1 e2 e3 a0 a1 a2 b0 b1 b2 c be
   go_wp2_with fail
   exact bodyPost_ret (v:=V3 2 0 ⟨#[]⟩) (by simp[results,results131,go_sem, *]) rfl ⟨by rw[HE.out],B9.out⟩
end
end Go.Proofs.YtbbblmedoagncaaGreatDoor
