/- LawEvalTextsW -/
import Derived.Test.YtbbblmedoagncaaGreatDoorSHB
import Derived.Test.YtbbblmedoagncaaGreatDoorSGE
import Derived.Test.YtbbblmedoagncaaGreatDoorSEX
import Derived.Test.YtbbblmedoagncaaGreatDoorSGX
import Derived.Test.YtbbblmedoagncaaGreatDoorSGU
import Derived.Test.YtbbblmedoagncaaGreatDoorSVQ
import Derived.Test.YtbbblmedoagncaaGreatDoorSVE
import Derived.BigQuiet
namespace Go.Proofs.YtbbblmedoagncaaGreatDoor
section
open _root_.Go.Lib (hid)
open _root_.Go.Proofs.Tryz
set_option maxHeartbeats 16000000
set_option maxRecDepth 1000000
open Go.RowKit
theorem eq_val {R:Va} (w:World):(binOp .eql 39 (vaV R) (vaV R)).run prog w=.ok (.bool true) w:=same_yes _ _ _ w
theorem evaltexts_walk (t:ByteArray) (A:Option Addr) (N:List ByteArray) (cA:Nat) (B:Option Addr) (V:List Va) (cB:Nat) (w:World) (_hs:t.size≤9223372036854775807)
  (_lA:N.length≤cA) (mA:N.length≤140737488351232) (hN:Ts w A N) (qA:A=none→cA=0) (_lB:V.length≤cB) (mB:V.length≤4398046511104) (hV:Vs w B V) (hx:∀ x ∈ V,In64 x.k∧In64 x.n∧x.s.length≤reachBytes) (qB:B=none→cB=0) (hE0:EnvP w) :
  Calls prog 4 #[.string t,.slice A N.length cA,.slice B V.length cB] w fun en w'=>en=.returned (.bool true)∧Below w.heap.size w w':=by
 have hK:Knows w N V A B:=⟨hN,hV,hE0.env.tabs,by omega,by omega,fun v hv=>by have:=(hx v hv).2.2;unfold reachBytes at this;omega,fun v hv=>(hx v hv).2.1⟩
 have HQA:=hid qA
 have HQB:=hid qB
 have HK:=hid hK
 have HEE:=hid hE0
 have HB0:=hid (Below.refl w.heap.size w)
 clear hN hV hK mA hx _lA qA _lB qB mB
 by_cases hl:400<t.size
 ·have hlz:(400:Int)<(t.size:Int):=by omega
  clear hE0
  have caw:=evawake_any w (HEE.out)
  go_enter func4,ntmps4
  go_wp2_with fail
  (with_reducible refine caw.mono ?_)
  rintro en wz ⟨rfl,bz⟩
  go_wp2_with fail
  go_ret
  exact⟨rfl,bz⟩
 have hlz:¬ (400:Int)<(t.size:Int):=by omega
 obtain⟨R0,hS⟩:=says_all t.data.toList
 have cP:=rparseF_any t R0 w (by omega) hE0 hS
 have HS:=hid hS
 clear hS hE0 hl
 go_enter func4,ntmps4
 have cc:=few9_any N V A B cA cB w HK.out.vals
 go_wp2_with fail
 (with_reducible refine cc.mono ?_)
 rintro en w5 ⟨⟨b,rfl,hb⟩,rfl⟩
 have HF:=hid hb
 clear cc hb
 cases b with
 | false =>
  clear cP
  have caw:=evawake_any w (HEE.out.later (Below.refl _ _))
  go_wp2_with fail
  (with_reducible refine caw.mono ?_)
  rintro en wz ⟨rfl,bz⟩
  have HBF:=hid (below_to (Below.refl _ _) bz)
  clear bz caw
  go_wp2_with fail
  go_ret
  exact⟨rfl,HBF.out⟩
 | true =>
  have h50:=HF.out (by trivial)
  have H5A:=hid (show N.length≤1000 by omega)
  have H5B:=hid (show V.length≤1000 by omega)
  clear h50
  cases R0 with
  | error q =>
   have hq:=says_err HS.out
   have hqz:((q.2:Int) == 0)=false:=beq_eq_false_iff_ne.2 (by omega)
   have hqn:((q.2:Int) != 0)=true:=by simp;omega
   obtain⟨Q2,hQ2⟩:∃ Q2:Int,(q.2:Int)=Q2:=⟨_,rfl⟩
   obtain⟨Q1,hQ1⟩:∃ Q1:Int,(q.1:Int)=Q1:=⟨_,rfl⟩
   unfold PaEnd at cP
   dsimp only at cP
   rw[hQ1,hQ2] at cP
   rw[hQ2] at hqz hqn
   clear hQ1 hQ2 hq HS
   go_wp2_with fail
   refine cP.mono ?_
   rintro en w1 ⟨b1,rfl⟩
   have d2:=below_alloc w1 (.cells #[.int .i64 0,.int .i64 0,.string ⟨#[]⟩,.slice none 0 0] 24)
   have HB2:=hid (below_to b1 d2)
   clear b1 d2 cP
   have caw:=evawake_any _ (HEE.out.later HB2.out)
   go_wp2_with fail
   (with_reducible refine caw.mono ?_)
   rintro en wz ⟨rfl,bz⟩
   have HBF:=hid (below_to HB2.out bz)
   clear bz caw
   go_wp2_with fail
   go_ret
   exact⟨rfl,HBF.out⟩
  | ok e =>
   unfold PaEnd at cP
   dsimp only at cP
   have HC:=hid (says_chk HS.out)
   clear HS
   go_wp2_with fail
   refine cP.mono ?_
   rintro en w1 ⟨b1,op,n1,z,ao,c,rfl,hx⟩
   have d2:=below_alloc w1 (.cells #[.int .i64 op,.int .i64 n1,.string z,.slice ao e.kids.length c] 24)
   have f2:=four_new w1 (.int .i64 op) (.int .i64 n1) (.string z) (.slice ao e.kids.length c) 24
   have hx2:=hx.later d2
   have hB2:=below_to b1 d2
   obtain⟨w2,hw2⟩:∃ w2,w1.alloc (.cells #[.int .i64 op,.int .i64 n1,.string z,.slice ao e.kids.length c] 24)=w2:=⟨_,rfl⟩
   rw[hw2] at d2 f2 hx2 hB2
   have HX0:=hid f2
   have HV0:=hid hx2
   have B2:=hid hB2
   clear b1 hx d2 hx2 hB2 cP f2
   have hev:evA N V e=evalE N V e:=by unfold evA;rw[if_pos HC.out]
   have kA:∀ (wz:World) (A4 D:Option Addr) (p4 cD:Nat) (S:Nat→Prop) (v:Value),EnvP wz→ExIn wz S e v→Knows wz N V A4 D→Calls prog 21 #[v,.slice A4 N.length p4,.slice D V.length cD] wz fun en w'=>en=.returned (vaV (evalE N V e))∧Below wz.heap.size wz w':=fun wz A4 D p4 cD S v h1 h2 h3=>by
    have c:=eval_all N V A4 D p4 cD e v S wz h1 h2 h3
    rw[hev] at c
    exact c
   have kB:∀ (wz:World),Below w2.heap.size w2 wz→Calls prog 24 #[EV op n1 z (.slice ao e.kids.length c),.slice A N.length cA,.slice B V.length cB] wz fun en w'=>en=.returned (vaV (evalE N V e))∧Below wz.heap.size wz w':=fun wz hb=>reval_any N V A B cA cB e _ _ wz HC.out (HV0.out.later hb) (HK.out.later (below_to B2.out hb))
   have ye:=fun wz=>eq_val (R:=evalE N V e) wz
   clear hev
   generalize evalE N V e=R at *
   obtain⟨K,n,s⟩:=R
   unfold vaV at kA kB ye
   dsimp only at kA kB ye
   obtain⟨-,q0,q1,q2,q3,-⟩:=HX0.out
   go_wp2_with fail
   clear q0 q1 q2 q3 hw2
   refine wp_region_held_drew (S:=fun w'=>Below w2.heap.size w2 w') (by kernel_rfl) ((Below.refl _ _).drew) (fun hHeld=>?_)
   refine held_take (i:=0) (v:=?_) rfl (by kernel_rfl) (by kernel_rfl) (by kernel_rfl) (fun _ _ _ h=>h) (by rfl) hHeld ?_ ?_
   rotate_left
   ·intro wz hSz;obtain⟨-,q0,q1,q2,q3,-⟩:=HX0.out.later hSz;go_simp;try with_reducible rfl
   simp only[Act.put,List.setIfInBounds_toArray,List.set_cons_zero,List.set_cons_succ]
   refine held_take (i:=1) (v:=?_) rfl (by kernel_rfl) (by kernel_rfl) (by kernel_rfl) (fun _ _ _ h=>h) (by rfl) hHeld ?_ ?_
   rotate_left
   ·intro wz hSz;go_simp;try with_reducible rfl
   simp only[Act.put,List.setIfInBounds_toArray,List.set_cons_zero,List.set_cons_succ]
   refine held_take (i:=3) (v:=?_) rfl (by kernel_rfl) (by kernel_rfl) (by kernel_rfl) (fun _ _ _ h=>h) (by rfl) hHeld ?_ ?_
   rotate_left
   ·intro wz hSz;go_simp;try with_reducible rfl
   simp only[Act.put,List.setIfInBounds_toArray,List.set_cons_zero,List.set_cons_succ]
   refine held_take (i:=6) (v:=?_) rfl (by kernel_rfl) (by kernel_rfl) (by kernel_rfl) (fun _ _ _ h=>h) (by rfl) hHeld ?_ ?_
   rotate_left
   ·intro wz hSz;obtain⟨-,q0,q1,q2,q3,-⟩:=HX0.out.later hSz;go_simp;try with_reducible rfl
   simp only[Act.put,List.setIfInBounds_toArray,List.set_cons_zero,List.set_cons_succ]
   refine held_take (i:=7) (v:=?_) rfl (by kernel_rfl) (by kernel_rfl) (by kernel_rfl) (fun _ _ _ h=>h) (by rfl) hHeld ?_ ?_
   rotate_left
   ·intro wz hSz;go_simp;try with_reducible rfl
   simp only[Act.put,List.setIfInBounds_toArray,List.set_cons_zero,List.set_cons_succ]
   refine held_take (i:=8) (v:=?_) rfl (by kernel_rfl) (by kernel_rfl) (by kernel_rfl) (fun _ _ _ h=>h) (by rfl) hHeld ?_ ?_
   rotate_left
   ·intro wz hSz;go_simp;try with_reducible rfl
   simp only[Act.put,List.setIfInBounds_toArray,List.set_cons_zero,List.set_cons_succ]
   refine held_call (i:=2) (by kernel_rfl) rfl (by rfl) (by go_simp;try with_reducible rfl) (texts_any A N cA _ H5A.out (HK.out.later (below_to B2.out hHeld)).names HQA.out) ?_
   rintro e wy ⟨A4,p4,rfl,-,hN4,-,-,hy4⟩
   refine⟨_,rfl,below_to hHeld hy4,?_⟩
   replace hHeld:=below_to hHeld hy4
   simp only[Act.put,List.setIfInBounds_toArray,List.set_cons_zero,List.set_cons_succ]
   have HN4:=hid hN4
   clear hN4
   refine held_call (i:=4) (by kernel_rfl) rfl (by rfl) (by go_simp;try with_reducible rfl) (vals_any B V cB _ H5B.out (HK.out.later (below_to B2.out hHeld)).vals HQB.out) ?_
   rintro e wy ⟨D,cD,rfl,hO,hy5⟩
   refine⟨_,rfl,below_to hHeld hy5,?_⟩
   replace hHeld:=below_to hHeld hy5
   simp only[Act.put,List.setIfInBounds_toArray,List.set_cons_zero,List.set_cons_succ]
   have HK5:=hid (show Knows wy N V A4 D from ⟨HN4.out.below hy5,hO.vs,(HK.out.later (below_to B2.out hHeld)).tabs,HK.out.ln,HK.out.lv,HK.out.len,HK.out.num⟩)
   clear hO
   refine held_call (i:=5) (by kernel_rfl) rfl (by rfl) (by go_simp;try with_reducible rfl) (kA _ A4 D p4 cD _ _ (HEE.out.later (below_to B2.out hHeld)) (HV0.out.later hHeld) HK5.out) ?_
   rintro e wy ⟨rfl,hy6⟩
   refine⟨_,rfl,below_to hHeld hy6,?_⟩
   replace hHeld:=below_to hHeld hy6
   simp only[Act.put,List.setIfInBounds_toArray,List.set_cons_zero,List.set_cons_succ]
   refine held_call (i:=9) (by kernel_rfl) rfl (by rfl) (by go_simp;try with_reducible rfl) (kB _ hHeld) ?_
   rintro e wy ⟨rfl,hy7⟩
   refine⟨_,rfl,below_to hHeld hy7,?_⟩
   replace hHeld:=below_to hHeld hy7
   simp only[Act.put,List.setIfInBounds_toArray,List.set_cons_zero,List.set_cons_succ]
   refine held_take (i:=10) (v:=.bool true) rfl (by kernel_rfl) (by kernel_rfl) (by kernel_rfl) (fun _ _ _ h=>h) (by rfl) hHeld ?_ ?_
   ·intro wz hSz;(have ye:=ye wz;go_simp;first | done | rfl | exact ye)
   simp only[Act.put,List.setIfInBounds_toArray,List.set_cons_zero,List.set_cons_succ]
   refine held_take (i:=11) (v:=?_) rfl (by kernel_rfl) (by kernel_rfl) (by kernel_rfl) (fun _ _ _ h=>h) (by rfl) hHeld ?_ ?_
   rotate_left
   ·intro wz hSz;go_simp;try with_reducible rfl
   simp only[Act.put,List.setIfInBounds_toArray,List.set_cons_zero,List.set_cons_succ]
   refine held_call (i:=12) (by kernel_rfl) rfl (by rfl) (by go_simp;try with_reducible rfl) (evawake_any _ (HEE.out.later (below_to B2.out hHeld))) ?_
   rintro e wy ⟨rfl,hy8⟩
   refine⟨_,rfl,below_to hHeld hy8,?_⟩
   replace hHeld:=below_to hHeld hy8
   simp only[Act.put,List.setIfInBounds_toArray,List.set_cons_zero,List.set_cons_succ]
   refine held_take (i:=13) (v:=?_) rfl (by kernel_rfl) (by kernel_rfl) (by kernel_rfl) (fun _ _ _ h=>h) (by rfl) hHeld ?_ ?_
   rotate_left
   ·intro wz hSz;go_simp;try with_reducible rfl
   simp only[Act.put,List.setIfInBounds_toArray,List.set_cons_zero,List.set_cons_succ]
   refine held_take (i:=14) (v:=?_) rfl (by kernel_rfl) (by kernel_rfl) (by kernel_rfl) (fun _ _ _ h=>h) (by rfl) hHeld ?_ ?_
   rotate_left
   ·intro wz hSz;go_simp;try with_reducible rfl
   simp only[Act.put,List.setIfInBounds_toArray,List.set_cons_zero,List.set_cons_succ]
   refine wpAnyH_done (by kernel_rfl) ?_ _
   have HBF:=hid (below_to B2.out hHeld)
   go_wp2_with fail
   exact bodyPost_ret (v:=.bool true) (by simp[results,results4,go_sem]) rfl ⟨rfl,HBF.out⟩
end
end Go.Proofs.YtbbblmedoagncaaGreatDoor
