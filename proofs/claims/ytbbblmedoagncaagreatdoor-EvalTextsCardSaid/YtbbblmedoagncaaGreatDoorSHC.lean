/- EvE, EvU -/
import Derived.Test.YtbbblmedoagncaaGreatDoorSMEvK
import Derived.Test.YtbbblmedoagncaaGreatDoorSGO
import Derived.Test.YtbbblmedoagncaaGreatDoorSHK
import Derived.Test.YtbbblmedoagncaaGreatDoorSHA
namespace Go.Proofs.YtbbblmedoagncaaGreatDoor
section
open Lib (hid)
open _root_.Go.Proofs.Tryz
set_option maxHeartbeats 4000000
set_option maxRecDepth 100000
open Go.RowKit
def vaV (a:Va):Value:=V3 a.k a.n ⟨a.s.toArray⟩
theorem boxd_va {a:Va} (h:a.ok):Boxd (bxV a) a.k a.n ⟨a.s.toArray⟩:=by
 have hc:checkB a.k a.n (⟨a.s.toArray⟩:ByteArray).data.toList=true:=h.1
 have hsz:(⟨a.s.toArray⟩:ByteArray).size=a.s.length:=List.size_toArray
 obtain⟨k,n,s⟩:=a
 rcases check_kind h.1 with ⟨h0,h1,h2⟩ | ⟨h0,h1⟩ | ⟨h0,h1,h2⟩ | ⟨h0,h1,h2,h3⟩ | ⟨h0,h1,h2,h3⟩
 ·dsimp only at h0 h1 h2;subst h0;subst h1;subst h2
  exact⟨.nil,hc,by rw[hsz];exact (by decide:(0:Nat)<9223372036854775807)⟩
 ·dsimp only at h0 h1;subst h0;subst h1
  exact⟨.num n,hc,by rw[hsz];exact (by decide:(0:Nat)<9223372036854775807)⟩
 ·dsimp only at h0 h1 h2;subst h0;subst h2
  refine⟨?_,hc,by rw[hsz];exact (by decide:(0:Nat)<9223372036854775807)⟩
  rcases h1 with rfl | rfl
  ·exact .truth false
  ·exact .truth true
 ·have hl:=h.len h0
  dsimp only at h0 h1 hl;subst h0;subst h1
  exact⟨.text _,hc,by rw[hsz];dsimp only;omega⟩
 ·dsimp only at h0 h3;subst h0;subst h3
  exact⟨.val 4 n _,hc,by rw[hsz];exact (by decide:(0:Nat)<9223372036854775807)⟩
theorem Va.ok.size {a:Va} (h:a.ok):a.s.length≤400:=by
 rcases check_kind h.1 with h1 | h1 | h1 | h1 | h1
 ·rw[h1.2.2];decide
 ·rw[h1.2];decide
 ·rw[h1.2.2];decide
 ·exact h.len h1.1
 ·rw[h1.2.2.2];decide
theorem deep_fits {e:Ex} (h:chkB e=true):allB e=true:=by
 unfold chkB at h
 simp only[Bool.and_eq_true] at h
 exact h.2
theorem eval_any (N:List ByteArray) (V:List Va) (A B:Option Addr) (cA cB:Nat)
  (hU:∀ (t:List UInt8) (w:World),t.length≤400→validL t=true→Tabs w→Calls prog 124 #[.string ⟨t.toArray⟩] w (Comes w (texV (foldL t))))
  (e:Ex) (v:Value) (S:Nat→Prop) (w:World) (hE:EnvP w) (hv:ExIn w S e v) (hK:Knows w N V A B) :
  Calls prog 21 #[v,.slice A N.length cA,.slice B V.length cB] w fun en w'=>en=.returned (vaV (evA N V e))∧Below w.heap.size w w':=by
 have hf:=ExIn.fit e v hv
 have cV:=fun w1 (hb:Below w.heap.size w w1)=>evof_any N V A B cA cB hU (deepE e) e (Nat.le_refl _)
 have hv0:=hv
 obtain⟨ao,cap,rfl,h2,h3,hr,hk⟩:=hv.get
 have hX:=four_new w (.int .i64 e.op) (.int .i64 e.num) (.string ⟨e.str.toArray⟩) (.slice ao e.kids.length cap) 24
 have hb1:=below_alloc w (.cells #[.int .i64 e.op,.int .i64 e.num,.string ⟨e.str.toArray⟩,.slice ao e.kids.length cap] 24)
 have hs1:=alloc_size w (.cells #[.int .i64 e.op,.int .i64 e.num,.string ⟨e.str.toArray⟩,.slice ao e.kids.length cap] 24)
 obtain⟨w1,hw1⟩:∃ w1,w.alloc (.cells #[.int .i64 e.op,.int .i64 e.num,.string ⟨e.str.toArray⟩,.slice ao e.kids.length cap] 24)=w1:=⟨_,rfl⟩
 rw[hw1] at hX hb1 hs1
 have hb2:=below_alloc w1 (.cells #[.int .i64 0,.int .i64 0,.string ⟨#[]⟩] 39)
 have hs2:=alloc_size w1 (.cells #[.int .i64 0,.int .i64 0,.string ⟨#[]⟩] 39)
 have z0:(w1.alloc (.cells #[.int .i64 0,.int .i64 0,.string ⟨#[]⟩] 39)).cell? ⟨w1.heap.size,0,none⟩=some (.int .i64 0):=by rw[cells_of_alloc];rfl
 have z1:(w1.alloc (.cells #[.int .i64 0,.int .i64 0,.string ⟨#[]⟩] 39)).cell? ⟨w1.heap.size,1,none⟩=some (.int .i64 0):=by rw[cells_of_alloc];rfl
 have z2:(w1.alloc (.cells #[.int .i64 0,.int .i64 0,.string ⟨#[]⟩] 39)).cell? ⟨w1.heap.size,2,none⟩=some (.string ⟨#[]⟩):=by rw[cells_of_alloc];rfl
 have n2:=NB.new w1 #[.int .i64 0,.int .i64 0,.string ⟨#[]⟩] 39
 obtain⟨w2,hw2⟩:∃ w2,w1.alloc (.cells #[.int .i64 0,.int .i64 0,.string ⟨#[]⟩] 39)=w2:=⟨_,rfl⟩
 rw[hw2] at hb2 hs2 z0 z1 z2 n2
 have hB:=below_to hb1 hb2
 have cC:=pcheck_any e _ S w2 (hE.later hB) (hv0.later hB)
 obtain⟨hlt,e0,e1,e2,e3⟩:=hX.later hb2
 have HB:=hid hB
 have HV:=hid (hv0.later hB)
 have HK:=hid (hK.later hB)
 have HF:=hid hf
 clear hB hv hv0 hK hE hk hr h2 h3 hb1 hb2 cV
 have gz:w1.heap.size<w2.heap.size:=by omega
 have g1:w.heap.size≤w1.heap.size:=by omega
 have G1:=hid g1
 have ge:w.heap.size<w2.heap.size:=by omega
 clear hs1 hs2 g1
 by_cases hc:chkB e=true
 ·rw[hc] at cC
  have ha:=deep_fits hc
  have hok:=ok_eval N V HK.out.num e ha HF.out
  have HA:=hid (show evA N V e=evalE N V e by unfold evA;rw[if_pos hc])
  have HO:=hid hok
  have cO:=fun w' (hb:Below w2.heap.size w2 w')=>evof_any N V A B cA cB hU (deepE e) e (Nat.le_refl _) ha HF.out w' S _ (HV.out.later hb) (HK.out.later hb)
  have cU:=fun w' (hb:Below w2.heap.size w2 w')=>unbox_yes _ _ _ _ (boxd_va hok) w' (HK.out.tabs.later hb)
  have cL:=fun w'=>clone_any ⟨(evalE N V e).s.toArray⟩ w' (by have:=hok.size;show (evalE N V e).s.toArray.size≤_;rw[List.size_toArray];omega)
  clear hok ha hU
  generalize evalE N V e=R at *
  clear hc
  go_enter func21,ntmps21
  go_wp2_with fail
  refine cC.mono ?_
  rintro en w3 ⟨rfl,b3⟩
  have e0:=(b3.cell (p:=⟨w.heap.size,0,none⟩) ge).trans e0
  have e1:=(b3.cell (p:=⟨w.heap.size,1,none⟩) ge).trans e1
  have e2:=(b3.cell (p:=⟨w.heap.size,2,none⟩) ge).trans e2
  have e3:=(b3.cell (p:=⟨w.heap.size,3,none⟩) ge).trans e3
  have cO:=cO w3 b3
  go_wp2_with fail
  refine cO.mono ?_
  rintro en w4 ⟨rfl,b4⟩
  have b24:=below_to b3 b4
  have cU:=cU w4 b24
  go_wp2_with fail
  refine cU.mono ?_
  rintro en w5 ⟨rfl,b5⟩
  have b25:=below_to b24 b5
  have z0:=(b25.cell (p:=⟨w1.heap.size,0,none⟩) gz).trans z0
  have z1:=(b25.cell (p:=⟨w1.heap.size,1,none⟩) gz).trans z1
  have z2:=(b25.cell (p:=⟨w1.heap.size,2,none⟩) gz).trans z2
  have gz5:w1.heap.size<w5.heap.size:=Nat.lt_of_lt_of_le gz b25.size
  have hb6:=below_alloc w5 (.cells #[.int .i64 R.k,.int .i64 R.n,.string ⟨R.s.toArray⟩] 39)
  have hs6:=alloc_size w5 (.cells #[.int .i64 R.k,.int .i64 R.n,.string ⟨R.s.toArray⟩] 39)
  have a0:(w5.alloc (.cells #[.int .i64 R.k,.int .i64 R.n,.string ⟨R.s.toArray⟩] 39)).cell? ⟨w5.heap.size,0,none⟩=some (.int .i64 R.k):=by rw[cells_of_alloc];rfl
  have a1:(w5.alloc (.cells #[.int .i64 R.k,.int .i64 R.n,.string ⟨R.s.toArray⟩] 39)).cell? ⟨w5.heap.size,1,none⟩=some (.int .i64 R.n):=by rw[cells_of_alloc];rfl
  have a2:(w5.alloc (.cells #[.int .i64 R.k,.int .i64 R.n,.string ⟨R.s.toArray⟩] 39)).cell? ⟨w5.heap.size,2,none⟩=some (.string ⟨R.s.toArray⟩):=by rw[cells_of_alloc];rfl
  have n6:=NB.new w5 #[.int .i64 R.k,.int .i64 R.n,.string ⟨R.s.toArray⟩] 39
  obtain⟨w6,hw6⟩:∃ w6,w5.alloc (.cells #[.int .i64 R.k,.int .i64 R.n,.string ⟨R.s.toArray⟩] 39)=w6:=⟨_,rfl⟩
  rw[hw6] at hb6 hs6 a0 a1 a2 n6
  have n2:=(n2.same (b25.block _ gz)).same (hb6.block _ gz5)
  have g56:w5.heap.size<w6.heap.size:=by omega
  have B6:=hid (below_to HB.out (below_to b25 hb6))
  have z0:=(hb6.cell (p:=⟨w1.heap.size,0,none⟩) gz5).trans z0
  have z1:=(hb6.cell (p:=⟨w1.heap.size,1,none⟩) gz5).trans z1
  have z2:=(hb6.cell (p:=⟨w1.heap.size,2,none⟩) gz5).trans z2
  have cL:=cL w6
  clear cC b24 b25 b3 b4 b5 hb6 hs6
  go_wp2_with fail
  refine cL.mono ?_
  rintro en w7 ⟨rfl,b7⟩
  have a0:=(b7.cell (p:=⟨w5.heap.size,0,none⟩) g56).trans a0
  have a1:=(b7.cell (p:=⟨w5.heap.size,1,none⟩) g56).trans a1
  have a2:=(b7.cell (p:=⟨w5.heap.size,2,none⟩) g56).trans a2
  have z0:=(b7.cell (p:=⟨w1.heap.size,0,none⟩) (Nat.lt_trans gz5 g56)).trans z0
  have z1:=(b7.cell (p:=⟨w1.heap.size,1,none⟩) (Nat.lt_trans gz5 g56)).trans z1
  have z2:=(b7.cell (p:=⟨w1.heap.size,2,none⟩) (Nat.lt_trans gz5 g56)).trans z2
  have hne:w5.heap.size≠w1.heap.size:=by omega
  have hne2:w1.heap.size≠w5.heap.size:=by omega
  have B7:=hid (below_to B6.out b7)
  have n2:=n2.same (b7.block _ (Nat.lt_trans gz5 g56))
  have n6:=n6.same (b7.block _ g56)
  have f5:=(n6.weak 2).2
  have f0:=(n2.weak 0).2
  have f1:=(n2.weak 1).2
  have f2:=(n2.weak 2).2
  have B8:Hid (Below w.heap.size w ((((w7.setCell ⟨w5.heap.size,2,none⟩ (.string ⟨R.s.toArray⟩)).setCell ⟨w1.heap.size,0,none⟩ (.int .i64 R.k)).setCell ⟨w1.heap.size,1,none⟩ (.int .i64 R.n)).setCell ⟨w1.heap.size,2,none⟩ (.string ⟨R.s.toArray⟩))) :=
   hid ((((B7.out.setCell (p:=⟨w5.heap.size,2,none⟩) (Nat.le_trans G1.out (Nat.le_of_lt gz5)) _).setCell (p:=⟨w1.heap.size,0,none⟩) G1.out _).setCell (p:=⟨w1.heap.size,1,none⟩) G1.out _).setCell (p:=⟨w1.heap.size,2,none⟩) G1.out _)
  clear b7 n2 n6
  go_wp2_with fail
  exact bodyPost_ret (v:=V3 R.k R.n ⟨R.s.toArray⟩) (by simp[results,results21,go_sem, *]) rfl ⟨by rw[HA.out];rfl,B8.out⟩
 ·have hc:chkB e=false:=by simpa using hc
  rw[hc] at cC
  have HA:=hid (show evA N V e=blankV by unfold evA;rw[hc];rfl)
  clear hc hU
  go_enter func21,ntmps21
  go_wp2_with fail
  refine cC.mono ?_
  rintro en w3 ⟨rfl,b3⟩
  have z0:=(b3.cell (p:=⟨w1.heap.size,0,none⟩) gz).trans z0
  have z1:=(b3.cell (p:=⟨w1.heap.size,1,none⟩) gz).trans z1
  have z2:=(b3.cell (p:=⟨w1.heap.size,2,none⟩) gz).trans z2
  have n2:=n2.same (b3.block _ gz)
  have f0:=(n2.weak 0).2
  have f1:=(n2.weak 1).2
  have f2:=(n2.weak 2).2
  have B3:=hid (below_to HB.out b3)
  have B8:Hid (Below w.heap.size w (((w3.setCell ⟨w1.heap.size,0,none⟩ (.int .i64 0)).setCell ⟨w1.heap.size,1,none⟩ (.int .i64 0)).setCell ⟨w1.heap.size,2,none⟩ (.string ⟨#[]⟩))) :=
   hid (((B3.out.setCell (p:=⟨w1.heap.size,0,none⟩) G1.out _).setCell (p:=⟨w1.heap.size,1,none⟩) G1.out _).setCell (p:=⟨w1.heap.size,2,none⟩) G1.out _)
  clear b3 n2 cC
  go_wp2_with fail
  exact bodyPost_ret (v:=V3 0 0 ⟨#[]⟩) (by simp[results,results21,go_sem, *]) rfl ⟨by rw[HA.out];rfl,B8.out⟩
end
section
open _root_.Go.Proofs.Tryz
open Go.RowKit
theorem len_cnt (l:List UInt8):l.length≤4 * countL l:=by
 refine pcs_induct (Q:=fun l=>l.length≤4 * countL l) (by simp) ?_ l
 intro l hne ih
 have h4:=decodeL_four l
 have:countL l=countL (l.drop (Lib.decodeL l).2)+1:=by unfold countL;rw[pcs_step l hne];simp
 rw[List.length_drop] at ih
 omega
theorem do_up (t:List UInt8) (w:World) (ht:t.length≤400) (hl:(foldL t).length≤100000) (hT:Tabs w):Calls prog 124 #[.string ⟨t.toArray⟩] w (Comes w (texV (foldL t))):=by
 have hs:(⟨t.toArray⟩:ByteArray).size≤17592186044416:=by show t.toArray.size≤_;rw[List.size_toArray];omega
 have cF:=fold_any ⟨t.toArray⟩ w hs hT
 have cT:=fun w' (hb:Below w.heap.size w w')=>evtext_any (foldL t) w' hl (hT.later hb)
 rw[show (⟨t.toArray⟩:ByteArray).data.toList=t from rfl] at cF
 generalize (⟨t.toArray⟩:ByteArray)=S at *
 generalize (⟨(foldL t).toArray⟩:ByteArray)=U at *
 clear hs
 go_enter func124,ntmps124
 go_wp2_with fail
 refine cF.mono ?_
 rintro e w1 ⟨rfl,b1⟩
 have cT:=cT w1 b1
 go_wp2_with fail
 refine cT.mono ?_
 rintro e w2 ⟨rfl,b2⟩
 go_wp2_with fail
 go_ret
 exact⟨rfl,below_to b1 b2⟩
theorem count_few (l:List UInt8):countL l≤l.length:=by
 have:=pieces_len ⟨l.toArray⟩ (pcs l) rfl
 have h1:(⟨l.toArray⟩:ByteArray).size=l.length:=List.size_toArray
 unfold countL
 omega
theorem eval_all (N:List ByteArray) (V:List Va) (A B:Option Addr) (cA cB:Nat) (e:Ex) (v:Value) (S:Nat→Prop) (w:World) (hE:EnvP w) (hv:ExIn w S e v) (hK:Knows w N V A B) :
  Calls prog 21 #[v,.slice A N.length cA,.slice B V.length cB] w fun en w'=>en=.returned (vaV (evA N V e))∧Below w.heap.size w w' :=
 eval_any N V A B cA cB (fun t w ht _ hT=>do_up t w ht (by have h1:=len_cnt (foldL t);have h2:=count_few t;rw[count_fold] at h1;omega) hT) e v S w hE hv hK
end
end Go.Proofs.YtbbblmedoagncaaGreatDoor
