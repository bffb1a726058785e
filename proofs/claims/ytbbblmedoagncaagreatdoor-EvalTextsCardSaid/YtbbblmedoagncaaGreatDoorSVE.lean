/- RvO, RvY, RvE -/
import Derived.Test.YtbbblmedoagncaaGreatDoorSVX
import Derived.Test.YtbbblmedoagncaaGreatDoorSVD
import Derived.Test.YtbbblmedoagncaaGreatDoorSVC
import Derived.Test.YtbbblmedoagncaaGreatDoorSMRvYD
import Derived.Test.YtbbblmedoagncaaGreatDoorSMRvZ
import Derived.Test.YtbbblmedoagncaaGreatDoorSHC
namespace Go.Proofs.YtbbblmedoagncaaGreatDoor
section
open _root_.Go.Lib (hid)
open _root_.Go.Proofs.Tryz
set_option maxHeartbeats 1000000
set_option maxRecDepth 100000
open Go.RowKit
theorem rof_num (g:Nat) (n:Int) (s:ByteArray) (ao:Option Addr) (len cap:Nat) (w:World)  :
  Calls prog 51 #[.pointer (some ⟨g,0,none⟩),.agg #[.int .i64 1,.int .i64 n,.string s,.slice ao len cap]] w (RCom w (⟨1,n,[]⟩)):=by
 obtain⟨w1,w2,hw1,hw2,G1,HB,HZ,HX⟩:=ent w 1 n s (.slice ao len cap)
 obtain⟨-,e0,e1,e2,e3,-⟩:=HX.out
 have c:=(rnum_any n w2:Calls prog 127 #[.int .i64 n] w2 fun e w'=>e=.returned (V3 1 n ⟨#[]⟩)∧Below w2.heap.size w2 w')
 go_enter func51,ntmps51
 go_wp2_with fail
 refine c.mono ?_
 rintro e w3 ⟨rfl,b3⟩
 have T3:=hid b3
 clear c b3 e0 e1 e2 e3
 obtain⟨z0,z1,z2,f0,f1,f2,B9⟩:=fin_at HB T3 G1 HZ 1 n ⟨#[]⟩
 go_wp2_with fail
 exact bodyPost_ret (v:=V3 1 n ⟨#[]⟩) (by simp[results,results51,go_sem, *]) rfl ⟨rfl,B9.out⟩
theorem rof_text (g:Nat) (n:Int) (s:ByteArray) (ao:Option Addr) (len cap:Nat) (w:World)  :
  Calls prog 51 #[.pointer (some ⟨g,0,none⟩),.agg #[.int .i64 2,.int .i64 n,.string s,.slice ao len cap]] w (RCom w (⟨3,0,s.data.toList⟩)):=by
 obtain⟨w1,w2,hw1,hw2,G1,HB,HZ,HX⟩:=ent w 2 n s (.slice ao len cap)
 obtain⟨-,e0,e1,e2,e3,-⟩:=HX.out
 go_enter func51,ntmps51
 obtain⟨z0,z1,z2,f0,f1,f2,B9⟩:=fin_at HB (hid (Below.refl _ _)) G1 HZ 3 0 ⟨s.data.toList.toArray⟩
 go_wp2_with fail
 exact bodyPost_ret (v:=V3 3 0 ⟨s.data.toList.toArray⟩) (by simp[results,results51,go_sem, *]) rfl ⟨rfl,B9.out⟩
theorem rof_bool (g:Nat) (n:Int) (s:ByteArray) (ao:Option Addr) (len cap:Nat) (w:World) (h01:n=0∨n=1) :
  Calls prog 51 #[.pointer (some ⟨g,0,none⟩),.agg #[.int .i64 3,.int .i64 n,.string s,.slice ao len cap]] w (RCom w (⟨2,n,[]⟩)):=by
 obtain⟨w1,w2,hw1,hw2,G1,HB,HZ,HX⟩:=ent w 3 n s (.slice ao len cap)
 obtain⟨-,e0,e1,e2,e3,-⟩:=HX.out
 have HN:=hid (show truV (n == 1)=⟨2,n,[]⟩ by rcases h01 with rfl | rfl<;>rfl)
 have c:=(by have c:=rtruth_any (n == 1) w2;unfold RCom at c;rw[HN.out] at c;exact c:Calls prog 128 #[.bool (n == 1)] w2 fun e w'=>e=.returned (V3 2 n ⟨#[]⟩)∧Below w2.heap.size w2 w')
 go_enter func51,ntmps51
 go_wp2_with fail
 refine c.mono ?_
 rintro e w3 ⟨rfl,b3⟩
 have T3:=hid b3
 clear c b3 e0 e1 e2 e3
 obtain⟨z0,z1,z2,f0,f1,f2,B9⟩:=fin_at HB T3 G1 HZ 2 n ⟨#[]⟩
 go_wp2_with fail
 exact bodyPost_ret (v:=V3 2 n ⟨#[]⟩) (by simp[results,results51,go_sem, *]) rfl ⟨rfl,B9.out⟩
theorem rof_name (g:Nat) (n:Int) (s:ByteArray) (ao:Option Addr) (len cap:Nat) (w:World) (a:Va) (cN:∀ w',Below w.heap.size w w'→Calls prog 129 #[.pointer (some ⟨g,0,none⟩),.string s] w' (RCom w' a)) :
  Calls prog 51 #[.pointer (some ⟨g,0,none⟩),.agg #[.int .i64 4,.int .i64 n,.string s,.slice ao len cap]] w (RCom w (a)):=by
 obtain⟨w1,w2,hw1,hw2,G1,HB,HZ,HX⟩:=ent w 4 n s (.slice ao len cap)
 obtain⟨-,e0,e1,e2,e3,-⟩:=HX.out
 have c:=(cN w2 HB.out:Calls prog 129 #[.pointer (some ⟨g,0,none⟩),.string s] w2 fun e w'=>e=.returned (V3 a.k a.n ⟨a.s.toArray⟩)∧Below w2.heap.size w2 w')
 go_enter func51,ntmps51
 go_wp2_with fail
 refine c.mono ?_
 rintro e w3 ⟨rfl,b3⟩
 have T3:=hid b3
 clear c b3 e0 e1 e2 e3
 obtain⟨z0,z1,z2,f0,f1,f2,B9⟩:=fin_at HB T3 G1 HZ a.k a.n ⟨a.s.toArray⟩
 go_wp2_with fail
 exact bodyPost_ret (v:=V3 a.k a.n ⟨a.s.toArray⟩) (by simp[results,results51,go_sem, *]) rfl ⟨rfl,B9.out⟩
theorem rof_has (g gk o cap:Nat) (n:Int) (s t:ByteArray) (w:World) (a:Va) (x2:w.cell? ⟨gk,o+2,none⟩=some (.string t)) (cN:∀ w',Below w.heap.size w w'→Calls prog 129 #[.pointer (some ⟨g,0,none⟩),.string t] w' (RCom w' a)) :
  Calls prog 51 #[.pointer (some ⟨g,0,none⟩),.agg #[.int .i64 22,.int .i64 n,.string s,.slice (some ⟨gk,o,none⟩) 1 cap]] w (RCom w (truV (hasV a))):=by
 obtain⟨w1,w2,hw1,hw2,G1,HB,HZ,HX⟩:=ent w 22 n s (.slice (some ⟨gk,o,none⟩) 1 cap)
 have x2:=(HB.out.cell (p:=⟨gk,o+2,none⟩) (World.block_lt_of_cell? w _ x2)).trans x2
 obtain⟨-,e0,e1,e2,e3,-⟩:=HX.out
 have c:Calls prog 129 #[.pointer (some ⟨g,0,none⟩),.string t] w2 fun e w'=>e=.returned (V3 a.k a.n ⟨a.s.toArray⟩)∧Below w2.heap.size w2 w':=cN w2 HB.out
 have hH:hasV a=(!(a.k == 0) && !(a.k == 4)):=by unfold hasV;by_cases h0:a.k=0<;>by_cases h4:a.k=4<;>simp[h0,h4]
 have HH:=hid hH
 clear cN hH
 obtain⟨b0,hb0⟩:∃ b,(a.k == 0)=b:=⟨_,rfl⟩
 obtain⟨b4,hb4⟩:∃ b,(a.k == 4)=b:=⟨_,rfl⟩
 have hn0:(a.k != 0)=!b0:=by rw[← hb0];rfl
 have hn4:(a.k != 4)=!b4:=by rw[← hb4];rfl
 rw[hb0,hb4] at HH
 cases b0<;>cases b4
 all_goals
  simp only[Bool.not_true,Bool.not_false] at hn0 hn4
  go_enter func51,ntmps51
  go_wp2_with fail
  refine c.mono ?_
  rintro e w3 ⟨rfl,b3⟩
  obtain⟨w4,hw4,HV,d⟩:=vbl w3 a.k a.n a.s
  have T4:=hid (below_to b3 d)
  obtain⟨-,v0,v1,v2⟩:=HV.out
  have cT:Calls prog 128 #[.bool true] w4 fun e w'=>e=.returned (V3 2 1 ⟨#[]⟩)∧Below w4.heap.size w4 w':=rtruth_any true w4
  have cF:Calls prog 128 #[.bool false] w4 fun e w'=>e=.returned (V3 2 0 ⟨#[]⟩)∧Below w4.heap.size w4 w':=rtruth_any false w4
  clear c b3 d e0 e1 e2 e3 x2
  go_wp2_with fail
  (first | (with_reducible refine cT.mono ?_) | (with_reducible refine cF.mono ?_))
  rintro e w5 ⟨rfl,b5⟩
  have T5:=hid (below_to T4.out b5)
  clear cT cF b5 v0 v1 v2 hw4
  obtain⟨z0,z1,z2,f0,f1,f2,-⟩:=fin_at HB T5 G1 HZ 0 0 ⟨#[]⟩
  have B9:=fun n=>(fin_at HB T5 G1 HZ 2 n ⟨#[]⟩).2.2.2.2.2.2
  go_wp2_with fail
  first
   | exact bodyPost_ret (v:=V3 2 1 ⟨#[]⟩) (by simp[results,results51,go_sem, *]) rfl ⟨by rw[HH.out];rfl,(B9 1).out⟩
   | exact bodyPost_ret (v:=V3 2 0 ⟨#[]⟩) (by simp[results,results51,go_sem, *]) rfl ⟨by rw[HH.out];rfl,(B9 0).out⟩
theorem rof_5 (g:Nat) (n:Int) (s:ByteArray) (ao:Option Addr) (len cap:Nat) (w:World) (a:Va) (cN:∀ w',Below w.heap.size w w'→Calls prog 133 #[.pointer (some ⟨g,0,none⟩),.agg #[.int .i64 5,.int .i64 n,.string s,.slice ao len cap]] w' (RCom w' a)) :
  Calls prog 51 #[.pointer (some ⟨g,0,none⟩),.agg #[.int .i64 5,.int .i64 n,.string s,.slice ao len cap]] w (RCom w (a)):=by
 obtain⟨w1,w2,hw1,hw2,G1,HB,HZ,HX⟩:=ent w 5 n s (.slice ao len cap)
 obtain⟨-,e0,e1,e2,e3,-⟩:=HX.out
 have c:=(cN w2 HB.out:Calls prog 133 #[.pointer (some ⟨g,0,none⟩),.agg #[.int .i64 5,.int .i64 n,.string s,.slice ao len cap]] w2 fun e w'=>e=.returned (V3 a.k a.n ⟨a.s.toArray⟩)∧Below w2.heap.size w2 w')
 go_enter func51,ntmps51
 go_wp2_with fail
 refine c.mono ?_
 rintro e w3 ⟨rfl,b3⟩
 have T3:=hid b3
 clear c b3 e0 e1 e2 e3
 obtain⟨z0,z1,z2,f0,f1,f2,B9⟩:=fin_at HB T3 G1 HZ a.k a.n ⟨a.s.toArray⟩
 go_wp2_with fail
 exact bodyPost_ret (v:=V3 a.k a.n ⟨a.s.toArray⟩) (by simp[results,results51,go_sem, *]) rfl ⟨rfl,B9.out⟩
theorem rof_7 (g:Nat) (n:Int) (s:ByteArray) (ao:Option Addr) (len cap:Nat) (w:World) (a:Va) (cN:∀ w',Below w.heap.size w w'→Calls prog 133 #[.pointer (some ⟨g,0,none⟩),.agg #[.int .i64 7,.int .i64 n,.string s,.slice ao len cap]] w' (RCom w' a)) :
  Calls prog 51 #[.pointer (some ⟨g,0,none⟩),.agg #[.int .i64 7,.int .i64 n,.string s,.slice ao len cap]] w (RCom w (a)):=by
 obtain⟨w1,w2,hw1,hw2,G1,HB,HZ,HX⟩:=ent w 7 n s (.slice ao len cap)
 obtain⟨-,e0,e1,e2,e3,-⟩:=HX.out
 have c:=(cN w2 HB.out:Calls prog 133 #[.pointer (some ⟨g,0,none⟩),.agg #[.int .i64 7,.int .i64 n,.string s,.slice ao len cap]] w2 fun e w'=>e=.returned (V3 a.k a.n ⟨a.s.toArray⟩)∧Below w2.heap.size w2 w')
 go_enter func51,ntmps51
 go_wp2_with fail
 refine c.mono ?_
 rintro e w3 ⟨rfl,b3⟩
 have T3:=hid b3
 clear c b3 e0 e1 e2 e3
 obtain⟨z0,z1,z2,f0,f1,f2,B9⟩:=fin_at HB T3 G1 HZ a.k a.n ⟨a.s.toArray⟩
 go_wp2_with fail
 exact bodyPost_ret (v:=V3 a.k a.n ⟨a.s.toArray⟩) (by simp[results,results51,go_sem, *]) rfl ⟨rfl,B9.out⟩
theorem rof_8 (g:Nat) (n:Int) (s:ByteArray) (ao:Option Addr) (len cap:Nat) (w:World) (a:Va) (cN:∀ w',Below w.heap.size w w'→Calls prog 133 #[.pointer (some ⟨g,0,none⟩),.agg #[.int .i64 8,.int .i64 n,.string s,.slice ao len cap]] w' (RCom w' a)) :
  Calls prog 51 #[.pointer (some ⟨g,0,none⟩),.agg #[.int .i64 8,.int .i64 n,.string s,.slice ao len cap]] w (RCom w (a)):=by
 obtain⟨w1,w2,hw1,hw2,G1,HB,HZ,HX⟩:=ent w 8 n s (.slice ao len cap)
 obtain⟨-,e0,e1,e2,e3,-⟩:=HX.out
 have c:=(cN w2 HB.out:Calls prog 133 #[.pointer (some ⟨g,0,none⟩),.agg #[.int .i64 8,.int .i64 n,.string s,.slice ao len cap]] w2 fun e w'=>e=.returned (V3 a.k a.n ⟨a.s.toArray⟩)∧Below w2.heap.size w2 w')
 go_enter func51,ntmps51
 go_wp2_with fail
 refine c.mono ?_
 rintro e w3 ⟨rfl,b3⟩
 have T3:=hid b3
 clear c b3 e0 e1 e2 e3
 obtain⟨z0,z1,z2,f0,f1,f2,B9⟩:=fin_at HB T3 G1 HZ a.k a.n ⟨a.s.toArray⟩
 go_wp2_with fail
 exact bodyPost_ret (v:=V3 a.k a.n ⟨a.s.toArray⟩) (by simp[results,results51,go_sem, *]) rfl ⟨rfl,B9.out⟩
theorem rof_9 (g:Nat) (n:Int) (s:ByteArray) (ao:Option Addr) (len cap:Nat) (w:World) (a:Va) (cN:∀ w',Below w.heap.size w w'→Calls prog 133 #[.pointer (some ⟨g,0,none⟩),.agg #[.int .i64 9,.int .i64 n,.string s,.slice ao len cap]] w' (RCom w' a)) :
  Calls prog 51 #[.pointer (some ⟨g,0,none⟩),.agg #[.int .i64 9,.int .i64 n,.string s,.slice ao len cap]] w (RCom w (a)):=by
 obtain⟨w1,w2,hw1,hw2,G1,HB,HZ,HX⟩:=ent w 9 n s (.slice ao len cap)
 obtain⟨-,e0,e1,e2,e3,-⟩:=HX.out
 have c:=(cN w2 HB.out:Calls prog 133 #[.pointer (some ⟨g,0,none⟩),.agg #[.int .i64 9,.int .i64 n,.string s,.slice ao len cap]] w2 fun e w'=>e=.returned (V3 a.k a.n ⟨a.s.toArray⟩)∧Below w2.heap.size w2 w')
 go_enter func51,ntmps51
 go_wp2_with fail
 refine c.mono ?_
 rintro e w3 ⟨rfl,b3⟩
 have T3:=hid b3
 clear c b3 e0 e1 e2 e3
 obtain⟨z0,z1,z2,f0,f1,f2,B9⟩:=fin_at HB T3 G1 HZ a.k a.n ⟨a.s.toArray⟩
 go_wp2_with fail
 exact bodyPost_ret (v:=V3 a.k a.n ⟨a.s.toArray⟩) (by simp[results,results51,go_sem, *]) rfl ⟨rfl,B9.out⟩
theorem rof_10 (g:Nat) (n:Int) (s:ByteArray) (ao:Option Addr) (len cap:Nat) (w:World) (a:Va) (cN:∀ w',Below w.heap.size w w'→Calls prog 133 #[.pointer (some ⟨g,0,none⟩),.agg #[.int .i64 10,.int .i64 n,.string s,.slice ao len cap]] w' (RCom w' a)) :
  Calls prog 51 #[.pointer (some ⟨g,0,none⟩),.agg #[.int .i64 10,.int .i64 n,.string s,.slice ao len cap]] w (RCom w (a)):=by
 obtain⟨w1,w2,hw1,hw2,G1,HB,HZ,HX⟩:=ent w 10 n s (.slice ao len cap)
 obtain⟨-,e0,e1,e2,e3,-⟩:=HX.out
 have c:=(cN w2 HB.out:Calls prog 133 #[.pointer (some ⟨g,0,none⟩),.agg #[.int .i64 10,.int .i64 n,.string s,.slice ao len cap]] w2 fun e w'=>e=.returned (V3 a.k a.n ⟨a.s.toArray⟩)∧Below w2.heap.size w2 w')
 go_enter func51,ntmps51
 go_wp2_with fail
 refine c.mono ?_
 rintro e w3 ⟨rfl,b3⟩
 have T3:=hid b3
 clear c b3 e0 e1 e2 e3
 obtain⟨z0,z1,z2,f0,f1,f2,B9⟩:=fin_at HB T3 G1 HZ a.k a.n ⟨a.s.toArray⟩
 go_wp2_with fail
 exact bodyPost_ret (v:=V3 a.k a.n ⟨a.s.toArray⟩) (by simp[results,results51,go_sem, *]) rfl ⟨rfl,B9.out⟩
theorem rof_11 (g:Nat) (n:Int) (s:ByteArray) (ao:Option Addr) (len cap:Nat) (w:World) (a:Va) (cN:∀ w',Below w.heap.size w w'→Calls prog 133 #[.pointer (some ⟨g,0,none⟩),.agg #[.int .i64 11,.int .i64 n,.string s,.slice ao len cap]] w' (RCom w' a)) :
  Calls prog 51 #[.pointer (some ⟨g,0,none⟩),.agg #[.int .i64 11,.int .i64 n,.string s,.slice ao len cap]] w (RCom w (a)):=by
 obtain⟨w1,w2,hw1,hw2,G1,HB,HZ,HX⟩:=ent w 11 n s (.slice ao len cap)
 obtain⟨-,e0,e1,e2,e3,-⟩:=HX.out
 have c:=(cN w2 HB.out:Calls prog 133 #[.pointer (some ⟨g,0,none⟩),.agg #[.int .i64 11,.int .i64 n,.string s,.slice ao len cap]] w2 fun e w'=>e=.returned (V3 a.k a.n ⟨a.s.toArray⟩)∧Below w2.heap.size w2 w')
 go_enter func51,ntmps51
 go_wp2_with fail
 refine c.mono ?_
 rintro e w3 ⟨rfl,b3⟩
 have T3:=hid b3
 clear c b3 e0 e1 e2 e3
 obtain⟨z0,z1,z2,f0,f1,f2,B9⟩:=fin_at HB T3 G1 HZ a.k a.n ⟨a.s.toArray⟩
 go_wp2_with fail
 exact bodyPost_ret (v:=V3 a.k a.n ⟨a.s.toArray⟩) (by simp[results,results51,go_sem, *]) rfl ⟨rfl,B9.out⟩
theorem rof_6 (g:Nat) (n:Int) (s:ByteArray) (ao:Option Addr) (len cap:Nat) (w:World) (a:Va) (cN:∀ w',Below w.heap.size w w'→Calls prog 130 #[.pointer (some ⟨g,0,none⟩),.agg #[.int .i64 6,.int .i64 n,.string s,.slice ao len cap]] w' (RCom w' a)) :
  Calls prog 51 #[.pointer (some ⟨g,0,none⟩),.agg #[.int .i64 6,.int .i64 n,.string s,.slice ao len cap]] w (RCom w (a)):=by
 obtain⟨w1,w2,hw1,hw2,G1,HB,HZ,HX⟩:=ent w 6 n s (.slice ao len cap)
 obtain⟨-,e0,e1,e2,e3,-⟩:=HX.out
 have c:=(cN w2 HB.out:Calls prog 130 #[.pointer (some ⟨g,0,none⟩),.agg #[.int .i64 6,.int .i64 n,.string s,.slice ao len cap]] w2 fun e w'=>e=.returned (V3 a.k a.n ⟨a.s.toArray⟩)∧Below w2.heap.size w2 w')
 go_enter func51,ntmps51
 go_wp2_with fail
 refine c.mono ?_
 rintro e w3 ⟨rfl,b3⟩
 have T3:=hid b3
 clear c b3 e0 e1 e2 e3
 obtain⟨z0,z1,z2,f0,f1,f2,B9⟩:=fin_at HB T3 G1 HZ a.k a.n ⟨a.s.toArray⟩
 go_wp2_with fail
 exact bodyPost_ret (v:=V3 a.k a.n ⟨a.s.toArray⟩) (by simp[results,results51,go_sem, *]) rfl ⟨rfl,B9.out⟩
theorem rof_16 (g:Nat) (n:Int) (s:ByteArray) (ao:Option Addr) (len cap:Nat) (w:World) (a:Va) (cN:∀ w',Below w.heap.size w w'→Calls prog 130 #[.pointer (some ⟨g,0,none⟩),.agg #[.int .i64 16,.int .i64 n,.string s,.slice ao len cap]] w' (RCom w' a)) :
  Calls prog 51 #[.pointer (some ⟨g,0,none⟩),.agg #[.int .i64 16,.int .i64 n,.string s,.slice ao len cap]] w (RCom w (a)):=by
 obtain⟨w1,w2,hw1,hw2,G1,HB,HZ,HX⟩:=ent w 16 n s (.slice ao len cap)
 obtain⟨-,e0,e1,e2,e3,-⟩:=HX.out
 have c:=(cN w2 HB.out:Calls prog 130 #[.pointer (some ⟨g,0,none⟩),.agg #[.int .i64 16,.int .i64 n,.string s,.slice ao len cap]] w2 fun e w'=>e=.returned (V3 a.k a.n ⟨a.s.toArray⟩)∧Below w2.heap.size w2 w')
 go_enter func51,ntmps51
 go_wp2_with fail
 refine c.mono ?_
 rintro e w3 ⟨rfl,b3⟩
 have T3:=hid b3
 clear c b3 e0 e1 e2 e3
 obtain⟨z0,z1,z2,f0,f1,f2,B9⟩:=fin_at HB T3 G1 HZ a.k a.n ⟨a.s.toArray⟩
 go_wp2_with fail
 exact bodyPost_ret (v:=V3 a.k a.n ⟨a.s.toArray⟩) (by simp[results,results51,go_sem, *]) rfl ⟨rfl,B9.out⟩
theorem rof_17 (g:Nat) (n:Int) (s:ByteArray) (ao:Option Addr) (len cap:Nat) (w:World) (a:Va) (cN:∀ w',Below w.heap.size w w'→Calls prog 130 #[.pointer (some ⟨g,0,none⟩),.agg #[.int .i64 17,.int .i64 n,.string s,.slice ao len cap]] w' (RCom w' a)) :
  Calls prog 51 #[.pointer (some ⟨g,0,none⟩),.agg #[.int .i64 17,.int .i64 n,.string s,.slice ao len cap]] w (RCom w (a)):=by
 obtain⟨w1,w2,hw1,hw2,G1,HB,HZ,HX⟩:=ent w 17 n s (.slice ao len cap)
 obtain⟨-,e0,e1,e2,e3,-⟩:=HX.out
 have c:=(cN w2 HB.out:Calls prog 130 #[.pointer (some ⟨g,0,none⟩),.agg #[.int .i64 17,.int .i64 n,.string s,.slice ao len cap]] w2 fun e w'=>e=.returned (V3 a.k a.n ⟨a.s.toArray⟩)∧Below w2.heap.size w2 w')
 go_enter func51,ntmps51
 go_wp2_with fail
 refine c.mono ?_
 rintro e w3 ⟨rfl,b3⟩
 have T3:=hid b3
 clear c b3 e0 e1 e2 e3
 obtain⟨z0,z1,z2,f0,f1,f2,B9⟩:=fin_at HB T3 G1 HZ a.k a.n ⟨a.s.toArray⟩
 go_wp2_with fail
 exact bodyPost_ret (v:=V3 a.k a.n ⟨a.s.toArray⟩) (by simp[results,results51,go_sem, *]) rfl ⟨rfl,B9.out⟩
theorem rof_18 (g:Nat) (n:Int) (s:ByteArray) (ao:Option Addr) (len cap:Nat) (w:World) (a:Va) (cN:∀ w',Below w.heap.size w w'→Calls prog 130 #[.pointer (some ⟨g,0,none⟩),.agg #[.int .i64 18,.int .i64 n,.string s,.slice ao len cap]] w' (RCom w' a)) :
  Calls prog 51 #[.pointer (some ⟨g,0,none⟩),.agg #[.int .i64 18,.int .i64 n,.string s,.slice ao len cap]] w (RCom w (a)):=by
 obtain⟨w1,w2,hw1,hw2,G1,HB,HZ,HX⟩:=ent w 18 n s (.slice ao len cap)
 obtain⟨-,e0,e1,e2,e3,-⟩:=HX.out
 have c:=(cN w2 HB.out:Calls prog 130 #[.pointer (some ⟨g,0,none⟩),.agg #[.int .i64 18,.int .i64 n,.string s,.slice ao len cap]] w2 fun e w'=>e=.returned (V3 a.k a.n ⟨a.s.toArray⟩)∧Below w2.heap.size w2 w')
 go_enter func51,ntmps51
 go_wp2_with fail
 refine c.mono ?_
 rintro e w3 ⟨rfl,b3⟩
 have T3:=hid b3
 clear c b3 e0 e1 e2 e3
 obtain⟨z0,z1,z2,f0,f1,f2,B9⟩:=fin_at HB T3 G1 HZ a.k a.n ⟨a.s.toArray⟩
 go_wp2_with fail
 exact bodyPost_ret (v:=V3 a.k a.n ⟨a.s.toArray⟩) (by simp[results,results51,go_sem, *]) rfl ⟨rfl,B9.out⟩
theorem rof_12 (g:Nat) (n:Int) (s:ByteArray) (ao:Option Addr) (len cap:Nat) (w:World) (a:Va) (cN:∀ w',Below w.heap.size w w'→Calls prog 131 #[.pointer (some ⟨g,0,none⟩),.agg #[.int .i64 12,.int .i64 n,.string s,.slice ao len cap]] w' (RCom w' a)) :
  Calls prog 51 #[.pointer (some ⟨g,0,none⟩),.agg #[.int .i64 12,.int .i64 n,.string s,.slice ao len cap]] w (RCom w (a)):=by
 obtain⟨w1,w2,hw1,hw2,G1,HB,HZ,HX⟩:=ent w 12 n s (.slice ao len cap)
 obtain⟨-,e0,e1,e2,e3,-⟩:=HX.out
 have c:=(cN w2 HB.out:Calls prog 131 #[.pointer (some ⟨g,0,none⟩),.agg #[.int .i64 12,.int .i64 n,.string s,.slice ao len cap]] w2 fun e w'=>e=.returned (V3 a.k a.n ⟨a.s.toArray⟩)∧Below w2.heap.size w2 w')
 go_enter func51,ntmps51
 go_wp2_with fail
 refine c.mono ?_
 rintro e w3 ⟨rfl,b3⟩
 have T3:=hid b3
 clear c b3 e0 e1 e2 e3
 obtain⟨z0,z1,z2,f0,f1,f2,B9⟩:=fin_at HB T3 G1 HZ a.k a.n ⟨a.s.toArray⟩
 go_wp2_with fail
 exact bodyPost_ret (v:=V3 a.k a.n ⟨a.s.toArray⟩) (by simp[results,results51,go_sem, *]) rfl ⟨rfl,B9.out⟩
theorem rof_13 (g:Nat) (n:Int) (s:ByteArray) (ao:Option Addr) (len cap:Nat) (w:World) (a:Va) (cN:∀ w',Below w.heap.size w w'→Calls prog 131 #[.pointer (some ⟨g,0,none⟩),.agg #[.int .i64 13,.int .i64 n,.string s,.slice ao len cap]] w' (RCom w' a)) :
  Calls prog 51 #[.pointer (some ⟨g,0,none⟩),.agg #[.int .i64 13,.int .i64 n,.string s,.slice ao len cap]] w (RCom w (a)):=by
 obtain⟨w1,w2,hw1,hw2,G1,HB,HZ,HX⟩:=ent w 13 n s (.slice ao len cap)
 obtain⟨-,e0,e1,e2,e3,-⟩:=HX.out
 have c:=(cN w2 HB.out:Calls prog 131 #[.pointer (some ⟨g,0,none⟩),.agg #[.int .i64 13,.int .i64 n,.string s,.slice ao len cap]] w2 fun e w'=>e=.returned (V3 a.k a.n ⟨a.s.toArray⟩)∧Below w2.heap.size w2 w')
 go_enter func51,ntmps51
 go_wp2_with fail
 refine c.mono ?_
 rintro e w3 ⟨rfl,b3⟩
 have T3:=hid b3
 clear c b3 e0 e1 e2 e3
 obtain⟨z0,z1,z2,f0,f1,f2,B9⟩:=fin_at HB T3 G1 HZ a.k a.n ⟨a.s.toArray⟩
 go_wp2_with fail
 exact bodyPost_ret (v:=V3 a.k a.n ⟨a.s.toArray⟩) (by simp[results,results51,go_sem, *]) rfl ⟨rfl,B9.out⟩
theorem rof_14 (g:Nat) (n:Int) (s:ByteArray) (ao:Option Addr) (len cap:Nat) (w:World) (a:Va) (cN:∀ w',Below w.heap.size w w'→Calls prog 131 #[.pointer (some ⟨g,0,none⟩),.agg #[.int .i64 14,.int .i64 n,.string s,.slice ao len cap]] w' (RCom w' a)) :
  Calls prog 51 #[.pointer (some ⟨g,0,none⟩),.agg #[.int .i64 14,.int .i64 n,.string s,.slice ao len cap]] w (RCom w (a)):=by
 obtain⟨w1,w2,hw1,hw2,G1,HB,HZ,HX⟩:=ent w 14 n s (.slice ao len cap)
 obtain⟨-,e0,e1,e2,e3,-⟩:=HX.out
 have c:=(cN w2 HB.out:Calls prog 131 #[.pointer (some ⟨g,0,none⟩),.agg #[.int .i64 14,.int .i64 n,.string s,.slice ao len cap]] w2 fun e w'=>e=.returned (V3 a.k a.n ⟨a.s.toArray⟩)∧Below w2.heap.size w2 w')
 go_enter func51,ntmps51
 go_wp2_with fail
 refine c.mono ?_
 rintro e w3 ⟨rfl,b3⟩
 have T3:=hid b3
 clear c b3 e0 e1 e2 e3
 obtain⟨z0,z1,z2,f0,f1,f2,B9⟩:=fin_at HB T3 G1 HZ a.k a.n ⟨a.s.toArray⟩
 go_wp2_with fail
 exact bodyPost_ret (v:=V3 a.k a.n ⟨a.s.toArray⟩) (by simp[results,results51,go_sem, *]) rfl ⟨rfl,B9.out⟩
theorem rof_15 (g:Nat) (n:Int) (s:ByteArray) (ao:Option Addr) (len cap:Nat) (w:World) (a:Va) (cN:∀ w',Below w.heap.size w w'→Calls prog 131 #[.pointer (some ⟨g,0,none⟩),.agg #[.int .i64 15,.int .i64 n,.string s,.slice ao len cap]] w' (RCom w' a)) :
  Calls prog 51 #[.pointer (some ⟨g,0,none⟩),.agg #[.int .i64 15,.int .i64 n,.string s,.slice ao len cap]] w (RCom w (a)):=by
 obtain⟨w1,w2,hw1,hw2,G1,HB,HZ,HX⟩:=ent w 15 n s (.slice ao len cap)
 obtain⟨-,e0,e1,e2,e3,-⟩:=HX.out
 have c:=(cN w2 HB.out:Calls prog 131 #[.pointer (some ⟨g,0,none⟩),.agg #[.int .i64 15,.int .i64 n,.string s,.slice ao len cap]] w2 fun e w'=>e=.returned (V3 a.k a.n ⟨a.s.toArray⟩)∧Below w2.heap.size w2 w')
 go_enter func51,ntmps51
 go_wp2_with fail
 refine c.mono ?_
 rintro e w3 ⟨rfl,b3⟩
 have T3:=hid b3
 clear c b3 e0 e1 e2 e3
 obtain⟨z0,z1,z2,f0,f1,f2,B9⟩:=fin_at HB T3 G1 HZ a.k a.n ⟨a.s.toArray⟩
 go_wp2_with fail
 exact bodyPost_ret (v:=V3 a.k a.n ⟨a.s.toArray⟩) (by simp[results,results51,go_sem, *]) rfl ⟨rfl,B9.out⟩
theorem rof_19 (g:Nat) (n:Int) (s:ByteArray) (ao:Option Addr) (len cap:Nat) (w:World) (a:Va) (cN:∀ w',Below w.heap.size w w'→Calls prog 132 #[.pointer (some ⟨g,0,none⟩),.agg #[.int .i64 19,.int .i64 n,.string s,.slice ao len cap]] w' (RCom w' a)) :
  Calls prog 51 #[.pointer (some ⟨g,0,none⟩),.agg #[.int .i64 19,.int .i64 n,.string s,.slice ao len cap]] w (RCom w (a)):=by
 obtain⟨w1,w2,hw1,hw2,G1,HB,HZ,HX⟩:=ent w 19 n s (.slice ao len cap)
 obtain⟨-,e0,e1,e2,e3,-⟩:=HX.out
 have c:=(cN w2 HB.out:Calls prog 132 #[.pointer (some ⟨g,0,none⟩),.agg #[.int .i64 19,.int .i64 n,.string s,.slice ao len cap]] w2 fun e w'=>e=.returned (V3 a.k a.n ⟨a.s.toArray⟩)∧Below w2.heap.size w2 w')
 go_enter func51,ntmps51
 go_wp2_with fail
 refine c.mono ?_
 rintro e w3 ⟨rfl,b3⟩
 have T3:=hid b3
 clear c b3 e0 e1 e2 e3
 obtain⟨z0,z1,z2,f0,f1,f2,B9⟩:=fin_at HB T3 G1 HZ a.k a.n ⟨a.s.toArray⟩
 go_wp2_with fail
 exact bodyPost_ret (v:=V3 a.k a.n ⟨a.s.toArray⟩) (by simp[results,results51,go_sem, *]) rfl ⟨rfl,B9.out⟩
theorem rof_20 (g:Nat) (n:Int) (s:ByteArray) (ao:Option Addr) (len cap:Nat) (w:World) (a:Va) (cN:∀ w',Below w.heap.size w w'→Calls prog 132 #[.pointer (some ⟨g,0,none⟩),.agg #[.int .i64 20,.int .i64 n,.string s,.slice ao len cap]] w' (RCom w' a)) :
  Calls prog 51 #[.pointer (some ⟨g,0,none⟩),.agg #[.int .i64 20,.int .i64 n,.string s,.slice ao len cap]] w (RCom w (a)):=by
 obtain⟨w1,w2,hw1,hw2,G1,HB,HZ,HX⟩:=ent w 20 n s (.slice ao len cap)
 obtain⟨-,e0,e1,e2,e3,-⟩:=HX.out
 have c:=(cN w2 HB.out:Calls prog 132 #[.pointer (some ⟨g,0,none⟩),.agg #[.int .i64 20,.int .i64 n,.string s,.slice ao len cap]] w2 fun e w'=>e=.returned (V3 a.k a.n ⟨a.s.toArray⟩)∧Below w2.heap.size w2 w')
 go_enter func51,ntmps51
 go_wp2_with fail
 refine c.mono ?_
 rintro e w3 ⟨rfl,b3⟩
 have T3:=hid b3
 clear c b3 e0 e1 e2 e3
 obtain⟨z0,z1,z2,f0,f1,f2,B9⟩:=fin_at HB T3 G1 HZ a.k a.n ⟨a.s.toArray⟩
 go_wp2_with fail
 exact bodyPost_ret (v:=V3 a.k a.n ⟨a.s.toArray⟩) (by simp[results,results51,go_sem, *]) rfl ⟨rfl,B9.out⟩
theorem rof_21 (g:Nat) (n:Int) (s:ByteArray) (ao:Option Addr) (len cap:Nat) (w:World) (a:Va) (cN:∀ w',Below w.heap.size w w'→Calls prog 132 #[.pointer (some ⟨g,0,none⟩),.agg #[.int .i64 21,.int .i64 n,.string s,.slice ao len cap]] w' (RCom w' a)) :
  Calls prog 51 #[.pointer (some ⟨g,0,none⟩),.agg #[.int .i64 21,.int .i64 n,.string s,.slice ao len cap]] w (RCom w (a)):=by
 obtain⟨w1,w2,hw1,hw2,G1,HB,HZ,HX⟩:=ent w 21 n s (.slice ao len cap)
 obtain⟨-,e0,e1,e2,e3,-⟩:=HX.out
 have c:=(cN w2 HB.out:Calls prog 132 #[.pointer (some ⟨g,0,none⟩),.agg #[.int .i64 21,.int .i64 n,.string s,.slice ao len cap]] w2 fun e w'=>e=.returned (V3 a.k a.n ⟨a.s.toArray⟩)∧Below w2.heap.size w2 w')
 go_enter func51,ntmps51
 go_wp2_with fail
 refine c.mono ?_
 rintro e w3 ⟨rfl,b3⟩
 have T3:=hid b3
 clear c b3 e0 e1 e2 e3
 obtain⟨z0,z1,z2,f0,f1,f2,B9⟩:=fin_at HB T3 G1 HZ a.k a.n ⟨a.s.toArray⟩
 go_wp2_with fail
 exact bodyPost_ret (v:=V3 a.k a.n ⟨a.s.toArray⟩) (by simp[results,results51,go_sem, *]) rfl ⟨rfl,B9.out⟩
theorem rof_23 (g:Nat) (n:Int) (s:ByteArray) (ao:Option Addr) (len cap:Nat) (w:World) (a:Va) (cN:∀ w',Below w.heap.size w w'→Calls prog 132 #[.pointer (some ⟨g,0,none⟩),.agg #[.int .i64 23,.int .i64 n,.string s,.slice ao len cap]] w' (RCom w' a)) :
  Calls prog 51 #[.pointer (some ⟨g,0,none⟩),.agg #[.int .i64 23,.int .i64 n,.string s,.slice ao len cap]] w (RCom w (a)):=by
 obtain⟨w1,w2,hw1,hw2,G1,HB,HZ,HX⟩:=ent w 23 n s (.slice ao len cap)
 obtain⟨-,e0,e1,e2,e3,-⟩:=HX.out
 have c:=(cN w2 HB.out:Calls prog 132 #[.pointer (some ⟨g,0,none⟩),.agg #[.int .i64 23,.int .i64 n,.string s,.slice ao len cap]] w2 fun e w'=>e=.returned (V3 a.k a.n ⟨a.s.toArray⟩)∧Below w2.heap.size w2 w')
 go_enter func51,ntmps51
 go_wp2_with fail
 refine c.mono ?_
 rintro e w3 ⟨rfl,b3⟩
 have T3:=hid b3
 clear c b3 e0 e1 e2 e3
 obtain⟨z0,z1,z2,f0,f1,f2,B9⟩:=fin_at HB T3 G1 HZ a.k a.n ⟨a.s.toArray⟩
 go_wp2_with fail
 exact bodyPost_ret (v:=V3 a.k a.n ⟨a.s.toArray⟩) (by simp[results,results51,go_sem, *]) rfl ⟨rfl,B9.out⟩
end
section
open _root_.Go.Proofs.Tryz
open Go.RowKit
theorem rhold_any (g gk o cap:Nat) (op n:Int) (s:ByteArray) (a b:Va) (w:World) (ho:12≤op∧op≤15) (ha:a.ok) (xa:RKid g w gk o a) (hb:b.ok) (xb:RKid g w gk (o+4) b) :
  Calls prog 131 #[.pointer (some ⟨g,0,none⟩),.agg #[.int .i64 op,.int .i64 n,.string s,.slice (some ⟨gk,o,none⟩) 2 cap]] w (RCom w (cmpV op a b)):=by
 have h4:op=12∨op=13∨op=14∨op=15:=by omega
 cases hk:okW 0 a with
 | false=>exact rhold_0 g gk o cap n s a b w ha xa hb xb op h4 hk
 | true =>
  have h40:=okW_any.1 hk
  rcases kind_few ha with k | k | k | k | k
  ·exact absurd k h40.2
  ·by_cases hl:b.k=1
   case neg=>exact rhold_B1 g gk o cap n s a b w ha xa hb xb op h4 k hl
   by_cases hz:a.n=b.n
   ·exact rhold_1eq g gk o cap n s a b w ha xa hb xb op h4 k hl hz
   by_cases hy:a.n<b.n
   ·exact rhold_1lt g gk o cap n s a b w ha xa hb xb op h4 k hl hy
   ·exact rhold_1gt g gk o cap n s a b w ha xa hb xb op h4 k hl hy hz
  ·by_cases h14:op=14∨op=15
   ·exact rhold_T g gk o cap n s a b w ha xa hb xb op h14 k
   have h2:op=12∨op=13:=by omega
   by_cases hl:b.k=2
   case neg=>exact rhold_B2 g gk o cap n s a b w ha xa hb xb op h2 k hl
   by_cases hz:a.n=b.n
   ·exact rhold_2eq g gk o cap n s a b w ha xa hb xb op h2 k hl hz
   ·exact rhold_2ne g gk o cap n s a b w ha xa hb xb op h2 k hl hz
  ·by_cases hl:b.k=3
   case neg=>exact rhold_B3 g gk o cap n s a b w ha xa hb xb op h4 k hl
   by_cases hz:a.s=b.s
   ·exact rhold_3eq g gk o cap n s a b w ha xa hb xb op h4 k hl hz
   by_cases hy:a.s<b.s
   ·exact rhold_3lt g gk o cap n s a b w ha xa hb xb op h4 k hl hy
   ·exact rhold_3gt g gk o cap n s a b w ha xa hb xb op h4 k hl hy hz
  ·exact absurd k h40.1
end
section
open _root_.Go.Lib (hid)
open _root_.Go.Proofs.Tryz
set_option maxHeartbeats 1000000
set_option maxRecDepth 100000
open Go.RowKit
structure VX (g:Nat) (w:World) (N:List ByteArray) (V:List Va) (A B:Option Addr) (cA cB:Nat):Prop where
 c0:w.cell? ⟨g,0,none⟩=some (.slice A N.length cA)
 c1:w.cell? ⟨g,1,none⟩=some (.slice B V.length cB)
 kn:Knows w N V A B
theorem VX.later {g:Nat} {w w':World} {N:List ByteArray} {V:List Va} {A B:Option Addr} {cA cB:Nat} (h:VX g w N V A B cA cB) (hb:Below w.heap.size w w'):VX g w' N V A B cA cB:=by
 have hg:=World.block_lt_of_cell? w _ h.c0
 exact⟨(hb.cell (p:=⟨g,0,none⟩) hg).trans h.c0,(hb.cell (p:=⟨g,1,none⟩) hg).trans h.c1,h.kn.later hb⟩
theorem fold_few {s:List UInt8} (h:s.length≤400):(foldL s).length≤100000:=by
 have h1:=len_cnt (foldL s)
 have h2:=count_few s
 rw[count_fold] at h1
 omega
theorem rof_one (g gk o cap:Nat) (op n:Int) (s:ByteArray) (a:Va) (w:World) (ho:op=5∨op=6∨op=19∨op=23) (ha:a.ok) (xa:RKid g w gk o a) :
  Calls prog 51 #[.pointer (some ⟨g,0,none⟩),.agg #[.int .i64 op,.int .i64 n,.string s,.slice (some ⟨gk,o,none⟩) 1 cap]] w (RCom w (opV op [a])):=by
 rcases ho with rfl | rfl | rfl | rfl
 ·rw[show opV 5 [a]=wantV 1 a (numV (0 - a.n)) by unfold opV;simp]
  exact rof_5 g n s _ 1 cap w _ (fun w' hw=>rcount_one g gk o cap n s a w' ha (xa.later hw))
 ·rw[show opV 6 [a]=wantV 2 a (truV (decide (a.n≠1))) by unfold opV;simp]
  refine rof_6 g n s _ 1 cap w _ (fun w' hw=>?_)
  by_cases hk:a.k=2
  ·exact rlogic_not1 g gk o cap n s a w' ha (xa.later hw) hk
  ·exact rlogic_not0 g gk o cap n s a w' ha (xa.later hw) hk
 ·rw[show opV 19 [a]=wantV 3 a ⟨1,(countL a.s:Int),[]⟩ by unfold opV;simp]
  refine rof_19 g n s _ 1 cap w _ (fun w' hw=>?_)
  by_cases hk:a.k=3
  ·exact rtexts_len1 g gk o cap n s a w' ha (xa.later hw) hk
  ·exact rtexts_len0 g gk o cap n s a w' ha (xa.later hw) hk
 ·rw[show opV 23 [a]=wantV 3 a (texV (foldL a.s)) by unfold opV;simp]
  refine rof_23 g n s _ 1 cap w _ (fun w' hw=>?_)
  by_cases hk:a.k=3
  ·exact rtexts_up1 g gk o cap n s a w' ha (xa.later hw) hk (fold_few (ha.len hk))
  ·exact rtexts_up0 g gk o cap n s a w' ha (xa.later hw) hk
theorem rof_two (g gk o cap:Nat) (op n:Int) (s:ByteArray) (a b:Va) (w:World) (ho:(7≤op∧op≤17)∨op=20∨op=21) (ha:a.ok) (xa:RKid g w gk o a) (hb:b.ok) (xb:RKid g w gk (o+4) b) :
  Calls prog 51 #[.pointer (some ⟨g,0,none⟩),.agg #[.int .i64 op,.int .i64 n,.string s,.slice (some ⟨gk,o,none⟩) 2 cap]] w (RCom w (opV op [a,b])):=by
 rcases (show op=7∨op=8∨op=9∨op=10∨op=11∨op=16∨op=17∨op=12∨op=13∨op=14∨op=15∨op=20∨op=21 by omega) with rfl | rfl | rfl | rfl | rfl | rfl | rfl | rfl | rfl | rfl | rfl | rfl | rfl
 ·rw[show opV 7 [a,b]=wantV 1 a (wantV 1 b (numOp 7 a.n b.n)) by unfold opV;simp]
  exact rof_7 g n s _ 2 cap w _ (fun w' hw=>rcount_any g gk o cap 7 n s a b w' (by decide) ha (xa.later hw) hb (xb.later hw))
 ·rw[show opV 8 [a,b]=wantV 1 a (wantV 1 b (numOp 8 a.n b.n)) by unfold opV;simp]
  exact rof_8 g n s _ 2 cap w _ (fun w' hw=>rcount_any g gk o cap 8 n s a b w' (by decide) ha (xa.later hw) hb (xb.later hw))
 ·rw[show opV 9 [a,b]=wantV 1 a (wantV 1 b (numOp 9 a.n b.n)) by unfold opV;simp]
  exact rof_9 g n s _ 2 cap w _ (fun w' hw=>rcount_any g gk o cap 9 n s a b w' (by decide) ha (xa.later hw) hb (xb.later hw))
 ·rw[show opV 10 [a,b]=wantV 1 a (wantV 1 b (numOp 10 a.n b.n)) by unfold opV;simp]
  exact rof_10 g n s _ 2 cap w _ (fun w' hw=>rcount_any g gk o cap 10 n s a b w' (by decide) ha (xa.later hw) hb (xb.later hw))
 ·rw[show opV 11 [a,b]=wantV 1 a (wantV 1 b (numOp 11 a.n b.n)) by unfold opV;simp]
  exact rof_11 g n s _ 2 cap w _ (fun w' hw=>rcount_any g gk o cap 11 n s a b w' (by decide) ha (xa.later hw) hb (xb.later hw))
 ·rw[show opV 16 [a,b]=wantV 2 a (if a.n=1 then wantV 2 b b else a) by unfold opV;simp]
  refine rof_16 g n s _ 2 cap w _ (fun w' hw=>?_)
  by_cases hk:a.k=2
  case neg=>exact rlogic_and0 g gk o cap n s a b w' ha (xa.later hw) hb (xb.later hw) hk
  by_cases hn:a.n=1
  ·by_cases hl:b.k=2
   ·exact rlogic_andB1 g gk o cap n s a b w' ha (xa.later hw) hb (xb.later hw) hk hn hl
   ·exact rlogic_andB2 g gk o cap n s a b w' ha (xa.later hw) hb (xb.later hw) hk hn hl
  ·exact rlogic_andA g gk o cap n s a b w' ha (xa.later hw) hb (xb.later hw) hk hn
 ·rw[show opV 17 [a,b]=wantV 2 a (if a.n=1 then a else wantV 2 b b) by unfold opV;simp]
  refine rof_17 g n s _ 2 cap w _ (fun w' hw=>?_)
  by_cases hk:a.k=2
  case neg=>exact rlogic_or0 g gk o cap n s a b w' ha (xa.later hw) hb (xb.later hw) hk
  by_cases hn:a.n=1
  ·exact rlogic_orA g gk o cap n s a b w' ha (xa.later hw) hb (xb.later hw) hk hn
  ·by_cases hl:b.k=2
   ·exact rlogic_orB1 g gk o cap n s a b w' ha (xa.later hw) hb (xb.later hw) hk hn hl
   ·exact rlogic_orB2 g gk o cap n s a b w' ha (xa.later hw) hb (xb.later hw) hk hn hl
 ·rw[show opV 12 [a,b]=cmpV 12 a b by unfold opV;simp]
  exact rof_12 g n s _ 2 cap w _ (fun w' hw=>rhold_any g gk o cap 12 n s a b w' (by decide) ha (xa.later hw) hb (xb.later hw))
 ·rw[show opV 13 [a,b]=cmpV 13 a b by unfold opV;simp]
  exact rof_13 g n s _ 2 cap w _ (fun w' hw=>rhold_any g gk o cap 13 n s a b w' (by decide) ha (xa.later hw) hb (xb.later hw))
 ·rw[show opV 14 [a,b]=cmpV 14 a b by unfold opV;simp]
  exact rof_14 g n s _ 2 cap w _ (fun w' hw=>rhold_any g gk o cap 14 n s a b w' (by decide) ha (xa.later hw) hb (xb.later hw))
 ·rw[show opV 15 [a,b]=cmpV 15 a b by unfold opV;simp]
  exact rof_15 g n s _ 2 cap w _ (fun w' hw=>rhold_any g gk o cap 15 n s a b w' (by decide) ha (xa.later hw) hb (xb.later hw))
 ·rw[show opV 20 [a,b]=wantV 3 a (wantV 3 b (texV (a.s++b.s))) by unfold opV;simp]
  refine rof_20 g n s _ 2 cap w _ (fun w' hw=>?_)
  by_cases hk:a.k=3
  case neg=>exact rtexts_cat0 g gk o cap n s a b w' ha (xa.later hw) hb (xb.later hw) hk
  by_cases hl:b.k=3
  ·exact rtexts_cat1 g gk o cap n s a b w' ha (xa.later hw) hb (xb.later hw) hk hl
  ·exact rtexts_catB g gk o cap n s a b w' ha (xa.later hw) hb (xb.later hw) hk hl
 ·rw[show opV 21 [a,b]=wantV 3 a (wantV 1 b ⟨3,0,cutL a.s b.n.toNat⟩) by unfold opV;simp]
  refine rof_21 g n s _ 2 cap w _ (fun w' hw=>?_)
  by_cases hk:a.k=3
  case neg=>exact rtexts_cut0 g gk o cap n s a b w' ha (xa.later hw) hb (xb.later hw) hk
  by_cases hl:b.k=1
  case neg=>exact rtexts_cutB g gk o cap n s a b w' ha (xa.later hw) hb (xb.later hw) hk hl
  by_cases hn:100<b.n
  ·exact rtexts_cut1 g gk o cap n s a b w' ha (xa.later hw) hb (xb.later hw) hk hl hn
  ·exact rtexts_cut2 g gk o cap n s a b w' ha (xa.later hw) hb (xb.later hw) hk hl hn
theorem rof_any (N:List ByteArray) (V:List Va) (A B:Option Addr) (cA cB g:Nat) :
  ∀ (f:Nat) (e:Ex),deepE e≤f→allB e=true→fitE e→∀ (w:World) (S:Nat→Prop) (v:Value),ExIn w S e v→VX g w N V A B cA cB →
   Calls prog 51 #[.pointer (some ⟨g,0,none⟩),v] w (RCom w (evalE N V e)):=by
 intro f
 induction f with
 | zero=>intro e hd;obtain⟨op,n,s,ks⟩:=e;rw[deepE] at hd;omega
 | succ f ih =>
  intro e hd ha hf w S v hv hK
  obtain⟨op,n,s,ks⟩:=e
  rw[deepE] at hd
  rw[allB] at ha
  rw[fitE] at hf
  simp only[Bool.and_eq_true] at ha
  obtain⟨hp,hkb⟩:=ha
  have hok:=ok_evalL N V hK.kn.num ks hkb hf.2
  obtain⟨ao,cap,rfl,hcap,hll,hr,hk⟩:=hv.get
  unfold partB at hp
  unfold Ex.op Ex.num Ex.str Ex.kids at *
  dsimp only at *
  simp only[Bool.and_eq_true,decide_eq_true_eq] at hp
  obtain⟨⟨hA,hpl⟩,hh⟩:=hp
  have hA:=arity_five hA
  have hkid:∀ (gk o i:Nat) (k:Ex),RowIn w S gk o ks→ks[i]?=some k→RKid g w gk (o+i * 4) (evalE N V k)∧w.cell? ⟨gk,o+i * 4+2,none⟩=some (.string ⟨k.str.toArray⟩):=by
   intro gk o i k hR hi
   obtain⟨v0,v1,v2,v3,c0,c1,c2,c3,he⟩:=hR.at hi
   have hm:=List.mem_of_getElem? hi
   obtain⟨ao1,cap1,hv1,-⟩:=he.get
   simp only[Value.agg.injEq,Array.mk.injEq,List.cons.injEq,and_true] at hv1
   obtain⟨rfl,rfl,rfl,rfl⟩:=hv1
   exact⟨⟨_,_,_,_,c0,c1,c2,c3,fun w' hw=>ih k (by have:=deepL_mem k hm;omega) (allBL_mem hkb k hm) (fitL_mem hf.2 k hm) w' S _ (he.later hw) (hK.later hw)⟩,c2⟩
  have cN:∀ (t:ByteArray) (w':World),Below w.heap.size w w'→Calls prog 129 #[.pointer (some ⟨g,0,none⟩),.string t] w' (RCom w' (nameV N V t)):=fun t w' hw =>
   rvname_any N V A B cA cB g t w' (hK.later hw).kn (hK.later hw).c0 (hK.later hw).c1
  rcases hA with ⟨h1,h4,h0⟩ | ⟨ho,h1⟩ | ⟨rfl,h1⟩ | ⟨ho,h2⟩ | ⟨rfl,h3⟩
  ·rcases (show op=1∨op=2∨op=3∨op=4 by omega) with rfl | rfl | rfl | rfl
   ·rw[show evalE N V (.mk 1 n s ks)=⟨1,n,[]⟩ by rw[evalE,if_pos rfl]]
    exact rof_num g n _ _ _ _ w
   ·rw[show evalE N V (.mk 2 n s ks)=⟨3,0,s⟩ by rw[evalE,if_neg (by decide),if_pos rfl]]
    exact rof_text g n _ _ _ _ w
   ·rw[show evalE N V (.mk 3 n s ks)=⟨2,n,[]⟩ by rw[evalE,if_neg (by decide),if_neg (by decide),if_pos rfl]]
    unfold plainB at hpl
    rw[if_neg (by decide),if_neg (by decide),if_pos rfl] at hpl
    simp only[Bool.and_eq_true,decide_eq_true_eq] at hpl
    exact rof_bool g n _ _ _ _ w hpl.1
   ·rw[show evalE N V (.mk 4 n s ks)=nameV N V ⟨s.toArray⟩ by rw[evalE,if_neg (by decide),if_neg (by decide),if_neg (by decide),if_pos rfl]]
    exact rof_name g n _ _ _ _ w _ (fun w' hw=>cN _ w' hw)
  ·obtain⟨a,rfl⟩:=List.length_eq_one_iff.1 h1
   obtain⟨gk,o,rfl,-,-,hR⟩:=hk (by simp)
   have x:=(hkid gk o 0 a hR rfl).1
   rw[evalE_op (by omega) (by omega)]
   exact rof_one g gk o cap op n _ _ w ho (hok _ (by simp[evalL])) x
  ·obtain⟨a,rfl⟩:=List.length_eq_one_iff.1 h1
   obtain⟨gk,o,rfl,-,-,hR⟩:=hk (by simp)
   have x:=(hkid gk o 0 a hR rfl).2
   rw[show evalE N V (.mk 22 n s [a])=truV (hasV (nameV N V ⟨a.str.toArray⟩)) by rw[evalE,if_neg (by decide),if_neg (by decide),if_neg (by decide),if_neg (by decide),if_pos rfl];rfl]
   exact rof_has g gk o cap n _ _ w _ x (fun w' hw=>cN _ w' hw)
  ·obtain⟨a,b,rfl⟩:=two_list h2
   obtain⟨gk,o,rfl,-,-,hR⟩:=hk (by simp)
   have x:=(hkid gk o 0 a hR rfl).1
   have y:=(hkid gk o 1 b hR rfl).1
   rw[evalE_op (by omega) (by omega)]
   exact rof_two g gk o cap op n _ _ _ w ho (hok _ (by simp[evalL])) x (hok _ (by simp[evalL])) y
  ·obtain⟨a,b,t,rfl⟩:=three_list h3
   obtain⟨gk,o,rfl,-,-,hR⟩:=hk (by simp)
   have x:=(hkid gk o 0 a hR rfl).1
   have y:=(hkid gk o 1 b hR rfl).1
   have z:=(hkid gk o 2 t hR rfl).1
   rw[evalE_op (by omega) (by omega)]
   rw[show opV 18 (evalL N V [a,b,t])=wantV 2 (evalE N V a) (if (evalE N V a).n=1 then evalE N V b else evalE N V t) by unfold opV;simp[evalL]]
   refine rof_18 g n _ _ 3 cap w _ (fun w' hw=>?_)
   have oa:=hok (evalE N V a) (by simp[evalL])
   have ob:=hok (evalE N V b) (by simp[evalL])
   have ot:=hok (evalE N V t) (by simp[evalL])
   by_cases hq:(evalE N V a).k=2
   case neg=>exact rlogic_if0 g gk o cap n _ _ _ _ w' oa (x.later hw) ob (y.later hw) ot (z.later hw) hq
   by_cases hn:(evalE N V a).n=1
   ·exact rlogic_if1 g gk o cap n _ _ _ _ w' oa (x.later hw) ob (y.later hw) ot (z.later hw) hq hn
   ·exact rlogic_if2 g gk o cap n _ _ _ _ w' oa (x.later hw) ob (y.later hw) ot (z.later hw) hq hn
theorem reval_any (N:List ByteArray) (V:List Va) (A B:Option Addr) (cA cB:Nat) (e:Ex) (v:Value) (S:Nat→Prop) (w:World) (hc:chkB e=true) (hv:ExIn w S e v) (hK:Knows w N V A B) :
  Calls prog 24 #[v,.slice A N.length cA,.slice B V.length cB] w (RCom w (evalE N V e)):=by
 have hf:=ExIn.fit e v hv
 obtain⟨ao,cap,rfl,-⟩:=hv.get
 have hX:=four_new w (.int .i64 e.op) (.int .i64 e.num) (.string ⟨e.str.toArray⟩) (.slice ao e.kids.length cap) 24
 have hb1:=below_alloc w (.cells #[.int .i64 e.op,.int .i64 e.num,.string ⟨e.str.toArray⟩,.slice ao e.kids.length cap] 24)
 obtain⟨w1,hw1⟩:∃ w1,w.alloc (.cells #[.int .i64 e.op,.int .i64 e.num,.string ⟨e.str.toArray⟩,.slice ao e.kids.length cap] 24)=w1:=⟨_,rfl⟩
 rw[hw1] at hX hb1
 have z:=ZB.new w1
 have hb2:=below_alloc w1 (.cells #[.int .i64 0,.int .i64 0,.string ⟨#[]⟩] 39)
 obtain⟨w2,hw2⟩:∃ w2,w1.alloc (.cells #[.int .i64 0,.int .i64 0,.string ⟨#[]⟩] 39)=w2:=⟨_,rfl⟩
 rw[hw2] at z hb2
 have hb3:=below_alloc w2 (.cells #[.slice A N.length cA,.slice B V.length cB] 91)
 have k0:(w2.alloc (.cells #[.slice A N.length cA,.slice B V.length cB] 91)).cell? ⟨w2.heap.size,0,none⟩=some (.slice A N.length cA):=by rw[cells_of_alloc];rfl
 have k1:(w2.alloc (.cells #[.slice A N.length cA,.slice B V.length cB] 91)).cell? ⟨w2.heap.size,1,none⟩=some (.slice B V.length cB):=by rw[cells_of_alloc];rfl
 obtain⟨w3,hw3⟩:∃ w3,w2.alloc (.cells #[.slice A N.length cA,.slice B V.length cB] 91)=w3:=⟨_,rfl⟩
 rw[hw3] at hb3 k0 k1
 have hB:=below_to (below_to hb1 hb2) hb3
 have c:=rof_any N V A B cA cB w2.heap.size (deepE e) e (Nat.le_refl _) (deep_fits hc) hf w3 S _ (hv.later hB) ⟨k0,k1,hK.later hB⟩
 have G1:=hid (show w.heap.size≤w1.heap.size from hb1.size)
 have HB:=hid hB
 have HZ:=hid (z.later hb3)
 obtain⟨-,e0,e1,e2,e3,-⟩:=hX.later (below_to hb2 hb3)
 obtain⟨R,hR⟩:∃ R,evalE N V e=R:=⟨_,rfl⟩
 rw[hR] at c ⊢
 have c:Calls prog 51 #[.pointer (some ⟨w2.heap.size,0,none⟩),EV e.op e.num ⟨e.str.toArray⟩ (.slice ao e.kids.length cap)] w3 fun e w'=>e=.returned (V3 R.k R.n ⟨R.s.toArray⟩)∧Below w3.heap.size w3 w':=c
 clear hX hb1 hb2 hb3 z hR hf hB hv hK k0 k1
 go_enter func24,ntmps24
 go_wp2_with fail
 refine c.mono ?_
 rintro e w4 ⟨rfl,b4⟩
 obtain⟨zl,zn,z0,z1,z2⟩:=HZ.out.later b4
 have B9:=hid (put3_at (g:=w1.heap.size) R (below_to HB.out b4) G1.out)
 have f0:=(zn.weak 0).2
 have f1:=(zn.weak 1).2
 have f2:=(zn.weak 2).2
 clear zn b4 c e0 e1 e2 e3
 go_wp2_with fail
 exact bodyPost_ret (v:=V3 R.k R.n ⟨R.s.toArray⟩) (by simp[results,results24,go_sem, *]) rfl ⟨rfl,B9.out⟩
end
end Go.Proofs.YtbbblmedoagncaaGreatDoor
