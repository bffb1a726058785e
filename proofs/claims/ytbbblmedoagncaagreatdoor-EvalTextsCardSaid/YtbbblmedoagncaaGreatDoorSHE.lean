/- EvW, EvC -/
import Derived.Test.YtbbblmedoagncaaGreatDoorSMEvT
import Derived.Test.YtbbblmedoagncaaGreatDoorSHG
import Derived.Test.YtbbblmedoagncaaGreatDoorSGB
import Derived.Test.YtbbblmedoagncaaGreatDoorSGW
import Derived.Test.YtbbblmedoagncaaGreatDoorSGK
import Derived.Sort.Walk0
namespace Go.Proofs.YtbbblmedoagncaaGreatDoor
section
open Lib (hid)
open _root_.Go.Proofs.Tryz
open Go.RowKit
theorem Va.ok.len {a:Va} (h:a.ok) (hk:a.k=3):a.s.length≤400:=by
 have:=(h.text hk).2.1
 have h4:=pcs_four a.s
 unfold countL at this
 omega
theorem evcount_any (s:List UInt8) (w:World) (hs:s.length≤100000) :
  Calls prog 117 #[.string ⟨s.toArray⟩] w fun e w'=>e=.returned (.int .i64 ((countL s:Nat):Int))∧Below w.heap.size w w':=by
 have hz:(⟨s.toArray⟩:ByteArray).size=s.length:=by simp[ByteArray.size]
 have c:=count_any ⟨s.toArray⟩ w (by omega)
 rw[runeCount_eq] at c
 exact c
theorem evtext_any (s:List UInt8) (w:World) (hs:s.length≤100000) (hT:Tabs w) :
  Calls prog 120 #[.string ⟨s.toArray⟩] w (Comes w (texV s)):=by
 have cN:=evcount_any s w hs
 have cB:=fun w hT=>bad_any 4 (by decide) (by decide) w hT
 by_cases h:100<countL s
 ·have hz:(100:Int)<((countL s:Nat):Int):=by omega
  have HV:Hid (texV s=badV 4):=hid (by unfold texV;rw[if_pos h])
  have HT:=hid hT
  clear hT
  generalize ((countL s:Nat):Int)=C at *
  generalize (⟨s.toArray⟩:ByteArray)=S at *
  go_enter func120,ntmps120
  go_wp2_with fail
  refine cN.mono ?_
  rintro e w1 ⟨rfl,b1⟩
  have c2:=cB w1 (HT.out.later b1)
  clear cN cB
  go_wp2_with fail
  refine c2.mono ?_
  rintro e w2 ⟨rfl,b2⟩
  go_wp2_with fail
  go_ret
  exact⟨by rw[HV.out];rfl,below_to b1 b2⟩
 ·have hz:¬ (100:Int)<((countL s:Nat):Int):=by omega
  have HV:Hid (bxV (texV s)=.iface 9 (.string ⟨s.toArray⟩)):=hid (by unfold texV;rw[if_neg h];rfl)
  clear cB hT
  generalize ((countL s:Nat):Int)=C at *
  generalize (⟨s.toArray⟩:ByteArray)=S at *
  go_enter func120,ntmps120
  go_wp2_with fail
  refine cN.mono ?_
  rintro e w1 ⟨rfl,b1⟩
  go_wp2_with fail
  go_ret
  exact⟨by rw[HV.out];rfl,b1⟩
theorem do_neg (n:Int) (w:World) (hT:Tabs w) (hn:-9223372036854775808≤n∧n≤9223372036854775807) :
  Calls prog 106 #[.int .i64 n] w (Comes w (numV (0 - n))):=by
 have c:=evnumber_any 8 0 n w hT (by decide) (by decide) hn
 rw[show numOp 8 0 n=numV (0 - n) by simp[numOp]] at c
 generalize numV (0 - n)=V at *
 go_enter func106,ntmps106
 go_wp2_with fail
 refine c.mono ?_
 rintro e w1 ⟨rfl,b1⟩
 go_wp2_with fail
 go_ret
 exact⟨rfl,b1⟩
theorem do_two (op a b:Int) (p:Nat) (w:World) (hT:Tabs w) (ho:7≤op∧op≤11) (ha:-9223372036854775808≤a∧a≤9223372036854775807) (hb:-9223372036854775808≤b∧b≤9223372036854775807) (hp:w.cell? ⟨p,0,none⟩=some (.int .i64 op)) :
  Calls prog 109 #[.int .i64 a,.int .i64 b,.pointer (some ⟨p,0,none⟩)] w (Comes w (numOp op a b)):=by
 have c:=evnumber_any op a b w hT ho ha hb
 go_enter func109,ntmps109
 go_wp2_with fail
 refine c.mono ?_
 rintro e w1 ⟨rfl,b1⟩
 go_wp2_with fail
 go_ret
 exact⟨rfl,b1⟩
theorem do_not (n:Int) (w:World):Calls prog 111 #[.bool (n == 1)] w (Comes w (truV (decide (n≠1)))):=by
 have HV:Hid (bxV (truV (decide (n≠1)))=.iface 4 (.bool (!(n == 1)))):=hid (by
  rw[bx_2 (show (truV (decide (n≠1))).k=2 from rfl)]
  by_cases h:n=1
  ·simp[truV,h]
  ·simp[truV,h])
 generalize (n == 1)=Z at *
 go_enter func111,ntmps111
 go_wp2_with fail
 go_ret
 exact⟨by rw[HV.out];rfl,Below.refl _ _⟩
theorem do_len (s:List UInt8) (w:World) (hs:s.length≤100000):Calls prog 116 #[.string ⟨s.toArray⟩] w (Comes w ⟨1,(countL s:Int),[]⟩):=by
 have c:=evcount_any s w hs
 go_enter func116,ntmps116
 go_wp2_with fail
 refine c.mono ?_
 rintro e w1 ⟨rfl,b1⟩
 go_wp2_with fail
 go_ret
 exact⟨rfl,b1⟩
theorem do_cat (s t:List UInt8) (w:World) (hs:s.length≤400) (ht:t.length≤400) (hT:Tabs w):Calls prog 119 #[.string ⟨s.toArray⟩,.string ⟨t.toArray⟩] w (Comes w (texV (s++t))):=by
 have c:=evtext_any (s++t) w (by rw[List.length_append];omega) hT
 have e:(⟨(s++t).toArray⟩:ByteArray)=(⟨s.toArray⟩:ByteArray)++(⟨t.toArray⟩:ByteArray):=by
  apply ByteArray.ext
  simp
 rw[e] at c
 have h1:(⟨s.toArray⟩:ByteArray).size=s.length:=by simp[ByteArray.size]
 have h2:(⟨t.toArray⟩:ByteArray).size=t.length:=by simp[ByteArray.size]
 have h3:(⟨s.toArray⟩:ByteArray).size≤400:=by omega
 have h4:(⟨t.toArray⟩:ByteArray).size≤400:=by omega
 clear h1 h2 e
 generalize (⟨s.toArray⟩:ByteArray)=S at *
 generalize (⟨t.toArray⟩:ByteArray)=T at *
 go_enter func119,ntmps119
 go_wp2_with fail
 refine c.mono ?_
 rintro e w1 ⟨rfl,b1⟩
 go_wp2_with fail
 go_ret
 exact⟨rfl,b1⟩
theorem do_cut (s:List UInt8) (n:Int) (w:World) (hs:s.length≤400) (hn:-9223372036854775808≤n∧n≤9223372036854775807):Calls prog 122 #[.string ⟨s.toArray⟩,.int .i64 n] w (Comes w ⟨3,0,cutL s n.toNat⟩):=by
 have hz:(⟨s.toArray⟩:ByteArray).size=s.length:=by simp[ByteArray.size]
 have c:=cut_any ⟨s.toArray⟩ n w (by omega) hn.1 hn.2
 rw[show (⟨s.toArray⟩:ByteArray).data.toList=s from rfl] at c
 have HV:Hid (bxV ⟨3,0,cutL s n.toNat⟩=.iface 9 (.string ⟨(cutL s n.toNat).toArray⟩)):=hid rfl
 clear hz
 generalize (⟨s.toArray⟩:ByteArray)=S at *
 generalize (⟨(cutL s n.toNat).toArray⟩:ByteArray)=T at *
 go_enter func122,ntmps122
 go_wp2_with fail
 refine c.mono ?_
 rintro e w1 ⟨rfl,b1⟩
 go_wp2_with fail
 go_ret
 exact⟨by rw[HV.out];rfl,b1⟩
theorem holds_any (op c:Int) (w:World) (ho:12≤op∧op≤15):Calls prog 198 #[.int .i64 op,.int .i64 c] w fun e w'=>e=.returned (.bool (holdB op (decide (c<0)) (decide (c=0))))∧w=w':=by
 have:op=12∨op=13∨op=14∨op=15:=by omega
 have h3:c<0∨c=0∨0<c:=by omega
 rcases h3 with h | rfl | h
 ·have q1:(c == 0)=false:=beq_eq_false_iff_ne.2 (by omega)
  have q2:decide (c=0)=false:=decide_eq_false (by omega)
  have q3:decide (c<0)=true:=decide_eq_true h
  have q4:c≤0:=by omega
  have q0:¬ c=0:=by omega
  rw[q2,q3]
  clear q2 q3
  rcases this with rfl | rfl | rfl | rfl
  all_goals
   go_enter func198,ntmps198
   go_wp2_with fail
   go_ret
   exact⟨ret_bool (by simp[holdB,q0]),rfl⟩
 ·rcases this with rfl | rfl | rfl | rfl
  all_goals
   go_enter func198,ntmps198
   go_wp2_with fail
   go_ret
   exact⟨rfl,rfl⟩
 ·have q1:(c == 0)=false:=beq_eq_false_iff_ne.2 (by omega)
  have q2:decide (c=0)=false:=decide_eq_false (by omega)
  have q3:decide (c<0)=false:=decide_eq_false (by omega)
  have q4:¬ c≤0:=by omega
  have q5:¬ c<0:=by omega
  have q0:¬ c=0:=by omega
  rw[q2,q3]
  clear q2 q3
  rcases this with rfl | rfl | rfl | rfl
  all_goals
   go_enter func198,ntmps198
   go_wp2_with fail
   go_ret
   exact⟨ret_bool (by simp[holdB,q0]),rfl⟩
end
section
open Lib (hid)
open _root_.Go.Proofs.Tryz
open Go.RowKit
def cmpZ (lt eq:Bool):Int:=if lt then -1 else if eq then 0 else 1
theorem cmpZ_lt (lt eq:Bool):decide (cmpZ lt eq<0)=lt:=by cases lt<;>cases eq<;>rfl
theorem cmpZ_eq (lt eq:Bool) (h:lt=true→eq=false):decide (cmpZ lt eq=0)=eq:=by
 cases lt<;>cases eq<;>first | rfl | exact absurd (h rfl) (by decide)
theorem isnan_int (a:Int) (w:World):Calls prog 258 #[.int .i64 a] w fun e w'=>e=.returned (.bool false)∧w=w':=by
 go_enter func258,ntmps258
 go_wp2_with fail
 go_ret
 exact⟨ret_bool (by simp),rfl⟩
theorem isnan_str (a:ByteArray) (w:World):Calls prog 246 #[.string a] w fun e w'=>e=.returned (.bool false)∧w=w':=by
 go_enter func246,ntmps246
 go_wp2_with fail
 go_ret
 exact⟨ret_bool (by simp),rfl⟩
theorem cmp_int (a b:Int) (w:World):Calls prog 199 #[.int .i64 a,.int .i64 b] w fun e w'=>e=.returned (.int .i64 (cmpZ (decide (a<b)) (decide (a=b))))∧w=w':=by
 have c:=fun a w=>isnan_int a w
 have h3:a<b∨a=b∨b<a:=by omega
 rcases h3 with h | rfl | h
 ·have e:cmpZ (decide (a<b)) (decide (a=b))=-1:=by rw[decide_eq_true h];rfl
  rw[e]
  go_enter func199,ntmps199
  go_wp2_with fail
  refine (c _ _).mono ?_
  rintro e w1 ⟨rfl,rfl⟩
  go_wp2_with fail
  refine (c _ _).mono ?_
  rintro e w1 ⟨rfl,rfl⟩
  go_wp2_with fail
  go_ret
  exact⟨rfl,rfl⟩
 ·have e:cmpZ (decide (a<a)) (decide (a=a))=0:=by rw[decide_eq_false (Int.lt_irrefl a),decide_eq_true rfl];rfl
  rw[e]
  go_enter func199,ntmps199
  go_wp2_with fail
  refine (c _ _).mono ?_
  rintro e w1 ⟨rfl,rfl⟩
  go_wp2_with fail
  refine (c _ _).mono ?_
  rintro e w1 ⟨rfl,rfl⟩
  go_wp2_with fail
  go_ret
  exact⟨rfl,rfl⟩
 ·have e:cmpZ (decide (a<b)) (decide (a=b))=1:=by rw[decide_eq_false (by omega),decide_eq_false (by omega)];rfl
  have h2:¬ a<b:=by omega
  rw[e]
  go_enter func199,ntmps199
  go_wp2_with fail
  refine (c _ _).mono ?_
  rintro e w1 ⟨rfl,rfl⟩
  go_wp2_with fail
  refine (c _ _).mono ?_
  rintro e w1 ⟨rfl,rfl⟩
  go_wp2_with fail
  go_ret
  exact⟨rfl,rfl⟩
theorem cmp_str (a b:List UInt8) (w:World):Calls prog 201 #[.string ⟨a.toArray⟩,.string ⟨b.toArray⟩] w fun e w'=>e=.returned (.int .i64 (cmpZ (decide (a<b)) (decide (a=b))))∧w=w':=by
 have c:=fun a w=>isnan_str a w
 have ha:(⟨a.toArray⟩:ByteArray).toList=a:=by rw[Lib.toList_data]
 have hb:(⟨b.toArray⟩:ByteArray).toList=b:=by rw[Lib.toList_data]
 have hl:Op.bytesLess (⟨a.toArray⟩:ByteArray).toList (⟨b.toArray⟩:ByteArray).toList=decide (a<b):=by rw[ha,hb,bytesLess_eq]
 have he:((⟨a.toArray⟩:ByteArray).toList == (⟨b.toArray⟩:ByteArray).toList)=decide (a=b):=by
  rw[ha,hb]
  by_cases h:a=b
  ·subst h;simp
  ·rw[decide_eq_false h];exact beq_eq_false_iff_ne.2 h
 generalize (⟨a.toArray⟩:ByteArray)=S at *
 generalize (⟨b.toArray⟩:ByteArray)=T at *
 generalize decide (a<b)=L at *
 generalize decide (a=b)=E at *
 clear ha hb
 cases L<;>cases E
 all_goals
  go_enter func201,ntmps201
  go_wp2_with fail
  refine (c _ _).mono ?_
  rintro e w1 ⟨rfl,rfl⟩
  go_wp2_with fail
  refine (c _ _).mono ?_
  rintro e w1 ⟨rfl,rfl⟩
  go_wp2_with fail
  go_ret
  exact⟨rfl,rfl⟩
theorem do_cmpi (op a b:Int) (po pa:Nat) (w:World) (ho:12≤op∧op≤15) (c0:w.cell? ⟨po,0,none⟩=some (.int .i64 op)) (c1:w.cell? ⟨pa,0,none⟩=some (.int .i64 a)) :
  Calls prog 197 #[.int .i64 b,.pointer (some ⟨po,0,none⟩),.pointer (some ⟨pa,0,none⟩)] w (Comes w (truV (holdB op (decide (a<b)) (decide (a=b))))):=by
 have cC:=fun w=>cmp_int a b w
 have cH:=fun w=>holds_any op (cmpZ (decide (a<b)) (decide (a=b))) w ho
 rw[cmpZ_lt,cmpZ_eq _ _ (fun h=>decide_eq_false (by have:=of_decide_eq_true h;omega))] at cH
 have HV:Hid (∀ R:Bool,bxV (truV R)=.iface 4 (.bool R)):=hid (fun R=>by cases R<;>rfl)
 generalize cmpZ (decide (a<b)) (decide (a=b))=C at *
 generalize holdB op (decide (a<b)) (decide (a=b))=R at *
 go_enter func197,ntmps197
 go_wp2_with fail
 go_quiet ((first | (go_at_call 199;exact (cC _).mono fun _ _ h=>⟨h.1,_,h.2.symm⟩) | (go_at_call 198;exact (cH _).mono fun _ _ h=>⟨h.1,_,h.2.symm⟩)))
 go_wp2_with fail
 go_ret
 exact⟨by rw[HV.out];rfl,below_drewN (Below.refl _ _) _⟩
theorem lt_ne {a b:List UInt8} (h:a<b):a≠b:=fun e=>by subst e;exact List.lt_irrefl _ h
theorem do_cmps (op:Int) (a b:List UInt8) (po pa:Nat) (w:World) (ho:12≤op∧op≤15) (c0:w.cell? ⟨po,0,none⟩=some (.int .i64 op)) (c1:w.cell? ⟨pa,0,none⟩=some (.string ⟨a.toArray⟩)) :
  Calls prog 200 #[.string ⟨b.toArray⟩,.pointer (some ⟨po,0,none⟩),.pointer (some ⟨pa,0,none⟩)] w (Comes w (truV (holdB op (decide (a<b)) (decide (a=b))))):=by
 have cC:=fun w=>cmp_str a b w
 have cH:=fun w=>holds_any op (cmpZ (decide (a<b)) (decide (a=b))) w ho
 rw[cmpZ_lt,cmpZ_eq _ _ (fun h=>decide_eq_false (lt_ne (of_decide_eq_true h)))] at cH
 have HV:Hid (∀ R:Bool,bxV (truV R)=.iface 4 (.bool R)):=hid (fun R=>by cases R<;>rfl)
 generalize cmpZ (decide (a<b)) (decide (a=b))=C at *
 generalize holdB op (decide (a<b)) (decide (a=b))=R at *
 generalize (⟨a.toArray⟩:ByteArray)=S at *
 generalize (⟨b.toArray⟩:ByteArray)=T at *
 go_enter func200,ntmps200
 go_wp2_with fail
 go_quiet ((first | (go_at_call 201;exact (cC _).mono fun _ _ h=>⟨h.1,_,h.2.symm⟩) | (go_at_call 198;exact (cH _).mono fun _ _ h=>⟨h.1,_,h.2.symm⟩)))
 go_wp2_with fail
 go_ret
 exact⟨by rw[HV.out];rfl,below_drewN (Below.refl _ _) _⟩
theorem do_cmpb (op m n:Int) (po pa:Nat) (w:World) (ho:op=12∨op=13) (hm:m=0∨m=1) (hn:n=0∨n=1) (c0:w.cell? ⟨po,0,none⟩=some (.int .i64 op)) (c1:w.cell? ⟨pa,0,none⟩=some (.bool (m == 1))) :
  Calls prog 202 #[.bool (n == 1),.pointer (some ⟨pa,0,none⟩),.pointer (some ⟨po,0,none⟩)] w (Comes w (truV (holdB op false (decide (m=n))))):=by
 rcases ho with rfl | rfl<;>rcases hm with rfl | rfl<;>rcases hn with rfl | rfl
 all_goals
  go_enter func202,ntmps202
  go_wp2_with fail
  go_ret
  exact⟨rfl,Below.refl _ _⟩
end
end Go.Proofs.YtbbblmedoagncaaGreatDoor
