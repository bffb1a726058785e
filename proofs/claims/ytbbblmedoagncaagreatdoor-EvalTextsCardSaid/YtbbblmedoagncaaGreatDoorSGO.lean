/- ParS, ParS2, ParS3, ParRoom -/
import Derived.Test.YtbbblmedoagncaaGreatDoorSGJ
import Derived.Test.YtbbblmedoagncaaGreatDoorSGK
import Derived.Test.YtbbblmedoagncaaGreatDoorSGB
import Derived.Test.YtbbblmedoagncaaGreatDoorSGI
import Derived.Shelf.Utf8.RuneCount
import Derived.BigQuiet
import Derived.Deep.LoopGhost
namespace Go.Proofs.YtbbblmedoagncaaGreatDoor
section
open _root_.Go.Proofs.Tryz
set_option maxHeartbeats 2000000
set_option maxRecDepth 100000
open Go.RowKit
theorem form_leaf (op:Int) (h:1≤op∧op≤4):formOfL op=(0,[],0,0):=by
 have:op=1∨op=2∨op=3∨op=4:=by omega
 rcases this with rfl | rfl | rfl | rfl<;>decide
theorem form_other (op:Int) (h:¬ (1≤op∧op≤4)):(formOfL op=(0,[],0,0)∧arity op=none)∨(∃ (s:List UInt8) (k:Nat) (l:Int),formOfL op=(op,s,(k:Int),l)∧arity op=some k∧(5≤op∧op≤23)∧(op=22→k=1)):=by
 by_cases h1:5≤op∧op≤23
 ·have:op=5∨op=6∨op=7∨op=8∨op=9∨op=10∨op=11∨op=12∨op=13∨op=14∨op=15∨op=16∨op=17∨op=18∨op=19∨op=20∨op=21∨op=22∨op=23:=by omega
  right
  rcases this with rfl | rfl | rfl | rfl | rfl | rfl | rfl | rfl | rfl | rfl | rfl | rfl | rfl | rfl | rfl | rfl | rfl | rfl | rfl
  ·exact⟨_,1,_,rfl,rfl,by decide,by decide⟩
  ·exact⟨_,1,_,rfl,rfl,by decide,by decide⟩
  ·exact⟨_,2,_,rfl,rfl,by decide,by decide⟩
  ·exact⟨_,2,_,rfl,rfl,by decide,by decide⟩
  ·exact⟨_,2,_,rfl,rfl,by decide,by decide⟩
  ·exact⟨_,2,_,rfl,rfl,by decide,by decide⟩
  ·exact⟨_,2,_,rfl,rfl,by decide,by decide⟩
  ·exact⟨_,2,_,rfl,rfl,by decide,by decide⟩
  ·exact⟨_,2,_,rfl,rfl,by decide,by decide⟩
  ·exact⟨_,2,_,rfl,rfl,by decide,by decide⟩
  ·exact⟨_,2,_,rfl,rfl,by decide,by decide⟩
  ·exact⟨_,2,_,rfl,rfl,by decide,by decide⟩
  ·exact⟨_,2,_,rfl,rfl,by decide,by decide⟩
  ·exact⟨_,3,_,rfl,rfl,by decide,by decide⟩
  ·exact⟨_,1,_,rfl,rfl,by decide,by decide⟩
  ·exact⟨_,2,_,rfl,rfl,by decide,by decide⟩
  ·exact⟨_,2,_,rfl,rfl,by decide,by decide⟩
  ·exact⟨_,1,_,rfl,rfl,by decide,by decide⟩
  ·exact⟨_,1,_,rfl,rfl,by decide,by decide⟩
 ·left
  constructor
  ·unfold formOfL
   have e:formsT.find? (fun f=>f.1 == op)=none:=by
    rw[List.find?_eq_none]
    intro f hf hb
    have hall:∀ f ∈ formsT,5≤f.1∧f.1≤23:=by decide
    have:=hall f hf
    have e:f.1=op:=by simpa using hb
    omega
   rw[e];rfl
  ·unfold arity
   rw[if_neg (by omega),if_neg (by omega),if_neg (by omega),if_neg (by omega)]
theorem isEmpty_str (s:List UInt8):(⟨s.toArray⟩:ByteArray).toList.isEmpty=s.isEmpty:=by
 rw[emp]
 cases s<;>simp
theorem partB_1 (n:Int) (s:List UInt8) (ks:List Ex):partB (.mk 1 n s ks)=(decide (0≤n) && s.isEmpty && decide (ks.length=0)):=by
 unfold partB Ex.op Ex.kids Ex.num Ex.str plainB hasB arity
 by_cases h:ks.length=0
 ·simp[h]
 ·simp[h,Ne.symm h]
theorem partB_2 (n:Int) (s:List UInt8) (ks:List Ex):partB (.mk 2 n s ks)=(decide (n=0) && textB s && decide (ks.length=0)):=by
 unfold partB Ex.op Ex.kids Ex.num Ex.str plainB hasB arity
 by_cases h:ks.length=0
 ·simp[h]
 ·simp[h,Ne.symm h]
theorem partB_3 (n:Int) (s:List UInt8) (ks:List Ex):partB (.mk 3 n s ks)=(decide (n=0∨n=1) && s.isEmpty && decide (ks.length=0)):=by
 unfold partB Ex.op Ex.kids Ex.num Ex.str plainB hasB arity
 by_cases h:ks.length=0
 ·simp[h]
 ·simp[h,Ne.symm h]
theorem partB_4 (n:Int) (s:List UInt8) (ks:List Ex):partB (.mk 4 n s ks)=(decide (n=0) && nameB s && decide (ks.length=0)):=by
 unfold partB Ex.op Ex.kids Ex.num Ex.str plainB hasB arity
 by_cases h:ks.length=0
 ·simp[h]
 ·simp[h,Ne.symm h]
theorem partB_none (op n:Int) (s:List UInt8) (ks:List Ex) (h:arity op=none):partB (.mk op n s ks)=false:=by
 unfold partB Ex.op
 dsimp only
 rw[h]
 simp
theorem partB_some (op n:Int) (s:List UInt8) (ks:List Ex) (k:Nat) (h:arity op=some k) (h5:5≤op):partB (.mk op n s ks)=(decide (n=0) && s.isEmpty && decide (ks.length=k) && hasB op ks):=by
 unfold partB Ex.op Ex.kids Ex.num Ex.str plainB
 dsimp only
 rw[h,if_neg (by omega),if_neg (by omega),if_neg (by omega),if_neg (by omega)]
 by_cases hk:ks.length=k
 ·simp[hk]
 ·simp[hk,Ne.symm hk]
theorem runeCount_any (s:ByteArray) (w:World) (hs:s.size<9223372036854775807):Calls prog 232 #[.string s] w fun e w'=>e=.returned (.int .i64 (Lib.runeCount s))∧Below w.heap.size w w' :=
 (Any.utf8_RuneCountInString more195 s w hs).mono fun _ _ ⟨he,p,hw⟩=>⟨he,by subst hw;exact below_alloc w _⟩
theorem part_1 (n:Int) (S:ByteArray) (ao:Option Addr) (l cap:Nat) (w:World) (hE:EnvP w) :
  Calls prog 151 #[EV 1 n S (.slice ao l cap)] w fun e w'=>e=.returned (.bool (decide (0≤n) && S.toList.isEmpty && decide (l=0)))∧Below w.heap.size w w':=by
 have hX:=four_new w (.int .i64 1) (.int .i64 n) (.string S) (.slice ao l cap) 24
 have hbX:=below_alloc w (.cells #[.int .i64 1,.int .i64 n,.string S,.slice ao l cap] 24)
 obtain⟨wX,hwX⟩:∃ wX,w.alloc (.cells #[.int .i64 1,.int .i64 n,.string S,.slice ao l cap] 24)=wX:=⟨_,rfl⟩
 rw[hwX] at hX hbX
 have hX':=hX
 obtain⟨-,x0,x1,x2,x3,-⟩:=hX'
 have cF:=formof_any 1 wX (hE.later hbX).forms
 rw[form_leaf 1 (by decide)] at cF
 go_enter func151,ntmps151
 go_wp2_with fail
 refine cF.mono ?_
 rintro e w1 ⟨rfl,b1⟩
 have hb1:=below_to hbX b1
 obtain⟨hlt,y0,y1,y2,y3,-⟩:=hX.later b1
 have hnw:w.heap.size<w1.heap.size:=hlt
 have hna:¬ w.heap.size=w1.heap.size:=by omega
 have hnb:¬ w1.heap.size=w.heap.size:=by omega
 have hb2:=hb1.alloc hb1.size (.cells #[.int .i64 0,.string ⟨#[]⟩,.int .i64 0,.int .i64 0] 131)
 clear cF hX hwX b1 x0 x1 x2 x3
 go_wp2_with fail
 go_quiet (fail)
 go_wp2_with fail
 all_goals
  go_ret
  refine⟨ret_bool ?_,by first | exact hb2 | exact below_drewN hb2 _⟩
  first | (simp_all;done) | (simp_all;intros;omega)
theorem part_3 (n:Int) (S:ByteArray) (ao:Option Addr) (l cap:Nat) (w:World) (hE:EnvP w) :
  Calls prog 151 #[EV 3 n S (.slice ao l cap)] w fun e w'=>e=.returned (.bool (decide (n=0∨n=1) && S.toList.isEmpty && decide (l=0)))∧Below w.heap.size w w':=by
 have hX:=four_new w (.int .i64 3) (.int .i64 n) (.string S) (.slice ao l cap) 24
 have hbX:=below_alloc w (.cells #[.int .i64 3,.int .i64 n,.string S,.slice ao l cap] 24)
 obtain⟨wX,hwX⟩:∃ wX,w.alloc (.cells #[.int .i64 3,.int .i64 n,.string S,.slice ao l cap] 24)=wX:=⟨_,rfl⟩
 rw[hwX] at hX hbX
 have hX':=hX
 obtain⟨-,x0,x1,x2,x3,-⟩:=hX'
 have cF:=formof_any 3 wX (hE.later hbX).forms
 rw[form_leaf 3 (by decide)] at cF
 go_enter func151,ntmps151
 go_wp2_with fail
 refine cF.mono ?_
 rintro e w1 ⟨rfl,b1⟩
 have hb1:=below_to hbX b1
 obtain⟨hlt,y0,y1,y2,y3,-⟩:=hX.later b1
 have hnw:w.heap.size<w1.heap.size:=hlt
 have hna:¬ w.heap.size=w1.heap.size:=by omega
 have hnb:¬ w1.heap.size=w.heap.size:=by omega
 have hb2:=hb1.alloc hb1.size (.cells #[.int .i64 0,.string ⟨#[]⟩,.int .i64 0,.int .i64 0] 131)
 clear cF hX hwX b1 x0 x1 x2 x3
 go_wp2_with fail
 go_quiet (fail)
 go_wp2_with fail
 all_goals
  go_ret
  refine⟨ret_bool ?_,by first | exact hb2 | exact below_drewN hb2 _⟩
  first | (simp_all;done) | (simp_all;intros;omega)
theorem part_4 (n:Int) (S:ByteArray) (ao:Option Addr) (l cap:Nat) (w:World) (hE:EnvP w) (hS:S.size≤9223372036854775807) :
  Calls prog 151 #[EV 4 n S (.slice ao l cap)] w fun e w'=>e=.returned (.bool (decide (n=0) && nameB S.data.toList && decide (l=0)))∧Below w.heap.size w w':=by
 have hX:=four_new w (.int .i64 4) (.int .i64 n) (.string S) (.slice ao l cap) 24
 have hbX:=below_alloc w (.cells #[.int .i64 4,.int .i64 n,.string S,.slice ao l cap] 24)
 obtain⟨wX,hwX⟩:∃ wX,w.alloc (.cells #[.int .i64 4,.int .i64 n,.string S,.slice ao l cap] 24)=wX:=⟨_,rfl⟩
 rw[hwX] at hX hbX
 have hX':=hX
 obtain⟨-,x0,x1,x2,x3,-⟩:=hX'
 have cF:=formof_any 4 wX (hE.later hbX).forms
 rw[form_leaf 4 (by decide)] at cF
 go_enter func151,ntmps151
 go_wp2_with fail
 refine cF.mono ?_
 rintro e w1 ⟨rfl,b1⟩
 have hb1:=below_to hbX b1
 have hE1:=(hE.later hb1).later (below_alloc w1 (.cells #[.int .i64 0,.string ⟨#[]⟩,.int .i64 0,.int .i64 0] 131))
 have hXk:=hX.later b1
 obtain⟨hlt,y0,y1,y2,y3,-⟩:=hX.later b1
 have hnw:w.heap.size<w1.heap.size:=hlt
 have hna:¬ w.heap.size=w1.heap.size:=by omega
 have hnb:¬ w1.heap.size=w.heap.size:=by omega
 have hb2:=hb1.alloc hb1.size (.cells #[.int .i64 0,.string ⟨#[]⟩,.int .i64 0,.int .i64 0] 131)
 clear cF hX hwX b1 x0 x1 x2 x3
 go_wp2_with fail
 go_quiet (fail)
 go_wp2_with fail
 have bQ:=below_to (below_alloc w1 (.cells #[.int .i64 0,.string ⟨#[]⟩,.int .i64 0,.int .i64 0] 131)) (below_drewN (Below.refl _ _) nq)
 refine (pname_any S _ hS (hE1.later (below_drewN (Below.refl _ _) _)).env).mono ?_
 rintro e w2 ⟨rfl,b2⟩
 have b3:=below_to bQ b2
 have hb3:=below_to hb1 b3
 obtain⟨-,z0,z1,z2,z3,-⟩:=(four_new w1 (.int .i64 0) (.string ⟨#[]⟩) (.int .i64 0) (.int .i64 0) 131).later (below_to (below_drewN (Below.refl _ _) nq) b2)
 obtain⟨-,y0,y1,y2,y3,-⟩:=hXk.later b3
 clear hXk
 generalize hNB:nameB S.data.toList=NB
 clear b3 bQ hb2 hE1
 cases NB
 all_goals go_wp2_with fail
 all_goals
  go_ret
  refine⟨ret_bool ?_,by first | exact hb3 | exact below_drewN hb3 _⟩
  first | (simp_all;done) | (by_cases hn:n=0<;>by_cases hl:l=0<;>simp_all<;>done) | (simp_all;intros;omega)
theorem part_2 (n:Int) (S:ByteArray) (ao:Option Addr) (l cap:Nat) (w:World) (hE:EnvP w) (hS:S.size<9223372036854775807) :
  Calls prog 151 #[EV 2 n S (.slice ao l cap)] w fun e w'=>e=.returned (.bool (decide (n=0) && textB S.data.toList && decide (l=0)))∧Below w.heap.size w w':=by
 have hT:textB S.data.toList=(validL S.data.toList && decide (countL S.data.toList≤100)):=rfl
 rw[hT]
 clear hT
 have hX:=four_new w (.int .i64 2) (.int .i64 n) (.string S) (.slice ao l cap) 24
 have hbX:=below_alloc w (.cells #[.int .i64 2,.int .i64 n,.string S,.slice ao l cap] 24)
 obtain⟨wX,hwX⟩:∃ wX,w.alloc (.cells #[.int .i64 2,.int .i64 n,.string S,.slice ao l cap] 24)=wX:=⟨_,rfl⟩
 rw[hwX] at hX hbX
 have hX':=hX
 obtain⟨-,x0,x1,x2,x3,-⟩:=hX'
 have cF:=formof_any 2 wX (hE.later hbX).forms
 rw[form_leaf 2 (by decide)] at cF
 go_enter func151,ntmps151
 go_wp2_with fail
 refine cF.mono ?_
 rintro e w1 ⟨rfl,b1⟩
 have hb1:=below_to hbX b1
 have hE1:=(hE.later hb1).later (below_alloc w1 (.cells #[.int .i64 0,.string ⟨#[]⟩,.int .i64 0,.int .i64 0] 131))
 have hXk:=hX.later b1
 obtain⟨hlt,y0,y1,y2,y3,-⟩:=hX.later b1
 have hnw:w.heap.size<w1.heap.size:=hlt
 have hna:¬ w.heap.size=w1.heap.size:=by omega
 have hnb:¬ w1.heap.size=w.heap.size:=by omega
 have hb2:=hb1.alloc hb1.size (.cells #[.int .i64 0,.string ⟨#[]⟩,.int .i64 0,.int .i64 0] 131)
 clear cF hX hwX b1 x0 x1 x2 x3
 go_wp2_with fail
 go_quiet (fail)
 go_wp2_with fail
 have bQ:=below_to (below_alloc w1 (.cells #[.int .i64 0,.string ⟨#[]⟩,.int .i64 0,.int .i64 0] 131)) (below_drewN (Below.refl _ _) nq)
 refine (validString_any S _ (by omega) (hE1.later (below_drewN (Below.refl _ _) _)).env.tabs).mono ?_
 rintro e w2 ⟨rfl,b2⟩
 have b3:=below_to bQ b2
 have hb3:=below_to hb1 b3
 obtain⟨-,z0,z1,z2,z3,-⟩:=(four_new w1 (.int .i64 0) (.string ⟨#[]⟩) (.int .i64 0) (.int .i64 0) 131).later (below_to (below_drewN (Below.refl _ _) nq) b2)
 obtain⟨-,y0,y1,y2,y3,-⟩:=hXk.later b3
 have hz3:=(four_new w1 (.int .i64 0) (.string ⟨#[]⟩) (.int .i64 0) (.int .i64 0) 131).later (below_to (below_drewN (Below.refl _ _) nq) b2)
 cases hV:validL S.data.toList with
 | false =>
  clear hXk b2 b3 bQ hb2 hE1 hz3
  go_wp2_with fail
  all_goals
   go_ret
   refine⟨ret_bool ?_,by first | exact hb3 | exact below_drewN hb3 _⟩
   first | (simp_all;done) | (by_cases hn:n=0<;>by_cases hl:l=0<;>simp_all<;>done)
 | true =>
  have cR:=runeCount_any S w2 (by omega)
  rw[runeCount_eq] at cR
  clear b3 bQ hb2 hE1
  go_wp2_with fail
  refine cR.mono ?_
  rintro e w3 ⟨rfl,b3⟩
  have hb4:=below_to hb3 b3
  obtain⟨-,z0,z1,z2,z3,-⟩:=hz3.later b3
  obtain⟨-,y0,y1,y2,y3,-⟩:=(hXk.later (below_to (below_alloc w1 (.cells #[.int .i64 0,.string ⟨#[]⟩,.int .i64 0,.int .i64 0] 131)) (below_to (below_drewN (Below.refl _ _) nq) b2))).later b3
  have hCL:countL S.data.toList≤S.size:=by rw[← runeCount_eq];exact Lib.runeCount_le S
  clear hXk hz3 cR
  generalize hCT:countL S.data.toList=CT at *
  go_wp2_with fail
  all_goals
   go_ret
   refine⟨ret_bool ?_,by first | exact hb4 | exact below_drewN hb4 _⟩
   first | (simp_all;done) | (by_cases hn:n=0<;>by_cases hl:l=0<;>simp_all<;>done) | (simp_all;intros;omega)
end
section
open _root_.Go.Proofs.Tryz
set_option maxHeartbeats 2000000
set_option maxRecDepth 100000
open Go.RowKit
theorem part_none (op:Int) (h:¬ (1≤op∧op≤4)) (hf:formOfL op=(0,[],0,0)) (n:Int) (S:ByteArray) (ao:Option Addr) (l cap:Nat) (w:World) (hE:EnvP w) :
  Calls prog 151 #[EV op n S (.slice ao l cap)] w fun e w'=>e=.returned (.bool (false))∧Below w.heap.size w w':=by
 have q1:(op == 1)=false:=by rw[beq_eq_false_iff_ne];omega
 have q2:(op == 2)=false:=by rw[beq_eq_false_iff_ne];omega
 have q3:(op == 3)=false:=by rw[beq_eq_false_iff_ne];omega
 have q4:(op == 4)=false:=by rw[beq_eq_false_iff_ne];omega
 have hX:=four_new w (.int .i64 op) (.int .i64 n) (.string S) (.slice ao l cap) 24
 have hbX:=below_alloc w (.cells #[.int .i64 op,.int .i64 n,.string S,.slice ao l cap] 24)
 obtain⟨wX,hwX⟩:∃ wX,w.alloc (.cells #[.int .i64 op,.int .i64 n,.string S,.slice ao l cap] 24)=wX:=⟨_,rfl⟩
 rw[hwX] at hX hbX
 have hX':=hX
 obtain⟨-,x0,x1,x2,x3,-⟩:=hX'
 have cF:=formof_any op wX (hE.later hbX).forms
 rw[hf] at cF
 go_enter func151,ntmps151
 go_wp2_with fail
 refine cF.mono ?_
 rintro e w1 ⟨rfl,b1⟩
 have hb1:=below_to hbX b1
 obtain⟨hlt,y0,y1,y2,y3,-⟩:=hX.later b1
 have hnw:w.heap.size<w1.heap.size:=hlt
 have hna:¬ w.heap.size=w1.heap.size:=by omega
 have hnb:¬ w1.heap.size=w.heap.size:=by omega
 have hb2:=hb1.alloc hb1.size (.cells #[.int .i64 0,.string ⟨#[]⟩,.int .i64 0,.int .i64 0] 131)
 clear cF hX hwX b1 x0 x1 x2 x3
 go_wp2_with fail
 go_quiet (fail)
 go_wp2_with fail
 all_goals
  go_ret
  refine⟨ret_bool ?_,by first | exact hb2 | exact below_drewN hb2 _⟩
  first | (simp_all;done) | (by_cases hn:n=0<;>by_cases hl:l=0<;>simp_all<;>done) | (simp_all;intros;omega)
theorem part_some (op:Int) (sg:List UInt8) (k:Nat) (ln:Int) (h:5≤op∧op≤23) (h22:¬ op=22) (hf:formOfL op=(op,sg,(k:Int),ln)) (n:Int) (S:ByteArray) (ao:Option Addr) (l cap:Nat) (w:World) (hE:EnvP w) :
  Calls prog 151 #[EV op n S (.slice ao l cap)] w fun e w'=>e=.returned (.bool (decide (n=0) && S.toList.isEmpty && decide (l=k)))∧Below w.heap.size w w':=by
 have q1:(op == 1)=false:=by rw[beq_eq_false_iff_ne];omega
 have q2:(op == 2)=false:=by rw[beq_eq_false_iff_ne];omega
 have q3:(op == 3)=false:=by rw[beq_eq_false_iff_ne];omega
 have q4:(op == 4)=false:=by rw[beq_eq_false_iff_ne];omega
 have q0:(op == 0)=false:=by rw[beq_eq_false_iff_ne];omega
 have q22:(op != 22)=true:=by rw[bne_iff_ne];exact h22
 have hX:=four_new w (.int .i64 op) (.int .i64 n) (.string S) (.slice ao l cap) 24
 have hbX:=below_alloc w (.cells #[.int .i64 op,.int .i64 n,.string S,.slice ao l cap] 24)
 obtain⟨wX,hwX⟩:∃ wX,w.alloc (.cells #[.int .i64 op,.int .i64 n,.string S,.slice ao l cap] 24)=wX:=⟨_,rfl⟩
 rw[hwX] at hX hbX
 have hX':=hX
 obtain⟨-,x0,x1,x2,x3,-⟩:=hX'
 have cF:=formof_any op wX (hE.later hbX).forms
 rw[hf] at cF
 go_enter func151,ntmps151
 go_wp2_with fail
 refine cF.mono ?_
 rintro e w1 ⟨rfl,b1⟩
 have hb1:=below_to hbX b1
 obtain⟨hlt,y0,y1,y2,y3,-⟩:=hX.later b1
 have hnw:w.heap.size<w1.heap.size:=hlt
 have hna:¬ w.heap.size=w1.heap.size:=by omega
 have hnb:¬ w1.heap.size=w.heap.size:=by omega
 have hb2:=hb1.alloc hb1.size (.cells #[.int .i64 op,.string ⟨sg.toArray⟩,.int .i64 k,.int .i64 ln] 131)
 clear cF hX hwX b1 x0 x1 x2 x3
 go_wp2_with fail
 go_quiet (fail)
 go_wp2_with fail
 all_goals
  go_ret
  refine⟨ret_bool ?_,by first | exact hb2 | exact below_drewN hb2 _⟩
  first | (simp_all;done) | (by_cases hn:n=0<;>by_cases hl:l=k<;>simp_all<;>done) | (simp_all;intros;omega)
end
section
open _root_.Go.Proofs.Tryz
set_option maxHeartbeats 2000000
set_option maxRecDepth 100000
open Go.RowKit
theorem part_22 (n:Int) (S:ByteArray) (ao:Option Addr) (l cap:Nat) (w:World) (hE:EnvP w) (hl:¬ l=1) :
  Calls prog 151 #[EV 22 n S (.slice ao l cap)] w fun e w'=>e=.returned (.bool false)∧Below w.heap.size w w':=by
 have hX:=four_new w (.int .i64 22) (.int .i64 n) (.string S) (.slice ao l cap) 24
 have hbX:=below_alloc w (.cells #[.int .i64 22,.int .i64 n,.string S,.slice ao l cap] 24)
 obtain⟨wX,hwX⟩:∃ wX,w.alloc (.cells #[.int .i64 22,.int .i64 n,.string S,.slice ao l cap] 24)=wX:=⟨_,rfl⟩
 rw[hwX] at hX hbX
 have hX':=hX
 obtain⟨-,x0,x1,x2,x3,-⟩:=hX'
 have cF:=formof_any 22 wX (hE.later hbX).forms
 obtain⟨sg,ln,hf⟩:∃ sg ln,formOfL 22=(22,sg,((1:Nat):Int),ln):=⟨_,_,rfl⟩
 rw[hf] at cF
 go_enter func151,ntmps151
 go_wp2_with fail
 refine cF.mono ?_
 rintro e w1 ⟨rfl,b1⟩
 have hb1:=below_to hbX b1
 obtain⟨hlt,y0,y1,y2,y3,-⟩:=hX.later b1
 have hnw:w.heap.size<w1.heap.size:=hlt
 have hna:¬ w.heap.size=w1.heap.size:=by omega
 have hnb:¬ w1.heap.size=w.heap.size:=by omega
 have hb2:=hb1.alloc hb1.size (.cells #[.int .i64 22,.string ⟨sg.toArray⟩,.int .i64 (1:Nat),.int .i64 ln] 131)
 clear cF hX hwX b1 x0 x1 x2 x3
 have hl2:¬ (l:Int)=1:=by omega
 go_wp2_with fail
 go_quiet (fail)
 go_wp2_with fail
 all_goals
  go_ret
  refine⟨ret_bool ?_,by first | exact hb2 | exact below_drewN hb2 _⟩
  first | (simp_all;done) | (by_cases hn:n=0<;>simp_all<;>done) | (simp_all;intros;omega)
theorem part_has (n:Int) (S:ByteArray) (g o cap:Nat) (kop:Int) (w:World) (hE:EnvP w) (hg:g<w.heap.size) (hc:w.cell? ⟨g,o,none⟩=some (.int .i64 kop)) :
  Calls prog 151 #[EV 22 n S (.slice (some ⟨g,o,none⟩) 1 cap)] w fun e w'=>e=.returned (.bool (decide (n=0) && S.toList.isEmpty && (kop == 4)))∧Below w.heap.size w w':=by
 have hX:=four_new w (.int .i64 22) (.int .i64 n) (.string S) (.slice (some ⟨g,o,none⟩) 1 cap) 24
 have hbX:=below_alloc w (.cells #[.int .i64 22,.int .i64 n,.string S,.slice (some ⟨g,o,none⟩) 1 cap] 24)
 obtain⟨wX,hwX⟩:∃ wX,w.alloc (.cells #[.int .i64 22,.int .i64 n,.string S,.slice (some ⟨g,o,none⟩) 1 cap] 24)=wX:=⟨_,rfl⟩
 rw[hwX] at hX hbX
 have hX':=hX
 obtain⟨-,x0,x1,x2,x3,-⟩:=hX'
 have cF:=formof_any 22 wX (hE.later hbX).forms
 obtain⟨sg,ln,hf⟩:∃ sg ln,formOfL 22=(22,sg,((1:Nat):Int),ln):=⟨_,_,rfl⟩
 rw[hf] at cF
 go_enter func151,ntmps151
 go_wp2_with fail
 refine cF.mono ?_
 rintro e w1 ⟨rfl,b1⟩
 have hb1:=below_to hbX b1
 obtain⟨hlt,y0,y1,y2,y3,-⟩:=hX.later b1
 have hnw:w.heap.size<w1.heap.size:=hlt
 have hna:¬ w.heap.size=w1.heap.size:=by omega
 have hnb:¬ w1.heap.size=w.heap.size:=by omega
 have hc1:w1.cell? ⟨g,o,none⟩=some (.int .i64 kop):=by rw[hb1.cell (p:=⟨g,o,none⟩) hg];exact hc
 have hg1:g<w1.heap.size:=by omega
 have hgn:¬ g=w1.heap.size:=by omega
 have hb2:=hb1.alloc hb1.size (.cells #[.int .i64 22,.string ⟨sg.toArray⟩,.int .i64 (1:Nat),.int .i64 ln] 131)
 clear cF hX hwX b1 x0 x1 x2 x3
 go_wp2_with fail
 go_quiet (fail)
 go_wp2_with fail
 all_goals
  go_ret
  refine⟨ret_bool ?_,by first | exact hb2 | exact below_drewN hb2 _⟩
  first | (simp_all;done) | (by_cases hn:n=0<;>simp_all<;>done) | (simp_all;intros;omega)
theorem part_any (e:Ex) (v:Value) (S:Nat→Prop) (w:World) (hE:EnvP w) (hv:ExIn w S e v) :
  Calls prog 151 #[v] w fun en w'=>en=.returned (.bool (partB e))∧Below w.heap.size w w':=by
 cases e with
 | mk op n s ks =>
 obtain⟨ao,cap,rfl,h2,h3,hr,hk⟩:=hv.get
 unfold Ex.op Ex.num Ex.str Ex.kids at *
 dsimp only at *
 have hs:=hr.2.2
 have hsz:(⟨s.toArray⟩:ByteArray).size=s.length:=by simp[ByteArray.size]
 have hdl:(⟨s.toArray⟩:ByteArray).data.toList=s:=by simp
 by_cases h14:1≤op∧op≤4
 ·have:op=1∨op=2∨op=3∨op=4:=by omega
  rcases this with rfl | rfl | rfl | rfl
  ·have c:=part_1 n ⟨s.toArray⟩ ao ks.length cap w hE
   rw[isEmpty_str] at c
   rw[partB_1];exact c
  ·have c:=part_2 n ⟨s.toArray⟩ ao ks.length cap w hE (by omega)
   rw[hdl] at c
   rw[partB_2];exact c
  ·have c:=part_3 n ⟨s.toArray⟩ ao ks.length cap w hE
   rw[isEmpty_str] at c
   rw[partB_3];exact c
  ·have c:=part_4 n ⟨s.toArray⟩ ao ks.length cap w hE (by omega)
   rw[hdl] at c
   rw[partB_4];exact c
 ·rcases form_other op h14 with ⟨hf,ha⟩ | ⟨sg,k,ln,hf,ha,h5,hk22⟩
  ·rw[partB_none _ _ _ _ ha]
   exact part_none op h14 hf n ⟨s.toArray⟩ ao ks.length cap w hE
  ·rw[partB_some _ _ _ _ k ha h5.1]
   by_cases h22:op=22
   ·obtain rfl:=hk22 h22
    subst h22
    by_cases hl:ks.length=1
    ·obtain⟨g,o,rfl,-,hg,hrow⟩:=hk (by omega)
     obtain⟨k0,rfl⟩:=List.length_eq_one_iff.1 hl
     rw[RowIn] at hrow
     obtain⟨-,⟨v0,v1,v2,v3,c0,c1,c2,c3,he⟩,-⟩:=hrow
     obtain⟨_,_,hev,-⟩:=he.get
     obtain rfl:v0=.int .i64 k0.op:=by
      have:=congrArg (fun v=>match v with | .agg a=>a[0]? | _=>none) hev
      simpa using this
     have c:=part_has n ⟨s.toArray⟩ g o cap k0.op w hE hg c0
     rw[isEmpty_str] at c
     have e1:hasB 22 [k0]=(k0.op == 4):=by simp[hasB]
     rw[e1]
     simpa using c
    ·have c:=part_22 n ⟨s.toArray⟩ ao ks.length cap w hE hl
     simpa[hl] using c
   ·have c:=part_some op sg k ln h5 h22 hf n ⟨s.toArray⟩ ao ks.length cap w hE
    rw[isEmpty_str] at c
    have e1:hasB op ks=true:=by simp[hasB,h22]
    rw[e1,Bool.and_true]
    exact c
end
section
open Lib (hid)
open _root_.Go.Proofs.Tryz
set_option maxHeartbeats 2000000
set_option maxRecDepth 100000
open Go.RowKit
theorem agg4 {a b c d a' b' c' d':Value} (h:Value.agg #[a,b,c,d]=.agg #[a',b',c',d']):a=a'∧b=b'∧c=c'∧d=d':=by simpa using h
theorem nodes_kid {k:Ex}:∀ {ks:List Ex},k ∈ ks→nodes k≤nodesL ks
 | x :: xs,h=>by
  rw[nodesL]
  rcases List.mem_cons.1 h with rfl | h
  ·omega
  ·have:=nodes_kid h;omega
def KRoom (w:World) (d:Nat) (ks:List Ex) (r:Int) (j:Nat) (n:Int) (wr:World):Prop :=
 roomL d n (ks.drop j)=r∧-1≤n∧n≤128∧Below w.heap.size w wr
section
theorem room_all:∀ (F:Nat) (e:Ex),nodes e≤F→∀ (v:Value) (S:Nat→Prop) (w:World) (d:Nat) (n:Int),ExIn w S e v→EnvP w→1≤d→d≤25→-1≤n→n≤128 →
  Calls prog 74 #[v,.int .i64 (d:Int),.int .i64 n] w fun en w'=>en=.returned (.int .i64 (roomE d n e))∧Below w.heap.size w w'
 | 0,e,hF,_,_,_,_,_,_,_,_,_,_,_=>absurd hF (by have:=nodes_pos e;omega)
 | F+1,.mk op m s ks,hF,v,S,w,d,n,hv,hE,hd1,hd2,hn1,hn2=>by
  have IH:=room_all F
  have hvv:=hv
  obtain⟨ao,cap,rfl,h2,h3,hr,hk⟩:=hv.get
  unfold Ex.op Ex.num Ex.str Ex.kids at *
  dsimp only at *
  have hX:=four_new w (.int .i64 op) (.int .i64 m) (.string ⟨s.toArray⟩) (.slice ao ks.length cap) 24
  have hbX:=below_alloc w (.cells #[.int .i64 op,.int .i64 m,.string ⟨s.toArray⟩,.slice ao ks.length cap] 24)
  have hEX:=hE.later hbX
  have hvX:=hvv.later hbX
  obtain⟨wX,hwX⟩:∃ wX,w.alloc (.cells #[.int .i64 op,.int .i64 m,.string ⟨s.toArray⟩,.slice ao ks.length cap] 24)=wX:=⟨_,rfl⟩
  rw[hwX] at hX hbX hEX hvX
  have hX':=hX
  obtain⟨-,x0,x1,x2,x3,-⟩:=hX'
  have cP:=part_any _ _ S wX hEX hvX
  rw[roomE]
  by_cases hn:n - 1<0
  ·rw[if_pos (.inl hn)]
   clear IH hX hvv
   go_enter func74,ntmps74
   go_wp2_with fail
   exact bodyPost_ret (v:=.int .i64 (-1)) (by simp[results,results74,go_sem]) rfl ⟨rfl,hbX⟩
  by_cases hd:24<d
  ·rw[if_pos (.inr (.inl hd))]
   have hdz:(24:Int)<(d:Int):=by omega
   clear IH hX hvv
   go_enter func74,ntmps74
   go_wp2_with fail
   exact bodyPost_ret (v:=.int .i64 (-1)) (by simp[results,results74,go_sem]) rfl ⟨rfl,hbX⟩
  have hdz:¬ (24:Int)<(d:Int):=by omega
  cases hp:partB (.mk op m s ks) with
  | false =>
   rw[if_pos (.inr (.inr rfl))]
   rw[hp] at cP
   clear IH hX hvv
   go_enter func74,ntmps74
   go_wp2_with fail
   refine cP.mono ?_
   rintro e w1 ⟨rfl,b1⟩
   go_wp2_with fail
   exact bodyPost_ret (v:=.int .i64 (-1)) (by simp[results,results74,go_sem]) rfl ⟨rfl,below_to hbX b1⟩
  | true =>
   rw[if_neg (by rintro (h | h | h)<;>first | exact hn h | exact hd h | cases h)]
   rw[hp] at cP
   clear hvv
   go_enter func74,ntmps74
   go_wp2_with fail
   refine cP.mono ?_
   rintro e w1 ⟨rfl,b1⟩
   have hb1:=below_to hbX b1
   obtain⟨hlt,y0,y1,y2,y3,-⟩:=hX.later b1
   have HR:Hid (KRoom w (d+1) ks (roomL (d+1) (n - 1) ks) 0 (n - 1) w1):=hid ⟨rfl,by omega,by omega,hb1⟩
   have HE:=hid hE
   have HK:=hid hk
   clear hX hbX hEX hvX x0 x1 x2 x3 cP hb1 b1 hE hk hwX
   go_wp2_with fail
   go_loopg [2,25] (ks.length) (fun a s2 s25 wr=>∃ (j:Nat) (nn:Int),j+a=ks.length∧s25=.int .i64 (j:Int)∧s2=.int .i64 nn∧Hid (KRoom w (d+1) ks (roomL (d+1) (n - 1) ks) j nn wr))
   case atStart=>exact⟨0,n - 1,by omega,rfl,rfl,HR⟩
   case round =>
    obtain⟨j,nn,hja,rfl,rfl,HW⟩:=hrel
    clear HR
    have HJ:=hid hja
    by_cases hjk:j<ks.length
    ·have hjz:(j:Int)<(ks.length:Int):=by omega
     obtain⟨g,o,rfl,hS,hg,hrow⟩:=HK.out (by omega)
     obtain⟨e1,e2,e3,hB⟩:=HW.out
     have hx:ks[j]?=some ks[j]:=List.getElem?_eq_getElem hjk
     have hrow2:=RowIn.stays (.of hB) ks g o hS hg hrow
     obtain⟨v0,v1,v2,v3,c0,c1,c2,c3,he⟩:=hrow2.at hx
     obtain⟨ao2,cap2,hev,-⟩:=he.get
     obtain⟨rfl,rfl,rfl,rfl⟩:=agg4 hev
     clear hev
     have hgr:g<wr.heap.size:=Nat.lt_of_lt_of_le hg hB.size
     have hbA:=below_alloc wr (.cells #[.int .i64 ks[j].op,.int .i64 ks[j].num,.string ⟨ks[j].str.toArray⟩,.slice ao2 ks[j].kids.length cap2] 24)
     have hA:=four_new wr (.int .i64 ks[j].op) (.int .i64 ks[j].num) (.string ⟨ks[j].str.toArray⟩) (.slice ao2 ks[j].kids.length cap2) 24
     have hbT:=hB.alloc hB.size (.cells #[.int .i64 ks[j].op,.int .i64 ks[j].num,.string ⟨ks[j].str.toArray⟩,.slice ao2 ks[j].kids.length cap2] 24)
     have hkn:nodes ks[j]≤F:=by
      have:=nodes_kid (List.getElem_mem hjk)
      rw[nodes] at hF
      omega
     have cI:=IH ks[j] hkn _ S _ (d+1) nn (he.later hbA) (HE.out.later hbT) (by omega) (by omega) e2 e3
     rw[Int.natCast_add,Int.natCast_one] at cI
     have hres:=roomE_ge ks[j] (d+1) nn
     have hst:roomL (d+1) (roomE (d+1) nn ks[j]) (ks.drop (j+1))=roomL (d+1) (n - 1) ks:=by
      rw[← e1,List.drop_eq_getElem_cons hjk,roomL]
     have HST:=hid hst
     have HBT:=hid hbT
     obtain⟨-,z0,z1,z2,z3,-⟩:=hA
     clear HW hrow hrow2 he hbA hbT hB HK hja e1 hst hx IH
     go_wp2_with fail
     refine cI.mono ?_
     rintro en w2 ⟨rfl,b2⟩
     clear cI
     go_wp2_with fail
     go_roundg (ks.length - (j+1))
     case measure=>have:=HJ.out;omega
     case rel=>exact⟨j+1,_,by have:=HJ.out;omega,by go_num,rfl,hid ⟨HST.out,hres.1,by have:=hres.2.2;omega,below_to HBT.out b2⟩⟩
    ·have hjz:¬ (j:Int)<(ks.length:Int):=by omega
     obtain⟨e1,e2,e3,hB⟩:=HW.out
     have hj:j=ks.length:=by have:=HJ.out;omega
     have HB:=hid hB
     have HN:Hid (nn=roomL (d+1) (n - 1) ks):=hid (by rw[← e1,hj,List.drop_length,roomL])
     clear HW HK hja e1 IH hj hB
     go_wp2_with fail
     exact bodyPost_ret (v:=.int .i64 nn) (by simp[results,results74,go_sem]) rfl ⟨by rw[HN.out],HB.out⟩
end
theorem pcheck_any (e:Ex) (v:Value) (S:Nat→Prop) (w:World) (hE:EnvP w) (hv:ExIn w S e v) :
  Calls prog 33 #[v] w fun en w'=>en=.returned (.bool (chkB e))∧Below w.heap.size w w':=by
 obtain⟨ao,cap,rfl,h2,h3,hr,hk⟩:=hv.get
 have hX:=four_new w (.int .i64 e.op) (.int .i64 e.num) (.string ⟨e.str.toArray⟩) (.slice ao e.kids.length cap) 24
 have hbX:=below_alloc w (.cells #[.int .i64 e.op,.int .i64 e.num,.string ⟨e.str.toArray⟩,.slice ao e.kids.length cap] 24)
 have c:=room_all (nodes e) e (Nat.le_refl _) _ S _ 1 128 (hv.later hbX) (hE.later hbX) (by omega) (by omega) (by omega) (by omega)
 rw[show ((1:Nat):Int)=1 from rfl] at c
 have hc:=room_chk e
 obtain⟨wX,hwX⟩:∃ wX,w.alloc (.cells #[.int .i64 e.op,.int .i64 e.num,.string ⟨e.str.toArray⟩,.slice ao e.kids.length cap] 24)=wX:=⟨_,rfl⟩
 rw[hwX] at hX hbX c
 obtain⟨-,x0,x1,x2,x3,-⟩:=hX
 clear hk hv
 go_enter func33,ntmps33
 go_wp2_with fail
 refine c.mono ?_
 rintro en w1 ⟨rfl,b1⟩
 go_wp2_with fail
 all_goals
  go_ret
  exact⟨ret_bool (by rw[Bool.eq_iff_iff,← hc];first | done | simp),below_to hbX b1⟩
end
end Go.Proofs.YtbbblmedoagncaaGreatDoor
