/- V3, VCheck, VBox, VRefCheck, Cnt, ChkM, RPl -/
import Derived.Test.YtbbblmedoagncaaGreatDoorSGB
import Derived.Test.YtbbblmedoagncaaGreatDoorSGE
import Derived.Test.YtbbblmedoagncaaGreatDoorSGO
import Derived.Test.YtbbblmedoagncaaGreatDoorSGJ
import Derived.Test.YtbbblmedoagncaaGreatDoorSGG
import Derived.KernelRfl
namespace Go.Proofs.YtbbblmedoagncaaGreatDoor
section
abbrev V3 (K n:Int) (s:ByteArray):Value:=.agg #[.int .i64 K,.int .i64 n,.string s]
end
section
open Lib (hid)
open _root_.Go.Proofs.Tryz
set_option maxHeartbeats 4000000
set_option maxRecDepth 100000
open Go.RowKit
theorem check_text (s:ByteArray) (w:World) (hs:s.size<9223372036854775807) (hT:Tabs w) :
  Calls prog 102 #[V3 3 0 s] w fun e w'=>e=.returned (.bool (checkB 3 0 s.data.toList))∧Below w.heap.size w w':=by
 have hC:checkB 3 0 s.data.toList=(validL s.data.toList && decide (countL s.data.toList≤100)):=by simp[checkB]
 rw[hC];clear hC
 have cN:∀ w,Calls prog 117 #[.string s] w fun e w'=>e=.returned (.int .i64 ((countL s.data.toList:Nat):Int))∧Below w.heap.size w w':=fun w=>by
  have:=count_any s w hs;rwa [runeCount_eq] at this
 obtain⟨Z,hZ⟩:∃ Z,validL s.data.toList=Z:=⟨_,rfl⟩
 obtain⟨N,hN⟩:∃ N,countL s.data.toList=N:=⟨_,rfl⟩
 have cV:=fun w (hT:Tabs w)=>valid_any s w (by omega) hT
 rw[hZ] at cV ⊢
 rw[hN] at cN ⊢
 have hb0:Below w.heap.size w (w.alloc (.cells #[.int .i64 3,.int .i64 0,.string s] 39)):=(Below.refl _ _).alloc (Nat.le_refl _) _
 have hT1:Tabs (w.alloc (.cells #[.int .i64 3,.int .i64 0,.string s] 39)):=hT.later hb0
 clear hZ hN
 cases Z
 ·go_enter func102,ntmps102
  go_wp2_with fail
  refine (cV _ hT1).mono ?_
  rintro e w1 ⟨rfl,hb1⟩
  go_wp2
  go_ret
  exact⟨rfl,hb0.trans (hb1.mono (by simp))⟩
 ·go_enter func102,ntmps102
  go_wp2_with fail
  refine (cV _ hT1).mono ?_
  rintro e w1 ⟨rfl,hb1⟩
  have hb2:=hb0.trans (hb1.mono (by simp))
  have hc:w1.cell? ⟨w.heap.size,2,none⟩=some (.string s):=by
   rw[hb1.cell (p:=⟨w.heap.size,2,none⟩) (by simp),cells_of_alloc];rfl
  clear hb1 hb0
  go_wp2_with fail
  refine (cN _).mono ?_
  rintro e w2 ⟨rfl,hb3⟩
  go_wp2
  go_ret
  refine⟨ret_bool ?_,hb2.trans (hb3.mono hb2.size)⟩
  rw[Bool.true_and];exact decide_eq_decide.2 (by omega)
theorem check_any (K n : Int) (s : ByteArray) (w : World) (hs : s.size < 9223372036854775807) (hT : Tabs w) :
    Calls prog 102 #[V3 K n s] w fun e w' => e = .returned (.bool (checkB K n s.data.toList)) ∧ Below w.heap.size w w' := by
  by_cases h3 : K = 3 ∧ n = 0
  · obtain ⟨rfl, rfl⟩ := h3
    exact check_text s w hs hT
  obtain ⟨V, hV⟩ : ∃ V, checkB K n s.data.toList = V := ⟨_, rfl⟩
  rw [hV]
  have HV := hid hV
  have H3 := hid h3
  clear hV h3
  go_enter func102, ntmps102
  go_wp2_with fail
  all_goals simp only [beq_iff_eq, beq_eq_false_iff_ne, ne_eq] at *
  all_goals first
    | (exfalso; exact H3.out ⟨by assumption, by assumption⟩)
    | (go_ret
       refine ⟨ret_bool ?_, (Below.refl _ _).alloc (Nat.le_refl _) _⟩
       rw [← HV.out]
       first
         | (simp_all [checkB, emp]; done)
         | (simp_all [checkB]; omega))
end
section
open Lib (hid)
open _root_.Go.Proofs.Tryz
set_option maxHeartbeats 2000000
set_option maxRecDepth 100000
open Go.RowKit
theorem not_nil (w:World) (u:TypeId) (v:Value):(binOp .eql 20 (.iface u v) .nilIface).run prog w=.ok (.bool false) w:=by kernel_rfl
theorem is_nil (w:World):(binOp .eql 20 .nilIface .nilIface).run prog w=.ok (.bool true) w:=by kernel_rfl
theorem zeroN (w:World):(do pure (Value.tuple #[← zeroValue 2,.bool false]):Sem Value).run prog w=.ok (.tuple #[.int .i64 0,.bool false]) w:=by kernel_rfl
theorem zeroB (w:World):(do pure (Value.tuple #[← zeroValue 4,.bool false]):Sem Value).run prog w=.ok (.tuple #[.bool false,.bool false]) w:=by kernel_rfl
theorem zeroS (w:World):(do pure (Value.tuple #[← zeroValue 9,.bool false]):Sem Value).run prog w=.ok (.tuple #[.string ⟨#[]⟩,.bool false]) w:=by kernel_rfl
theorem zeroV (w:World):(do pure (Value.tuple #[← zeroValue 39,.bool false]):Sem Value).run prog w=.ok (.tuple #[V3 0 0 ⟨#[]⟩,.bool false]) w:=by kernel_rfl
theorem asN_yes (w:World) (v:Value):(Instr.typeAssert (.iface 2 v) 20 2 true).run prog w=.ok (.tuple #[v,.bool true]) w:=by kernel_rfl
theorem asB_yes (w:World) (v:Value):(Instr.typeAssert (.iface 4 v) 20 4 true).run prog w=.ok (.tuple #[v,.bool true]) w:=by kernel_rfl
theorem asS_yes (w:World) (v:Value):(Instr.typeAssert (.iface 9 v) 20 9 true).run prog w=.ok (.tuple #[v,.bool true]) w:=by kernel_rfl
theorem asV_yes (w:World) (v:Value):(Instr.typeAssert (.iface 39 v) 20 39 true).run prog w=.ok (.tuple #[v,.bool true]) w:=by kernel_rfl
theorem asN_no (w:World) (u:TypeId) (v:Value) (h:u≠2):(Instr.typeAssert (.iface u v) 20 2 true).run prog w=.ok (.tuple #[.int .i64 0,.bool false]) w:=by
 have e:(Instr.typeAssert (.iface u v) 20 2 true).run prog w=(if u=2 then (pure (Value.tuple #[v,.bool true]):Sem Value) else (do pure (Value.tuple #[← zeroValue 2,.bool false]))).run prog w:=by kernel_rfl
 rw[e,if_neg h];exact zeroN w
theorem asB_no (w:World) (u:TypeId) (v:Value) (h:u≠4):(Instr.typeAssert (.iface u v) 20 4 true).run prog w=.ok (.tuple #[.bool false,.bool false]) w:=by
 have e:(Instr.typeAssert (.iface u v) 20 4 true).run prog w=(if u=4 then (pure (Value.tuple #[v,.bool true]):Sem Value) else (do pure (Value.tuple #[← zeroValue 4,.bool false]))).run prog w:=by kernel_rfl
 rw[e,if_neg h];exact zeroB w
theorem asS_no (w:World) (u:TypeId) (v:Value) (h:u≠9):(Instr.typeAssert (.iface u v) 20 9 true).run prog w=.ok (.tuple #[.string ⟨#[]⟩,.bool false]) w:=by
 have e:(Instr.typeAssert (.iface u v) 20 9 true).run prog w=(if u=9 then (pure (Value.tuple #[v,.bool true]):Sem Value) else (do pure (Value.tuple #[← zeroValue 9,.bool false]))).run prog w:=by kernel_rfl
 rw[e,if_neg h];exact zeroS w
theorem asV_no (w:World) (u:TypeId) (v:Value) (h:u≠39):(Instr.typeAssert (.iface u v) 20 39 true).run prog w=.ok (.tuple #[V3 0 0 ⟨#[]⟩,.bool false]) w:=by
 have e:(Instr.typeAssert (.iface u v) 20 39 true).run prog w=(if u=39 then (pure (Value.tuple #[v,.bool true]):Sem Value) else (do pure (Value.tuple #[← zeroValue 39,.bool false]))).run prog w:=by kernel_rfl
 rw[e,if_neg h];exact zeroV w
theorem asN_nil (w:World):(Instr.typeAssert .nilIface 20 2 true).run prog w=.ok (.tuple #[.int .i64 0,.bool false]) w:=by kernel_rfl
theorem asB_nil (w:World):(Instr.typeAssert .nilIface 20 4 true).run prog w=.ok (.tuple #[.bool false,.bool false]) w:=by kernel_rfl
theorem asS_nil (w:World):(Instr.typeAssert .nilIface 20 9 true).run prog w=.ok (.tuple #[.string ⟨#[]⟩,.bool false]) w:=by kernel_rfl
theorem asV_nil (w:World):(Instr.typeAssert .nilIface 20 39 true).run prog w=.ok (.tuple #[V3 0 0 ⟨#[]⟩,.bool false]) w:=by kernel_rfl
def b01 (b:Bool):Int:=if b then 1 else 0
inductive Opens:Value→Int→Int→ByteArray→Bool→Prop where
 | nil:Opens .nilIface 0 0 ⟨#[]⟩ true
 | num (n:Int):Opens (.iface 2 (.int .i64 n)) 1 n ⟨#[]⟩ true
 | truth (b:Bool):Opens (.iface 4 (.bool b)) 2 (b01 b) ⟨#[]⟩ true
 | text (s:ByteArray):Opens (.iface 9 (.string s)) 3 0 s true
 | val (K n:Int) (s:ByteArray):Opens (.iface 39 (V3 K n s)) K n s (K == 4)
 | other (u:TypeId) (v:Value) (h1:u≠2) (h2:u≠4) (h3:u≠9) (h4:u≠39):Opens (.iface u v) 0 0 ⟨#[]⟩ false
theorem truth_any (b:Bool) (w:World) :
  Calls prog 187 #[.bool b] w fun e w'=>e=.returned (V3 2 (b01 b) ⟨#[]⟩)∧Below w.heap.size w w':=by
 cases b
 ·go_enter func187,ntmps187
  go_wp2
  exact bodyPost_ret (v:=V3 2 0 ⟨#[]⟩) (by simp[results,results187,go_sem]) rfl ⟨rfl,((Below.refl _ _).alloc (Nat.le_refl _) _).alloc (by simp) _⟩
 ·go_enter func187,ntmps187
  go_wp2
  exact bodyPost_ret (v:=V3 2 1 ⟨#[]⟩) (by simp[results,results187,go_sem]) rfl ⟨rfl,((Below.refl _ _).alloc (Nat.le_refl _) _).alloc (by simp) _⟩
theorem opened_any (x:Value) (K n:Int) (s:ByteArray) (ok:Bool) (h:Opens x K n s ok) (w:World) :
  Calls prog 101 #[x] w fun e w'=>e=.returned (.tuple #[V3 K n s,.bool ok])∧Below w.heap.size w w':=by
 cases h with
 | nil =>
  go_enter func101,ntmps101
  go_wp2
  exact bodyPost_ret (v:=.tuple #[V3 0 0 ⟨#[]⟩,.bool true]) (by simp[results,results101,go_sem]) rfl ⟨rfl,(Below.refl _ _).alloc (Nat.le_refl _) _⟩
 | num n =>
  have h0:=not_nil w 2 (.int .i64 n)
  have h1:=fun w=>asN_yes w (.int .i64 n)
  go_enter func101,ntmps101
  go_wp2
  exact bodyPost_ret (v:=.tuple #[V3 1 n ⟨#[]⟩,.bool true]) (by simp[results,results101,go_sem]) rfl ⟨rfl,(Below.refl _ _).alloc (Nat.le_refl _) _⟩
 | truth b =>
  have h0:=fun w=>not_nil w 4 (.bool b)
  have h1:=fun w=>asN_no w 4 (.bool b) (by decide)
  have h2:=fun w=>asB_yes w (.bool b)
  go_enter func101,ntmps101
  go_wp2_with fail
  refine (truth_any b _).mono ?_
  rintro e w1 ⟨rfl,hb1⟩
  have hb0:=below_to (below_alloc w _) hb1
  obtain⟨hz,c0,c1,c2,f0,f1,f2⟩:=three_later hb1
  clear hb1 h0 h1 h2
  go_wp2
  exact bodyPost_ret (v:=.tuple #[V3 2 (b01 b) ⟨#[]⟩,.bool true]) (by simp[results,results101,go_sem,c0,c1,c2]) rfl ⟨rfl,((hb0.setCell (p:=⟨w.heap.size,0,none⟩) (Nat.le_refl _) _).setCell (p:=⟨w.heap.size,1,none⟩) (Nat.le_refl _) _).setCell (p:=⟨w.heap.size,2,none⟩) (Nat.le_refl _) _⟩
 | text s =>
  have h0:=fun w=>not_nil w 9 (.string s)
  have h1:=fun w=>asN_no w 9 (.string s) (by decide)
  have h2:=fun w=>asB_no w 9 (.string s) (by decide)
  have h3:=fun w=>asS_yes w (.string s)
  go_enter func101,ntmps101
  go_wp2
  exact bodyPost_ret (v:=.tuple #[V3 3 0 s,.bool true]) (by simp[results,results101,go_sem]) rfl ⟨rfl,(Below.refl _ _).alloc (Nat.le_refl _) _⟩
 | val K n s =>
  have h0:=fun w=>not_nil w 39 (V3 K n s)
  have h1:=fun w=>asN_no w 39 (V3 K n s) (by decide)
  have h2:=fun w=>asB_no w 39 (V3 K n s) (by decide)
  have h3:=fun w=>asS_no w 39 (V3 K n s) (by decide)
  have h4:=fun w=>asV_yes w (V3 K n s)
  go_enter func101,ntmps101
  go_wp2
  go_region
  all_goals
   go_wp2
   exact bodyPost_ret (v:=.tuple #[V3 K n s,.bool (K == 4)]) (by simp[results,results101,go_sem]) rfl ⟨rfl,((below_alloc w _).alloc (by simp) _).drew⟩
 | other u v g1 g2 g3 g4 =>
  have h0:=fun w=>not_nil w u v
  have h1:=fun w=>asN_no w u v g1
  have h2:=fun w=>asB_no w u v g2
  have h3:=fun w=>asS_no w u v g3
  have h4:=fun w=>asV_no w u v g4
  go_enter func101,ntmps101
  go_wp2
  exact bodyPost_ret (v:=.tuple #[V3 0 0 ⟨#[]⟩,.bool false]) (by simp[results,results101,go_sem]) rfl ⟨rfl,(Below.refl _ _).alloc (Nat.le_refl _) _⟩
def Boxd (x:Value) (K n:Int) (s:ByteArray):Prop:=Opens x K n s true∧checkB K n s.data.toList=true∧s.size<9223372036854775807
theorem unbox_yes (x:Value) (K n:Int) (s:ByteArray) (h:Boxd x K n s) (w:World) (hT:Tabs w) :
  Calls prog 48 #[x] w fun e w'=>e=.returned (.tuple #[V3 K n s,.bool true])∧Below w.heap.size w w':=by
 obtain⟨ho,hc,hs⟩:=h
 have cO:=opened_any x K n s true ho
 have cC:=fun w (hT:Tabs w)=>check_any K n s w hs hT
 rw[hc] at cC
 clear ho hc
 go_enter func48,ntmps48
 go_wp2_with fail
 refine (cO _).mono ?_
 rintro e w1 ⟨rfl,hb1⟩
 have hb0:=below_to (below_alloc w _) hb1
 have h3:=three_later hb1
 clear hb1 cO
 have hb2:=hb0.alloc hb0.size (.cells #[.int .i64 K,.int .i64 n,.string s] 39)
 have hT2:Tabs (w1.alloc (.cells #[.int .i64 K,.int .i64 n,.string s] 39)):=hT.later hb2
 go_wp2_with fail
 refine (cC _ hT2).mono ?_
 rintro e w2 ⟨rfl,hb3⟩
 have hb4:=below_to hb2 hb3
 obtain⟨hz2,d0,d1,d2,g0,g1,g2⟩:=three_later hb3
 obtain⟨hz,e0,e1,e2,z0,z1,z2⟩:=(h3.alloc _).later hb3
 have hne:¬ w1.heap.size=w.heap.size:=by have:=h3.lt;omega
 clear hb3 hb0 hb2 hT2 cC h3
 go_wp2
 exact bodyPost_ret (v:=.tuple #[V3 K n s,.bool true]) (by simp[results,results48,go_sem,e0,e1,e2]) rfl ⟨rfl,((hb4.setCell (p:=⟨w.heap.size,0,none⟩) (Nat.le_refl _) _).setCell (p:=⟨w.heap.size,1,none⟩) (Nat.le_refl _) _).setCell (p:=⟨w.heap.size,2,none⟩) (Nat.le_refl _) _⟩
def boxV (K n:Int) (s:ByteArray):Value :=
 if checkB K n s.data.toList=true then (if K=1 then .iface 2 (.int .i64 n) else if K=2 then .iface 4 (.bool (n == 1)) else if K=3 then .iface 9 (.string s) else if K=4 then .iface 39 (V3 K n s) else .nilIface) else .nilIface
theorem box_any (K n:Int) (s:ByteArray) (w:World) (hs:s.size<9223372036854775807) (hT:Tabs w) :
  Calls prog 190 #[V3 K n s] w fun e w'=>e=.returned (boxV K n s)∧Below w.heap.size w w':=by
 have hb0:=below_alloc w (.cells #[.int .i64 K,.int .i64 n,.string s] 39)
 have cC:=check_any K n s _ hs (hT.later hb0)
 unfold boxV
 obtain⟨Z,hZ⟩:∃ Z,checkB K n s.data.toList=Z:=⟨_,rfl⟩
 rw[hZ] at cC ⊢
 clear hZ hT
 cases Z
 ·go_enter func190,ntmps190
  go_wp2_with fail
  refine cC.mono ?_
  rintro e w1 ⟨rfl,hb1⟩
  have hb2:=below_to hb0 hb1
  clear hb1 hb0 cC
  go_wp2
  go_ret
  exact⟨by simp,hb2⟩
 ·rw[if_pos rfl]
  obtain⟨X,hX⟩:∃ X:Value,(if K=1 then .iface 2 (.int .i64 n) else if K=2 then .iface 4 (.bool (n == 1)) else if K=3 then .iface 9 (.string s) else if K=4 then .iface 39 (V3 K n s) else .nilIface)=X:=⟨_,rfl⟩
  rw[hX]
  have HX:=hid hX
  clear hX
  go_enter func190,ntmps190
  go_wp2_with fail
  refine cC.mono ?_
  rintro e w1 ⟨rfl,hb1⟩
  have hb2:=below_to hb0 hb1
  obtain⟨hz,e0,e1,e2,z0,z1,z2⟩:=three_later hb1
  clear hb1 hb0 cC
  go_wp2
  all_goals simp only[beq_iff_eq,beq_eq_false_iff_ne,ne_eq] at *
  all_goals
   go_ret
   refine⟨?_,hb2⟩
   rw[← HX.out]
   simp[*]
end
section
open Lib (hid)
open _root_.Go.Proofs.Tryz
set_option maxHeartbeats 4000000
set_option maxRecDepth 100000
open Go.RowKit
theorem pcs_four (l:List UInt8):l.length≤4 * (pcs l).length:=by
 induction l using pcs_induct with
 | h0=>simp
 | h1 l hne ih =>
  have hw:(Lib.decodeL l).2≤4:=by
   rw[Lib.decodeL_N]
   rcases Lib.decodeN_shape l.length (l.getD 0 0).toNat (l.getD 1 0).toNat (l.getD 2 0).toNat (l.getD 3 0).toNat with ⟨c,e⟩ | ⟨a1,a2,a3,av,e⟩ | ⟨a1,a2,a3,a4,av,asr,e⟩ | ⟨a1,a2,a3,a4,a5,av,aw,e⟩ | e
   all_goals rw[e];dsimp only;omega
  rw[pcs_step l hne,List.length_cons]
  rw[List.length_drop] at ih
  omega
theorem count_len (s:ByteArray) (h:countL s.data.toList≤100):s.size≤400:=by
 have:=pcs_four s.data.toList
 unfold countL at h
 rw[size_list] at this;omega
theorem refCheck_text (s:ByteArray) (w:World) :
  Calls prog 150 #[V3 3 0 s] w fun e w'=>e=.returned (.bool (checkB 3 0 s.data.toList))∧Below w.heap.size w w':=by
 have hC:checkB 3 0 s.data.toList=(validL s.data.toList && decide (countL s.data.toList≤100)):=by simp[checkB]
 have hb0:Below w.heap.size w (w.alloc (.cells #[.int .i64 3,.int .i64 0,.string s] 39)):=(Below.refl _ _).alloc (Nat.le_refl _) _
 by_cases hlen:s.size≤400
 ·have hlz:decide ((s.size:Int)≤400)=true:=by simp;omega
  have cN:∀ w,Calls prog 212 #[.string s] w fun e w'=>e=.returned (.int .i64 ((countL s.data.toList:Nat):Int))∧Below w.heap.size w w':=fun w=>refCount_any s w (by omega)
  have cV:=fun w=>refValid_any s w (by omega)
  rw[hC];clear hC
  obtain⟨Z,hZ⟩:∃ Z,validL s.data.toList=Z:=⟨_,rfl⟩
  obtain⟨N,hN⟩:∃ N,countL s.data.toList=N:=⟨_,rfl⟩
  rw[hZ] at cV ⊢
  rw[hN] at cN ⊢
  clear hZ hN
  cases Z
  ·go_enter func150,ntmps150
   go_wp2_with fail
   refine (cV _).mono ?_
   rintro e w1 ⟨rfl,hb1⟩
   go_wp2
   go_ret
   exact⟨rfl,hb0.trans (hb1.mono (by simp))⟩
  ·go_enter func150,ntmps150
   go_wp2_with fail
   refine (cV _).mono ?_
   rintro e w1 ⟨rfl,hb1⟩
   have hb2:=hb0.trans (hb1.mono (by simp))
   have hc:w1.cell? ⟨w.heap.size,2,none⟩=some (.string s):=by
    rw[hb1.cell (p:=⟨w.heap.size,2,none⟩) (by simp),cells_of_alloc];rfl
   clear hb1 hb0
   go_wp2_with fail
   refine (cN _).mono ?_
   rintro e w2 ⟨rfl,hb3⟩
   go_wp2
   go_ret
   refine⟨ret_bool ?_,hb2.trans (hb3.mono hb2.size)⟩
   rw[Bool.true_and];exact decide_eq_decide.2 (by omega)
 ·have hF:checkB 3 0 s.data.toList=false:=by
   rw[hC,Bool.and_eq_false_iff];right
   exact decide_eq_false (fun h=>hlen (count_len s h))
  rw[hF]
  clear hC hF
  have hlz:¬ ((s.size:Int)≤400):=by omega
  go_enter func150,ntmps150
  go_wp2
  go_ret
  exact⟨rfl,hb0⟩
theorem refCheck_any (K n : Int) (s : ByteArray) (w : World) :
    Calls prog 150 #[V3 K n s] w fun e w' => e = .returned (.bool (checkB K n s.data.toList)) ∧ Below w.heap.size w w' := by
  by_cases h3 : K = 3 ∧ n = 0
  · obtain ⟨rfl, rfl⟩ := h3
    exact refCheck_text s w
  obtain ⟨V, hV⟩ : ∃ V, checkB K n s.data.toList = V := ⟨_, rfl⟩
  rw [hV]
  have HV := hid hV
  have H3 := hid h3
  clear hV h3
  by_cases hn : n = 0
  · subst hn
    have hk3 : (K == 3) = false := beq_eq_false_iff_ne.2 (fun h => H3.out ⟨h, rfl⟩)
    go_enter func150, ntmps150
    go_wp2_with fail
    all_goals simp only [beq_iff_eq, beq_eq_false_iff_ne, ne_eq] at *
    all_goals
      (go_ret
       refine ⟨ret_bool ?_, (Below.refl _ _).alloc (Nat.le_refl _) _⟩
       rw [← HV.out]
       first
         | (simp_all [checkB, emp]; done)
         | (simp_all [checkB]; omega))
  · go_enter func150, ntmps150
    go_wp2_with fail
    all_goals simp only [beq_iff_eq, beq_eq_false_iff_ne, ne_eq] at *
    all_goals
      (go_ret
       refine ⟨ret_bool ?_, (Below.refl _ _).alloc (Nat.le_refl _) _⟩
       rw [← HV.out]
       first
         | (simp_all [checkB, emp]; done)
         | (simp_all [checkB]; done)
         | (simp_all [checkB]; omega))
end
section
open Go.RowKit
def Cnt (w:World) (g:Nat) (n:Int):Prop:=w.heap[g]?=some (.cells #[.int .i64 n] 3 (0,0))
theorem Cnt.lt {w:World} {g:Nat} {n:Int} (h:Cnt w g n):g<w.heap.size:=(Array.getElem?_eq_some_iff.1 h).1
theorem Cnt.cell {w:World} {g:Nat} {n:Int} (h:Cnt w g n):w.cell? ⟨g,0,none⟩=some (.int .i64 n):=by rw[cell_of_row w g 0 _ _ _ h];rfl
theorem Cnt.fr {w:World} {g:Nat} {n:Int} (h:Cnt w g n):w.frozen? ⟨g,0,none⟩=false:=by simp[World.frozen?,show w.heap[g]?=_ from h]
theorem Cnt.set {w:World} {g:Nat} {n:Int} (h:Cnt w g n) (m:Int):Cnt (w.setCell ⟨g,0,none⟩ (.int .i64 m)) g m:=by unfold Cnt;rw[heap_setCell_same w g 0 _ _ _ h];rfl
theorem Cnt.later {w w':World} {g:Nat} {n:Int} (h:Cnt w g n) (hb:Below w.heap.size w w'):Cnt w' g n:=by unfold Cnt;rw[hb.block g h.lt];exact h
end
section
def lookE (m:Int) (d:Nat) (e:Ex):Bool:=decide (m+(nodes e:Int)≤128) && (decide (d+deepE e≤25) && allB e)
def lookL (hk:Bool) (m:Int) (d:Nat) (es:List Ex):Bool:=decide (m+(nodesL es:Int)≤128) && (decide (d+deepL es≤25) && (allBL es && (!hk || es.all fun k=>k.op == 4)))
theorem lookL_nil (hk:Bool) (m:Int) (d:Nat) (hm:m≤128) (hd:d≤25):lookL hk m d []=true:=by
 simp[lookL,nodesL,deepL,allBL,hm,hd]
theorem lookL_has {m:Int} {d:Nat} {e:Ex} {es:List Ex} (h:e.op≠4):lookL true m d (e :: es)=false:=by
 unfold lookL
 simp[beq_eq_false_iff_ne.2 h]
theorem lookL_no {hk:Bool} {m:Int} {d:Nat} {e:Ex} {es:List Ex} (h:lookE m d e=false):lookL hk m d (e :: es)=false:=by
 cases hl:lookL hk m d (e :: es) with
 | false=>rfl
 | true =>
  exfalso
  unfold lookL at hl
  unfold lookE at h
  rw[nodesL,deepL,allBL] at hl
  simp only[Bool.and_eq_true,decide_eq_true_eq] at hl
  obtain⟨h1,h2,⟨h3,h4⟩,h5⟩:=hl
  rw[decide_eq_true (show m+(nodes e:Int)≤128 by push_cast at h1;omega),decide_eq_true (show d+deepE e≤25 by omega),h3] at h
  simp at h
theorem lookL_yes {hk:Bool} {m:Int} {d:Nat} {e:Ex} {es:List Ex} (h:lookE m d e=true) (ho:hk=false∨e.op=4):lookL hk m d (e :: es)=lookL hk (m+(nodes e:Int)) d es:=by
 unfold lookE at h
 simp only[Bool.and_eq_true,decide_eq_true_eq] at h
 obtain⟨h1,h2,h3⟩:=h
 unfold lookL
 rw[nodesL,deepL,allBL,h3,Bool.true_and,List.all_cons]
 have e1:decide (m+((nodes e+nodesL es:Nat):Int)≤128)=decide (m+(nodes e:Int)+(nodesL es:Int)≤128):=by
  apply decide_eq_decide.2
  push_cast;omega
 have e2:decide (d+max (deepE e) (deepL es)≤25)=decide (d+deepL es≤25):=by
  apply decide_eq_decide.2
  omega
 rw[e1,e2]
 rcases ho with rfl | ho
 ·simp
 ·rw[ho];simp
theorem lookE_mk (m:Int) (d:Nat) (op n:Int) (s:List UInt8) (ks:List Ex) (_h1:m+1≤128) (_h2:d≤24) (ha:arity op=some ks.length) (hp:plainB op n s=true):lookE m d (.mk op n s ks)=lookL (op == 22) (m+1) (d+1) ks:=by
 unfold lookE lookL
 rw[nodes,deepE,allB]
 unfold partB hasB Ex.op Ex.kids Ex.num Ex.str
 dsimp only
 rw[decide_eq_true ha,hp]
 have e1:decide (m+((nodesL ks+1:Nat):Int)≤128)=decide (m+1+(nodesL ks:Int)≤128):=by
  apply decide_eq_decide.2
  push_cast;omega
 have e2:decide (d+(deepL ks+1)≤25)=decide (d+1+deepL ks≤25):=by
  apply decide_eq_decide.2
  omega
 rw[e1,e2]
 cases h:(op == 22) with
 | false =>
  have:(op != 22)=true:=by simpa using h
  rw[this];simp
 | true =>
  have:(op != 22)=false:=by simpa using h
  rw[this]
  simp[Bool.and_comm]
theorem lookE_bad {m:Int} {d:Nat} {op n:Int} {s:List UInt8} {ks:List Ex} (h:128<m+1∨24<d∨arity op≠some ks.length∨plainB op n s=false):lookE m d (.mk op n s ks)=false:=by
 cases hl:lookE m d (.mk op n s ks) with
 | false=>rfl
 | true =>
  exfalso
  unfold lookE at hl
  rw[nodes,deepE,allB] at hl
  unfold partB Ex.op Ex.kids Ex.num Ex.str at hl
  dsimp only at hl
  simp only[Bool.and_eq_true,decide_eq_true_eq] at hl
  obtain⟨h1,h2,⟨⟨⟨h3,h4⟩,h5⟩,h6⟩⟩:=hl
  rcases h with h | h | h | h
  ·push_cast at h1;omega
  ·omega
  ·exact h h3
  ·rw[h4] at h;cases h
theorem look_chk (e:Ex):lookE 0 1 e=chkB e:=by
 unfold lookE chkB
 have e1:decide ((0:Int)+(nodes e:Int)≤128)=decide (nodes e≤128):=by
  apply decide_eq_decide.2
  omega
 have e2:decide (1+deepE e≤25)=decide (deepE e≤24):=by
  apply decide_eq_decide.2
  omega
 rw[e1,e2,Bool.and_assoc]
end
section
open Lib (hid)
open _root_.Go.Proofs.Tryz
set_option maxHeartbeats 2000000
set_option maxRecDepth 100000
open Go.RowKit
def arityZ (op:Int):Int:=match arity op with
 | none=>-1
 | some k=>(k:Int)
theorem arity_any (op:Int) (w:World):Calls prog 72 #[.int .i64 op] w fun e w'=>e=.returned (.int .i64 (arityZ op))∧w=w':=by
 have:op<1∨23<op∨op=1∨op=2∨op=3∨op=4∨op=5∨op=6∨op=7∨op=8∨op=9∨op=10∨op=11∨op=12∨op=13∨op=14∨op=15∨op=16∨op=17∨op=18∨op=19∨op=20∨op=21∨op=22∨op=23:=by omega
 rcases this with h | h | rfl | rfl | rfl | rfl | rfl | rfl | rfl | rfl | rfl | rfl | rfl | rfl | rfl | rfl | rfl | rfl | rfl | rfl | rfl | rfl | rfl | rfl | rfl
 ·have ha:Hid (arityZ op=-1):=hid (by unfold arityZ arity;rw[if_neg (by omega),if_neg (by omega),if_neg (by omega),if_neg (by omega)])
  have e5:(op == 5)=false:=beq_eq_false_iff_ne.2 (by omega)
  have e6:(op == 6)=false:=beq_eq_false_iff_ne.2 (by omega)
  have e18:(op == 18)=false:=beq_eq_false_iff_ne.2 (by omega)
  have e19:(op == 19)=false:=beq_eq_false_iff_ne.2 (by omega)
  have e20:(op == 20)=false:=beq_eq_false_iff_ne.2 (by omega)
  have e21:(op == 21)=false:=beq_eq_false_iff_ne.2 (by omega)
  have e22:(op == 22)=false:=beq_eq_false_iff_ne.2 (by omega)
  have e23:(op == 23)=false:=beq_eq_false_iff_ne.2 (by omega)
  have g1:¬ (1:Int)≤op:=by omega
  have g2:¬ (7:Int)≤op:=by omega
  clear h
  go_enter func72,ntmps72
  go_wp2_with fail
  go_ret
  exact⟨ret_int ha.out.symm,rfl⟩
 ·have ha:Hid (arityZ op=-1):=hid (by unfold arityZ arity;rw[if_neg (by omega),if_neg (by omega),if_neg (by omega),if_neg (by omega)])
  have e5:(op == 5)=false:=beq_eq_false_iff_ne.2 (by omega)
  have e6:(op == 6)=false:=beq_eq_false_iff_ne.2 (by omega)
  have e18:(op == 18)=false:=beq_eq_false_iff_ne.2 (by omega)
  have e19:(op == 19)=false:=beq_eq_false_iff_ne.2 (by omega)
  have e20:(op == 20)=false:=beq_eq_false_iff_ne.2 (by omega)
  have e21:(op == 21)=false:=beq_eq_false_iff_ne.2 (by omega)
  have e22:(op == 22)=false:=beq_eq_false_iff_ne.2 (by omega)
  have e23:(op == 23)=false:=beq_eq_false_iff_ne.2 (by omega)
  have g1:(1:Int)≤op:=by omega
  have g2:(7:Int)≤op:=by omega
  have g3:¬ op≤4:=by omega
  have g4:¬ op≤17:=by omega
  clear h
  go_enter func72,ntmps72
  go_wp2_with fail
  go_ret
  exact⟨ret_int ha.out.symm,rfl⟩
 all_goals
  go_enter func72,ntmps72
  go_wp2_with fail
  go_ret
  exact⟨ret_int (by decide),rfl⟩
theorem rplain_1 (n:Int) (S:ByteArray) (kv:Value) (w:World) :
  Calls prog 73 #[EV 1 n S kv] w fun e w'=>e=.returned (.bool (decide (0≤n) && S.toList.isEmpty))∧Below w.heap.size w w':=by
 have hb:=below_alloc w (.cells #[.int .i64 1,.int .i64 n,.string S,kv] 24)
 obtain⟨-,x0,x1,x2,x3,-⟩:=four_new w (.int .i64 1) (.int .i64 n) (.string S) kv 24
 have HB:=hid hb
 clear hb
 by_cases h:0≤n
 ·cases hE:S.toList.isEmpty
  all_goals
   go_enter func73,ntmps73
   go_wp2_with fail
   go_ret
   exact⟨ret_bool (by simp[h]),HB.out⟩
 ·cases hE:S.toList.isEmpty
  all_goals
   go_enter func73,ntmps73
   go_wp2_with fail
   go_ret
   exact⟨ret_bool (by simp[h]),HB.out⟩
theorem rplain_3 (n:Int) (S:ByteArray) (kv:Value) (w:World) :
  Calls prog 73 #[EV 3 n S kv] w fun e w'=>e=.returned (.bool (decide (n=0∨n=1) && S.toList.isEmpty))∧Below w.heap.size w w':=by
 have hb:=below_alloc w (.cells #[.int .i64 3,.int .i64 n,.string S,kv] 24)
 obtain⟨-,x0,x1,x2,x3,-⟩:=four_new w (.int .i64 3) (.int .i64 n) (.string S) kv 24
 have HB:=hid hb
 clear hb
 have e3:n=0∨n=1∨(n≠0∧n≠1):=by omega
 rcases e3 with rfl | rfl | ⟨h0,h1⟩
 ·cases hE:S.toList.isEmpty
  all_goals
   go_enter func73,ntmps73
   go_wp2_with fail
   go_ret
   exact⟨ret_bool (by simp[]),HB.out⟩
 ·cases hE:S.toList.isEmpty
  all_goals
   go_enter func73,ntmps73
   go_wp2_with fail
   go_ret
   exact⟨ret_bool (by simp[]),HB.out⟩
 ·have q0:(n == 0)=false:=beq_eq_false_iff_ne.2 h0
  have q1:(n == 1)=false:=beq_eq_false_iff_ne.2 h1
  cases hE:S.toList.isEmpty
  all_goals
   go_enter func73,ntmps73
   go_wp2_with fail
   go_ret
   exact⟨ret_bool (by simp[h0,h1]),HB.out⟩
theorem rplain_o (op:Int) (n:Int) (S:ByteArray) (kv:Value) (w:World) (h1:op≠1) (h2:op≠2) (h3:op≠3) (h4:op≠4) :
  Calls prog 73 #[EV op n S kv] w fun e w'=>e=.returned (.bool (decide (n=0) && S.toList.isEmpty))∧Below w.heap.size w w':=by
 have hb:=below_alloc w (.cells #[.int .i64 op,.int .i64 n,.string S,kv] 24)
 obtain⟨-,x0,x1,x2,x3,-⟩:=four_new w (.int .i64 op) (.int .i64 n) (.string S) kv 24
 have HB:=hid hb
 clear hb
 have e1:(op == 1)=false:=beq_eq_false_iff_ne.2 h1
 have e2:(op == 2)=false:=beq_eq_false_iff_ne.2 h2
 have e3:(op == 3)=false:=beq_eq_false_iff_ne.2 h3
 have e4:(op == 4)=false:=beq_eq_false_iff_ne.2 h4
 clear h1 h2 h3 h4
 by_cases h:n=0
 ·subst h
  cases hE:S.toList.isEmpty
  all_goals
   go_enter func73,ntmps73
   go_wp2_with fail
   go_ret
   exact⟨ret_bool (by simp[]),HB.out⟩
 ·have hn:(n == 0)=false:=beq_eq_false_iff_ne.2 h
  cases hE:S.toList.isEmpty
  all_goals
   go_enter func73,ntmps73
   go_wp2_with fail
   go_ret
   exact⟨ret_bool (by simp[h]),HB.out⟩
theorem rplain_2 (n:Int) (S:ByteArray) (kv:Value) (w:World) (_hE:EnvP w) (_hs:S.size≤9223372036854775807) :
  Calls prog 73 #[EV 2 n S kv] w fun e w'=>e=.returned (.bool (decide (n=0) && checkB 3 0 S.data.toList))∧Below w.heap.size w w':=by
 have hb:=below_alloc w (.cells #[.int .i64 2,.int .i64 n,.string S,kv] 24)
 obtain⟨-,x0,x1,x2,x3,-⟩:=four_new w (.int .i64 2) (.int .i64 n) (.string S) kv 24
 have c:=refCheck_any 3 0 S (w.alloc (.cells #[.int .i64 2,.int .i64 n,.string S,kv] 24))
 obtain⟨R,hR⟩:∃ R,checkB 3 0 S.data.toList=R:=⟨_,rfl⟩
 rw[hR] at c ⊢
 have HB:=hid hb
 clear hb hR
 by_cases h:n=0
 ·subst h
  cases R
  all_goals
   go_enter func73,ntmps73
   go_wp2_with fail
   refine c.mono ?_
   rintro e w1 ⟨rfl,b1⟩
   go_wp2_with fail
   go_ret
   exact⟨rfl,below_to HB.out b1⟩
 ·have hn:(n == 0)=false:=beq_eq_false_iff_ne.2 h
  clear c
  go_enter func73,ntmps73
  go_wp2_with fail
  go_ret
  exact⟨ret_bool (by simp[h]),HB.out⟩
theorem rplain_4 (n:Int) (S:ByteArray) (kv:Value) (w:World) (hE:EnvP w) (hs:S.size≤9223372036854775807) :
  Calls prog 73 #[EV 4 n S kv] w fun e w'=>e=.returned (.bool (decide (n=0) && nameB S.data.toList))∧Below w.heap.size w w':=by
 have hb:=below_alloc w (.cells #[.int .i64 4,.int .i64 n,.string S,kv] 24)
 obtain⟨-,x0,x1,x2,x3,-⟩:=four_new w (.int .i64 4) (.int .i64 n) (.string S) kv 24
 have c:=rname_any S (w.alloc (.cells #[.int .i64 4,.int .i64 n,.string S,kv] 24)) hs (hE.later hb).env
 obtain⟨R,hR⟩:∃ R,nameB S.data.toList=R:=⟨_,rfl⟩
 rw[hR] at c ⊢
 have HB:=hid hb
 clear hb hR
 by_cases h:n=0
 ·subst h
  cases R
  all_goals
   go_enter func73,ntmps73
   go_wp2_with fail
   refine c.mono ?_
   rintro e w1 ⟨rfl,b1⟩
   go_wp2_with fail
   go_ret
   exact⟨rfl,below_to HB.out b1⟩
 ·have hn:(n == 0)=false:=beq_eq_false_iff_ne.2 h
  clear c
  go_enter func73,ntmps73
  go_wp2_with fail
  go_ret
  exact⟨ret_bool (by simp[h]),HB.out⟩
theorem rplain_any (op n:Int) (s:List UInt8) (kv:Value) (w:World) (hE:EnvP w) (hs:s.length<9223372036854775807) :
  Calls prog 73 #[EV op n ⟨s.toArray⟩ kv] w fun e w'=>e=.returned (.bool (plainB op n s))∧Below w.heap.size w w':=by
 have hi:=isEmpty_str s
 have hd:(⟨s.toArray⟩:ByteArray).data.toList=s:=rfl
 have hz:(⟨s.toArray⟩:ByteArray).size≤9223372036854775807:=by rw[show (⟨s.toArray⟩:ByteArray).size=s.length by simp[ByteArray.size]];omega
 unfold plainB
 by_cases h1:op=1
 ·subst h1
  have:=rplain_1 n ⟨s.toArray⟩ kv w
  rw[hi] at this
  rw[if_pos rfl];exact this
 by_cases h2:op=2
 ·subst h2
  have:=rplain_2 n ⟨s.toArray⟩ kv w hE hz
  rw[hd,show checkB 3 0 s=textB s by simp[checkB,textB]] at this
  rw[if_neg h1,if_pos rfl];exact this
 by_cases h3:op=3
 ·subst h3
  have:=rplain_3 n ⟨s.toArray⟩ kv w
  rw[hi] at this
  rw[if_neg h1,if_neg h2,if_pos rfl];exact this
 by_cases h4:op=4
 ·subst h4
  have:=rplain_4 n ⟨s.toArray⟩ kv w hE hz
  rw[hd] at this
  rw[if_neg h1,if_neg h2,if_neg h3,if_pos rfl];exact this
 have:=rplain_o op n ⟨s.toArray⟩ kv w h1 h2 h3 h4
 rw[hi] at this
 rw[if_neg h1,if_neg h2,if_neg h3,if_neg h4];exact this
end
end Go.Proofs.YtbbblmedoagncaaGreatDoor
