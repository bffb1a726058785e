/- EvN, Cut -/
import Derived.Test.YtbbblmedoagncaaGreatDoorSEY
import Derived.Test.YtbbblmedoagncaaGreatDoorSGA
import Derived.Test.YtbbblmedoagncaaGreatDoorSGB
import Derived.Handy
namespace Go.Proofs.YtbbblmedoagncaaGreatDoor
section
open Lib (hid)
open _root_.Go.Proofs.Tryz
set_option maxHeartbeats 2000000
open Go.RowKit
theorem num_in {n:Int} (h:-9223372036854775808≤n∧n≤9223372036854775807):bxV (numV n)=.iface 2 (.int .i64 n):=by unfold numV;rw[if_pos h];rfl
theorem num_out {n:Int} (h:¬ (-9223372036854775808≤n∧n≤9223372036854775807)):numV n=badV 1:=by unfold numV;rw[if_neg h]
theorem box_num {x y:Int} (h:x=y):Ending.returned (.iface 2 (.int .i64 x))=.returned (.iface 2 (.int .i64 y)):=by rw[h]
theorem number_add (a b : Int) (w : World) (hT : Tabs w) (a0 : -9223372036854775808 ≤ a) (a1 : a ≤ 9223372036854775807) (b0 : -9223372036854775808 ≤ b) (b1 : b ≤ 9223372036854775807) :
    Calls prog 107 #[.int .i64 7, .int .i64 a, .int .i64 b] w (Comes w (numV (a + b))) := by
  have cB := bad_any 1 (by decide) (by decide) w hT
  by_cases hb : 0 < b
  all_goals
    go_enter func107, ntmps107
    go_wp2_with fail
    all_goals first
      | (go_ret
         refine ⟨?_, Below.refl _ _⟩
         clear cB
         try simp only [Bool.not_eq_eq_eq_not, Bool.not_false, decide_eq_true_eq] at *
         rw [num_in (by go_arith)]
         exact box_num (by go_arith))
      | (refine cB.mono ?_
         rintro e w1 ⟨rfl, b1⟩
         go_wp2_with fail
         go_ret
         refine ⟨?_, b1⟩
         clear cB b1
         try simp only [Bool.not_eq_eq_eq_not, Bool.not_true, decide_eq_false_iff_not] at *
         rw [num_out (by go_arith)]
         rfl)
theorem number_sub (a b : Int) (w : World) (hT : Tabs w) (a0 : -9223372036854775808 ≤ a) (a1 : a ≤ 9223372036854775807) (b0 : -9223372036854775808 ≤ b) (b1 : b ≤ 9223372036854775807) :
    Calls prog 107 #[.int .i64 8, .int .i64 a, .int .i64 b] w (Comes w (numV (a - b))) := by
  have cB := bad_any 1 (by decide) (by decide) w hT
  by_cases hb : 0 < b
  all_goals
    go_enter func107, ntmps107
    go_wp2_with fail
    all_goals first
      | (go_ret
         refine ⟨?_, Below.refl _ _⟩
         clear cB
         try simp only [Bool.not_eq_eq_eq_not, Bool.not_false, decide_eq_true_eq] at *
         rw [num_in (by go_arith)]
         exact box_num (by go_arith))
      | (refine cB.mono ?_
         rintro e w1 ⟨rfl, b1⟩
         go_wp2_with fail
         go_ret
         refine ⟨?_, b1⟩
         clear cB b1
         try simp only [Bool.not_eq_eq_eq_not, Bool.not_true, decide_eq_false_iff_not] at *
         rw [num_out (by go_arith)]
         rfl)
theorem wrap_mod (x:Int):∃ k,wrap64 x=x - 18446744073709551616 * k∧-9223372036854775808≤wrap64 x∧wrap64 x≤9223372036854775807:=by
 refine⟨(x+9223372036854775808) / 18446744073709551616,?_⟩
 simp only[wrap64]
 omega
theorem wrap_self {x:Int} (h:-9223372036854775808≤x∧x≤9223372036854775807):wrap64 x=x:=by
 simp only[wrap64]
 omega
theorem tmod_abs (a:Int) {b:Int} (hb:b≠0):(a.tmod b).natAbs<b.natAbs:=by
 rw[Int.natAbs_tmod]
 exact Nat.mod_lt _ (Int.natAbs_pos.2 hb)
theorem tdiv_abs (a b:Int):(a.tdiv b).natAbs≤a.natAbs:=by
 rw[Int.natAbs_tdiv]
 exact Nat.div_le_self _ _
theorem quo_two {a b q:Int} (h:-9223372036854775808≤a∧a≤9223372036854775807) (hb:b≠0) (hq:a.tdiv b=q) (h2:q=9223372036854775808):a=-9223372036854775808∧b=-1:=by
 have e:=Int.mul_tdiv_add_tmod a b
 have t:=tmod_abs a hb
 rw[hq,h2] at e
 omega
theorem quo_in {a b:Int} (h:-9223372036854775808≤a∧a≤9223372036854775807) (hb:b≠0) (hw:¬ (a=-9223372036854775808∧b=-1)):-9223372036854775808≤a.tdiv b∧a.tdiv b≤9223372036854775807:=by
 have t:=tdiv_abs a b
 have n:a.tdiv b≠9223372036854775808:=fun e=>hw (quo_two h hb rfl e)
 omega
theorem mod_in {a b:Int} (h:-9223372036854775808≤b∧b≤9223372036854775807) (hb:b≠0):-9223372036854775808≤a.tmod b∧a.tmod b≤9223372036854775807:=by
 have t:=tmod_abs a hb
 omega
theorem mul_in {a b:Int} (ha:-9223372036854775808≤a∧a≤9223372036854775807) (hbr:-9223372036854775808≤b∧b≤9223372036854775807) (hb:b≠0) (hw:¬ (a=-9223372036854775808∧b=-1)) (h:wrap64 ((wrap64 (a * b)).tdiv b)=a) :
  (-9223372036854775808≤a * b∧a * b≤9223372036854775807)∧wrap64 (a * b)=a * b:=by
 obtain⟨k,hk,n0,n1⟩:=wrap_mod (a * b)
 obtain⟨j,hj,-,-⟩:=wrap_mod ((wrap64 (a * b)).tdiv b)
 rw[h] at hj
 have hqa:=tdiv_abs (wrap64 (a * b)) b
 have e:=Int.mul_tdiv_add_tmod (wrap64 (a * b)) b
 have t:=tmod_abs (wrap64 (a * b)) hb
 have hq2:(wrap64 (a * b)).tdiv b=9223372036854775808→wrap64 (a * b)=-9223372036854775808∧b=-1:=fun e=>quo_two ⟨n0,n1⟩ hb rfl e
 generalize wrap64 (a * b)=n at *
 generalize n.tdiv b=q at *
 generalize n.tmod b=r at *
 have hq:q=a:=by
  by_cases hq:q=9223372036854775808
  ·have:=hq2 hq
   exact absurd ⟨by omega,this.2⟩ hw
  ·omega
 subst hq
 rw[Int.mul_comm b q] at e
 generalize q * b=p at *
 omega
theorem mul_out {a b:Int} (ha:-9223372036854775808≤a∧a≤9223372036854775807) (hb:b≠0) (h:¬ wrap64 ((wrap64 (a * b)).tdiv b)=a):¬ (-9223372036854775808≤a * b∧a * b≤9223372036854775807):=fun hr =>
 h (by rw[wrap_self hr,Int.mul_tdiv_cancel _ hb,wrap_self ha])
theorem number_mul (a b : Int) (w : World) (hT : Tabs w) (a0 : -9223372036854775808 ≤ a) (a1 : a ≤ 9223372036854775807) (b0 : -9223372036854775808 ≤ b) (b1 : b ≤ 9223372036854775807) :
    Calls prog 107 #[.int .i64 9, .int .i64 a, .int .i64 b] w (Comes w (numOp 9 a b)) := by
  have cB := bad_any 1 (by decide) (by decide) w hT
  have cZ := bad_any 2 (by decide) (by decide) w hT
  by_cases hb : b = 0
  · subst hb
    have HV : Hid (bxV (numOp 9 a 0) = .iface 2 (.int .i64 0)) := hid (by simp [numOp]; rfl)
    clear cB cZ
    go_enter func107, ntmps107
    go_wp2_with fail
    all_goals
      go_ret
      exact ⟨by rw [HV.out]; try rfl, Below.refl _ _⟩
  have hbz : (b == 0) = false := beq_eq_false_iff_ne.2 hb
  have HV : Hid (numOp 9 a b = numV (a * b)) := hid (by simp [numOp])
  clear cZ
  by_cases hA : a = -9223372036854775808
  · subst hA
    by_cases hB : b = -1
    · subst hB
      go_enter func107, ntmps107
      go_wp2_with fail
      all_goals first
        | (go_ret
           refine ⟨?_, Below.refl _ _⟩
           rw [HV.out]
           clear cB HV
           try simp only [Bool.not_eq_eq_eq_not, Bool.not_true, Bool.not_false, Bool.not_eq_true, decide_eq_true_eq, decide_eq_false_iff_not, beq_iff_eq, beq_eq_false_iff_ne, ne_eq] at *
           exact (by omega : False).elim)
        | (refine cB.mono ?_
           rintro e w1 ⟨rfl, b1⟩
           go_wp2_with fail
           go_ret
           refine ⟨?_, b1⟩
           rw [HV.out]
           clear cB b1 HV
           try simp only [beq_eq_false_iff_ne, ne_eq] at *
           rfl)
    · have hBz : (b == -1) = false := beq_eq_false_iff_ne.2 hB
      go_enter func107, ntmps107
      go_wp2_with fail
      all_goals first
        | (go_ret
           refine ⟨?_, Below.refl _ _⟩
           rw [HV.out]
           clear cB HV
           try simp only [beq_eq_false_iff_ne, ne_eq] at *
           have hm := mul_in (a := (-9223372036854775808)) (b := b) ⟨by omega, by omega⟩ ⟨b0, b1⟩ hb (by omega) (by assumption)
           rw [num_in hm.1]
           exact box_num hm.2)
        | (refine cB.mono ?_
           rintro e w1 ⟨rfl, b1⟩
           go_wp2_with fail
           go_ret
           refine ⟨?_, b1⟩
           rw [HV.out]
           clear cB b1 HV
           try simp only [beq_eq_false_iff_ne, ne_eq] at *
           rw [num_out (mul_out (a := (-9223372036854775808)) ⟨by omega, by omega⟩ hb (by assumption))]
           rfl)
  · have hAz : (a == -9223372036854775808) = false := beq_eq_false_iff_ne.2 hA
    go_enter func107, ntmps107
    go_wp2_with fail
    all_goals first
      | (go_ret
         refine ⟨?_, Below.refl _ _⟩
         rw [HV.out]
         clear cB HV
         try simp only [beq_eq_false_iff_ne, ne_eq] at *
         have hm := mul_in (a := a) (b := b) ⟨by omega, by omega⟩ ⟨b0, b1⟩ hb (by omega) (by assumption)
         rw [num_in hm.1]
         exact box_num hm.2)
      | (refine cB.mono ?_
         rintro e w1 ⟨rfl, b1⟩
         go_wp2_with fail
         go_ret
         refine ⟨?_, b1⟩
         rw [HV.out]
         clear cB b1 HV
         try simp only [beq_eq_false_iff_ne, ne_eq] at *
         rw [num_out (mul_out (a := a) ⟨by omega, by omega⟩ hb (by assumption))]
         rfl)
theorem number_div (a b : Int) (w : World) (hT : Tabs w) (a0 : -9223372036854775808 ≤ a) (a1 : a ≤ 9223372036854775807) (b0 : -9223372036854775808 ≤ b) (b1 : b ≤ 9223372036854775807) :
    Calls prog 107 #[.int .i64 10, .int .i64 a, .int .i64 b] w (Comes w (numOp 10 a b)) := by
  have cB := bad_any 1 (by decide) (by decide) w hT
  have cZ := bad_any 2 (by decide) (by decide) w hT
  by_cases hb : b = 0
  · subst hb
    have HV : Hid (numOp 10 a 0 = badV 2) := hid (by simp [numOp])
    clear cB
    go_enter func107, ntmps107
    go_wp2_with fail
    refine cZ.mono ?_
    rintro e w1 ⟨rfl, b1⟩
    go_wp2_with fail
    go_ret
    exact ⟨by rw [HV.out]; rfl, b1⟩
  have hbz : (b == 0) = false := beq_eq_false_iff_ne.2 hb
  have HV : Hid (numOp 10 a b = numV (a.tdiv b)) := hid (by simp [numOp, hb])
  clear cZ
  by_cases hA : a = -9223372036854775808
  · subst hA
    by_cases hB : b = -1
    · subst hB
      go_enter func107, ntmps107
      go_wp2_with fail
      all_goals first
        | (go_ret
           refine ⟨?_, Below.refl _ _⟩
           rw [HV.out]
           clear cB HV
           try simp only [Bool.not_eq_eq_eq_not, Bool.not_true, Bool.not_false, Bool.not_eq_true, decide_eq_true_eq, decide_eq_false_iff_not, beq_iff_eq, beq_eq_false_iff_ne, ne_eq] at *
           exact (by omega : False).elim)
        | (refine cB.mono ?_
           rintro e w1 ⟨rfl, b1⟩
           go_wp2_with fail
           go_ret
           refine ⟨?_, b1⟩
           rw [HV.out]
           clear cB b1 HV
           try simp only [beq_eq_false_iff_ne, ne_eq] at *
           rfl)
    · have hBz : (b == -1) = false := beq_eq_false_iff_ne.2 hB
      go_enter func107, ntmps107
      go_wp2_with fail
      all_goals first
        | (go_ret
           refine ⟨?_, Below.refl _ _⟩
           rw [HV.out]
           clear cB HV
           try simp only [beq_eq_false_iff_ne, ne_eq] at *
           have hq := quo_in (a := (-9223372036854775808)) (b := b) ⟨by omega, by omega⟩ hb (by omega)
           rw [num_in hq]
           exact box_num (by first | rfl | exact wrap_self hq | (rw [show (-9223372036854775808 : Int) = -(9223372036854775808) from rfl, Int.neg_tdiv] at *; exact wrap_self hq) | (rw [show (-9223372036854775808 : Int) = -(9223372036854775808) from rfl, Int.neg_tdiv])))
        | (refine cB.mono ?_
           rintro e w1 ⟨rfl, b1⟩
           go_wp2_with fail
           go_ret
           refine ⟨?_, b1⟩
           rw [HV.out]
           clear cB b1 HV
           try simp only [Bool.not_eq_eq_eq_not, Bool.not_true, Bool.not_false, Bool.not_eq_true, decide_eq_true_eq, decide_eq_false_iff_not, beq_iff_eq, beq_eq_false_iff_ne, ne_eq] at *
           exact (by omega : False).elim)
  · have hAz : (a == -9223372036854775808) = false := beq_eq_false_iff_ne.2 hA
    go_enter func107, ntmps107
    go_wp2_with fail
    all_goals first
      | (go_ret
         refine ⟨?_, Below.refl _ _⟩
         rw [HV.out]
         clear cB HV
         try simp only [beq_eq_false_iff_ne, ne_eq] at *
         have hq := quo_in (a := a) (b := b) ⟨by omega, by omega⟩ hb (by omega)
         rw [num_in hq]
         exact box_num (by first | rfl | exact wrap_self hq | (rw [show (-9223372036854775808 : Int) = -(9223372036854775808) from rfl, Int.neg_tdiv] at *; exact wrap_self hq) | (rw [show (-9223372036854775808 : Int) = -(9223372036854775808) from rfl, Int.neg_tdiv])))
      | (refine cB.mono ?_
         rintro e w1 ⟨rfl, b1⟩
         go_wp2_with fail
         go_ret
         refine ⟨?_, b1⟩
         rw [HV.out]
         clear cB b1 HV
         try simp only [Bool.not_eq_eq_eq_not, Bool.not_true, Bool.not_false, Bool.not_eq_true, decide_eq_true_eq, decide_eq_false_iff_not, beq_iff_eq, beq_eq_false_iff_ne, ne_eq] at *
         exact (by omega : False).elim)
theorem number_mod (a b : Int) (w : World) (hT : Tabs w) (a0 : -9223372036854775808 ≤ a) (a1 : a ≤ 9223372036854775807) (b0 : -9223372036854775808 ≤ b) (b1 : b ≤ 9223372036854775807) :
    Calls prog 107 #[.int .i64 11, .int .i64 a, .int .i64 b] w (Comes w (numOp 11 a b)) := by
  have cB := bad_any 1 (by decide) (by decide) w hT
  have cZ := bad_any 2 (by decide) (by decide) w hT
  by_cases hb : b = 0
  · subst hb
    have HV : Hid (numOp 11 a 0 = badV 2) := hid (by simp [numOp])
    clear cB
    go_enter func107, ntmps107
    go_wp2_with fail
    refine cZ.mono ?_
    rintro e w1 ⟨rfl, b1⟩
    go_wp2_with fail
    go_ret
    exact ⟨by rw [HV.out]; rfl, b1⟩
  have hbz : (b == 0) = false := beq_eq_false_iff_ne.2 hb
  have HV : Hid (numOp 11 a b = numV (a.tmod b)) := hid (by simp [numOp, hb])
  clear cZ
  by_cases hA : a = -9223372036854775808
  · subst hA
    by_cases hB : b = -1
    · subst hB
      go_enter func107, ntmps107
      go_wp2_with fail
      all_goals first
        | (go_ret
           refine ⟨?_, Below.refl _ _⟩
           rw [HV.out]
           clear cB HV
           try simp only [beq_eq_false_iff_ne, ne_eq] at *
           rfl)
        | (refine cB.mono ?_
           rintro e w1 ⟨rfl, b1⟩
           go_wp2_with fail
           go_ret
           refine ⟨?_, b1⟩
           rw [HV.out]
           clear cB b1 HV
           try simp only [Bool.not_eq_eq_eq_not, Bool.not_true, Bool.not_false, Bool.not_eq_true, decide_eq_true_eq, decide_eq_false_iff_not, beq_iff_eq, beq_eq_false_iff_ne, ne_eq] at *
           exact (by omega : False).elim)
    · have hBz : (b == -1) = false := beq_eq_false_iff_ne.2 hB
      go_enter func107, ntmps107
      go_wp2_with fail
      all_goals first
        | (go_ret
           refine ⟨?_, Below.refl _ _⟩
           rw [HV.out]
           clear cB HV
           try simp only [beq_eq_false_iff_ne, ne_eq] at *
           have hm := mod_in (a := (-9223372036854775808)) (b := b) ⟨b0, b1⟩ hb
           rw [num_in hm]
           exact box_num (by first | rfl | exact wrap_self hm | (rw [show (-9223372036854775808 : Int) = -(9223372036854775808) from rfl, Int.neg_tmod, Int.tmod_eq_emod_of_nonneg (by decide)])))
        | (refine cB.mono ?_
           rintro e w1 ⟨rfl, b1⟩
           go_wp2_with fail
           go_ret
           refine ⟨?_, b1⟩
           rw [HV.out]
           clear cB b1 HV
           try simp only [Bool.not_eq_eq_eq_not, Bool.not_true, Bool.not_false, Bool.not_eq_true, decide_eq_true_eq, decide_eq_false_iff_not, beq_iff_eq, beq_eq_false_iff_ne, ne_eq] at *
           exact (by omega : False).elim)
  · have hAz : (a == -9223372036854775808) = false := beq_eq_false_iff_ne.2 hA
    go_enter func107, ntmps107
    go_wp2_with fail
    all_goals first
      | (go_ret
         refine ⟨?_, Below.refl _ _⟩
         rw [HV.out]
         clear cB HV
         try simp only [beq_eq_false_iff_ne, ne_eq] at *
         have hm := mod_in (a := a) (b := b) ⟨b0, b1⟩ hb
         rw [num_in hm]
         exact box_num (by first | rfl | exact wrap_self hm | (rw [show (-9223372036854775808 : Int) = -(9223372036854775808) from rfl, Int.neg_tmod, Int.tmod_eq_emod_of_nonneg (by decide)])))
      | (refine cB.mono ?_
         rintro e w1 ⟨rfl, b1⟩
         go_wp2_with fail
         go_ret
         refine ⟨?_, b1⟩
         rw [HV.out]
         clear cB b1 HV
         try simp only [Bool.not_eq_eq_eq_not, Bool.not_true, Bool.not_false, Bool.not_eq_true, decide_eq_true_eq, decide_eq_false_iff_not, beq_iff_eq, beq_eq_false_iff_ne, ne_eq] at *
         exact (by omega : False).elim)
theorem evnumber_any (op a b:Int) (w:World) (hT:Tabs w) (ho:7≤op∧op≤11) (ha:-9223372036854775808≤a∧a≤9223372036854775807) (hb:-9223372036854775808≤b∧b≤9223372036854775807) :
  Calls prog 107 #[.int .i64 op,.int .i64 a,.int .i64 b] w (Comes w (numOp op a b)):=by
 have:op=7∨op=8∨op=9∨op=10∨op=11:=by omega
 rcases this with rfl | rfl | rfl | rfl | rfl
 ·have:=number_add a b w hT ha.1 ha.2 hb.1 hb.2
  rwa [show numV (a+b)=numOp 7 a b by simp[numOp]] at this
 ·have:=number_sub a b w hT ha.1 ha.2 hb.1 hb.2
  rwa [show numV (a - b)=numOp 8 a b by simp[numOp]] at this
 ·exact number_mul a b w hT ha.1 ha.2 hb.1 hb.2
 ·exact number_div a b w hT ha.1 ha.2 hb.1 hb.2
 ·exact number_mod a b w hT ha.1 ha.2 hb.1 hb.2
end
section
open Lib (hid)
open _root_.Go.Proofs.Tryz
set_option maxHeartbeats 1000000
open Go.RowKit
theorem cut_at (s:ByteArray) (pos:Nat) (m:Int) (h:pos<s.size) (hm:1≤m) :
  cutL (s.data.toList.drop pos) m.toNat=(s.data.toList.drop pos).take (Utf8.decode s pos).2++cutL (s.data.toList.drop (pos+(Utf8.decode s pos).2)) (m - 1).toNat:=by
 obtain⟨k,hk⟩:∃ k,m.toNat=k+1:=⟨m.toNat - 1,by omega⟩
 have:(m - 1).toNat=k:=by omega
 rw[hk,this,cutL_succ _ (drop_ne s pos h),Lib.decodeL_drop,List.drop_drop]
theorem ret_cut {t:ByteArray} {l:List UInt8} (h:t.data.toList=l):Ending.returned (Value.string t)=.returned (.string ⟨l.toArray⟩):=by subst h;simp
theorem headList (s:ByteArray) (pos:Nat):(s.extract 0 pos).data.toList=s.data.toList.take pos:=by
 rw[Lib.extract_data];simp
def CutRel (s:ByteArray) (n:Int) (pos:Nat) (m:Int):Prop :=
 pos≤s.size∧m≤n∧(m=n∨0≤m)∧s.data.toList.take pos++cutL (s.data.toList.drop pos) m.toNat=cutL s.data.toList n.toNat
theorem cut_any (s:ByteArray) (n:Int) (w:World) (hs:s.size<9223372036854775807) (hn0:-9223372036854775808≤n) (hn:n≤9223372036854775807) :
  Calls prog 123 #[.string s,.int .i64 n] w fun e w'=>e=.returned (.string ⟨(cutL s.data.toList n.toNat).toArray⟩)∧Below w.heap.size w w':=by
 go_enter func123,ntmps123
 go_wp2
 go_loopw [1] (fun n' w'=>∃ (pos:Nat) (m:Int),CutRel s n pos m∧w'=w.iter s pos∧n'=.int .i64 m) (fun _ w'=>s.size - w'.iterPos w.heap.size)
 case atStart=>exact⟨0,n,⟨by omega,Int.le_refl _,.inl rfl,by simp⟩,rfl,rfl⟩
 case round =>
  obtain⟨pos,m,⟨hps,hmn,hm0,hcut⟩,rfl,rfl⟩:=hrel
  have HC:=hid hcut
  have hmlo:-9223372036854775808≤m:=by omega
  clear hcut
  by_cases hp:pos<s.size
  ·have hnx:∀ ty,(Instr.next (.pointer (some ⟨w.heap.size,0,none⟩)) true ty).run prog (w.iter s pos)=_:=fun ty=>run_next_any w s pos ty hp
   obtain⟨hw1,hw2⟩:=width_in s pos hp
   by_cases hm1:m<1
   ·clear hm0
    go_wp2
    go_ret
    have:=HC.out
    rw[show m.toNat=0 by omega,cutL_zero,List.append_nil] at this
    exact⟨ret_cut (by rw[headList,this]),iter_below w s _⟩
   ·have hst:=hid (cut_at s pos m hp (by omega))
    clear hm0
    go_wp2
    go_roundw
    case rel =>
     refine⟨pos+(Utf8.decode s pos).2,m - 1,⟨hw2,by omega,.inr (by omega),?_⟩,rfl,by go_num⟩
     have e:s.data.toList.take (pos+(Utf8.decode s pos).2)=s.data.toList.take pos++(s.data.toList.drop pos).take (Utf8.decode s pos).2:=by rw[List.take_add]
     rw[e,List.append_assoc,← hst.out];exact HC.out
    case measure=>simp;omega
  ·have hnx:∀ ty,(Instr.next (.pointer (some ⟨w.heap.size,0,none⟩)) true ty).run prog (w.iter s pos)=_:=fun ty=>run_next_end w s pos ty hp
   clear hm0
   go_wp2
   go_ret
   have:=HC.out
   rw[drop_nil s pos hp,cutL_nil,List.append_nil,List.take_of_length_le (by rw[← Lib.size_eq];omega)] at this
   exact⟨ret_cut this,iter_below w s _⟩
end
end Go.Proofs.YtbbblmedoagncaaGreatDoor
