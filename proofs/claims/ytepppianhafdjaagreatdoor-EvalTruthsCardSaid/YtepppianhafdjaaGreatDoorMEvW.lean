/- eval's text, holds, and what its operations do with the values of their kids. -/
import Derived.Test.YtepppianhafdjaaGreatDoorMEvT
import Derived.Test.YtepppianhafdjaaGreatDoorMEvN
import Derived.Test.YtepppianhafdjaaGreatDoorGB
import Derived.Test.YtepppianhafdjaaGreatDoorMCut
import Derived.Test.YtepppianhafdjaaGreatDoorGW
import Derived.Test.YtepppianhafdjaaGreatDoorGK
namespace Go.Proofs.YtepppianhafdjaaGreatDoor
open Go.RowKit

theorem Va.ok.len {a : Va} (h : a.ok) (hk : a.k = 3) : a.s.length ≤ 400 := by
  have := (h.text hk).2.1
  have h4 := pcs_four a.s
  unfold countL at this
  omega
theorem evcount_any (s : List UInt8) (w : World) (hs : s.length ≤ 100000) :
    Calls Tryz.prog 51 #[.string ⟨s.toArray⟩] w fun e w' => e = .returned (.int .i64 ((countL s : Nat) : Int)) ∧ Below w.heap.size w w' := by
  have hz : (⟨s.toArray⟩ : ByteArray).size = s.length := by simp [ByteArray.size]
  have c := count_any ⟨s.toArray⟩ w (by omega)
  rw [runeCount_eq] at c
  exact c
theorem evtext_any (s : List UInt8) (w : World) (hs : s.length ≤ 100000) (hT : Tabs w) :
    Calls Tryz.prog 54 #[.string ⟨s.toArray⟩] w (Comes w (texV s)) := by
  have cN := evcount_any s w hs
  have cB := fun w hT => bad_any 4 (by decide) (by decide) w hT
  by_cases h : 100 < countL s
  · have hz : (100 : Int) < ((countL s : Nat) : Int) := by omega
    have HV : Hid (texV s = badV 4) := Lib.hid (by unfold texV; rw [if_pos h])
    have HT := Lib.hid hT
    clear hT
    generalize ((countL s : Nat) : Int) = C at *
    generalize (⟨s.toArray⟩ : ByteArray) = S at *
    go_enter Tryz.func54, Tryz.ntmps54
    go_wp2_with fail
    refine cN.mono ?_
    rintro e w1 ⟨rfl, b1⟩
    have c2 := cB w1 (HT.out.later b1)
    clear cN cB
    go_wp2_with fail
    refine c2.mono ?_
    rintro e w2 ⟨rfl, b2⟩
    go_wp2_with fail
    go_ret
    exact ⟨by rw [HV.out]; rfl, below_to b1 b2⟩
  · have hz : ¬ (100 : Int) < ((countL s : Nat) : Int) := by omega
    have HV : Hid (bxV (texV s) = .iface 9 (.string ⟨s.toArray⟩)) := Lib.hid (by unfold texV; rw [if_neg h]; rfl)
    clear cB hT
    generalize ((countL s : Nat) : Int) = C at *
    generalize (⟨s.toArray⟩ : ByteArray) = S at *
    go_enter Tryz.func54, Tryz.ntmps54
    go_wp2_with fail
    refine cN.mono ?_
    rintro e w1 ⟨rfl, b1⟩
    go_wp2_with fail
    go_ret
    exact ⟨by rw [HV.out]; rfl, b1⟩
theorem do_neg (n : Int) (w : World) (hT : Tabs w) (hn : -9223372036854775808 ≤ n ∧ n ≤ 9223372036854775807) :
    Calls Tryz.prog 40 #[.int .i64 n] w (Comes w (numV (0 - n))) := by
  have c := evnumber_any 8 0 n w hT (by decide) (by decide) hn
  rw [show numOp 8 0 n = numV (0 - n) by simp [numOp]] at c
  generalize numV (0 - n) = V at *
  go_enter Tryz.func40, Tryz.ntmps40
  go_wp2_with fail
  refine c.mono ?_
  rintro e w1 ⟨rfl, b1⟩
  go_wp2_with fail
  go_ret
  exact ⟨rfl, b1⟩
theorem do_two (op a b : Int) (p : Nat) (w : World) (hT : Tabs w) (ho : 7 ≤ op ∧ op ≤ 11) (ha : -9223372036854775808 ≤ a ∧ a ≤ 9223372036854775807) (hb : -9223372036854775808 ≤ b ∧ b ≤ 9223372036854775807) (hp : w.cell? ⟨p, 0, none⟩ = some (.int .i64 op)) :
    Calls Tryz.prog 43 #[.int .i64 a, .int .i64 b, .pointer (some ⟨p, 0, none⟩)] w (Comes w (numOp op a b)) := by
  have c := evnumber_any op a b w hT ho ha hb
  go_enter Tryz.func43, Tryz.ntmps43
  go_wp2_with fail
  refine c.mono ?_
  rintro e w1 ⟨rfl, b1⟩
  go_wp2_with fail
  go_ret
  exact ⟨rfl, b1⟩
theorem do_not (n : Int) (w : World) : Calls Tryz.prog 45 #[.bool (n == 1)] w (Comes w (truV (decide (n ≠ 1)))) := by
  have HV : Hid (bxV (truV (decide (n ≠ 1))) = .iface 4 (.bool (!(n == 1)))) := Lib.hid (by
    rw [bx_2 (show (truV (decide (n ≠ 1))).k = 2 from rfl)]
    by_cases h : n = 1
    · simp [truV, h]
    · simp [truV, h])
  generalize (n == 1) = Z at *
  go_enter Tryz.func45, Tryz.ntmps45
  go_wp2_with fail
  go_ret
  exact ⟨by rw [HV.out]; rfl, Below.refl _ _⟩
theorem do_len (s : List UInt8) (w : World) (hs : s.length ≤ 100000) : Calls Tryz.prog 50 #[.string ⟨s.toArray⟩] w (Comes w ⟨1, (countL s : Int), []⟩) := by
  have c := evcount_any s w hs
  go_enter Tryz.func50, Tryz.ntmps50
  go_wp2_with fail
  refine c.mono ?_
  rintro e w1 ⟨rfl, b1⟩
  go_wp2_with fail
  go_ret
  exact ⟨rfl, b1⟩
theorem do_cat (s t : List UInt8) (w : World) (hs : s.length ≤ 400) (ht : t.length ≤ 400) (hT : Tabs w) : Calls Tryz.prog 53 #[.string ⟨s.toArray⟩, .string ⟨t.toArray⟩] w (Comes w (texV (s ++ t))) := by
  have c := evtext_any (s ++ t) w (by rw [List.length_append]; omega) hT
  have e : (⟨(s ++ t).toArray⟩ : ByteArray) = (⟨s.toArray⟩ : ByteArray) ++ (⟨t.toArray⟩ : ByteArray) := by
    apply ByteArray.ext
    simp
  rw [e] at c
  have h1 : (⟨s.toArray⟩ : ByteArray).size = s.length := by simp [ByteArray.size]
  have h2 : (⟨t.toArray⟩ : ByteArray).size = t.length := by simp [ByteArray.size]
  have h3 : (⟨s.toArray⟩ : ByteArray).size ≤ 400 := by omega
  have h4 : (⟨t.toArray⟩ : ByteArray).size ≤ 400 := by omega
  clear h1 h2 e
  generalize (⟨s.toArray⟩ : ByteArray) = S at *
  generalize (⟨t.toArray⟩ : ByteArray) = T at *
  go_enter Tryz.func53, Tryz.ntmps53
  go_wp2_with fail
  refine c.mono ?_
  rintro e w1 ⟨rfl, b1⟩
  go_wp2_with fail
  go_ret
  exact ⟨rfl, b1⟩
theorem do_cut (s : List UInt8) (n : Int) (w : World) (hs : s.length ≤ 400) (hn : -9223372036854775808 ≤ n ∧ n ≤ 9223372036854775807) : Calls Tryz.prog 56 #[.string ⟨s.toArray⟩, .int .i64 n] w (Comes w ⟨3, 0, cutL s n.toNat⟩) := by
  have hz : (⟨s.toArray⟩ : ByteArray).size = s.length := by simp [ByteArray.size]
  have c := cut_any ⟨s.toArray⟩ n w (by omega) hn.1 hn.2
  rw [show (⟨s.toArray⟩ : ByteArray).data.toList = s from rfl] at c
  have HV : Hid (bxV ⟨3, 0, cutL s n.toNat⟩ = .iface 9 (.string ⟨(cutL s n.toNat).toArray⟩)) := Lib.hid rfl
  clear hz
  generalize (⟨s.toArray⟩ : ByteArray) = S at *
  generalize (⟨(cutL s n.toNat).toArray⟩ : ByteArray) = T at *
  go_enter Tryz.func56, Tryz.ntmps56
  go_wp2_with fail
  refine c.mono ?_
  rintro e w1 ⟨rfl, b1⟩
  go_wp2_with fail
  go_ret
  exact ⟨by rw [HV.out]; rfl, b1⟩
theorem holds_any (op c : Int) (w : World) (ho : 12 ≤ op ∧ op ≤ 15) : Calls Tryz.prog 83 #[.int .i64 op, .int .i64 c] w fun e w' => e = .returned (.bool (holdB op (decide (c < 0)) (decide (c = 0)))) ∧ w = w' := by
  have : op = 12 ∨ op = 13 ∨ op = 14 ∨ op = 15 := by omega
  have h3 : c < 0 ∨ c = 0 ∨ 0 < c := by omega
  rcases h3 with h | rfl | h
  · have q1 : (c == 0) = false := beq_eq_false_iff_ne.2 (by omega)
    have q2 : decide (c = 0) = false := decide_eq_false (by omega)
    have q3 : decide (c < 0) = true := decide_eq_true h
    have q4 : c ≤ 0 := by omega
    have q0 : ¬ c = 0 := by omega
    rw [q2, q3]
    clear q2 q3
    rcases this with rfl | rfl | rfl | rfl
    all_goals
      go_enter Tryz.func83, Tryz.ntmps83
      go_wp2_with fail
      go_ret
      exact ⟨ret_bool (by simp [holdB, q0]), rfl⟩
  · rcases this with rfl | rfl | rfl | rfl
    all_goals
      go_enter Tryz.func83, Tryz.ntmps83
      go_wp2_with fail
      go_ret
      exact ⟨rfl, rfl⟩
  · have q1 : (c == 0) = false := beq_eq_false_iff_ne.2 (by omega)
    have q2 : decide (c = 0) = false := decide_eq_false (by omega)
    have q3 : decide (c < 0) = false := decide_eq_false (by omega)
    have q4 : ¬ c ≤ 0 := by omega
    have q5 : ¬ c < 0 := by omega
    have q0 : ¬ c = 0 := by omega
    rw [q2, q3]
    clear q2 q3
    rcases this with rfl | rfl | rfl | rfl
    all_goals
      go_enter Tryz.func83, Tryz.ntmps83
      go_wp2_with fail
      go_ret
      exact ⟨ret_bool (by simp [holdB, q0]), rfl⟩
end Go.Proofs.YtepppianhafdjaaGreatDoor
