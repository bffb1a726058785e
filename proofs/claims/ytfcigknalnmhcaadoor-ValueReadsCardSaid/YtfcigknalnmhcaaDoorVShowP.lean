/- The contract of value.Show: whatever the value (a text of at most 2^40 bytes), as it is shown. -/
import Derived.Test.YtfcigknalnmhcaaDoorVQuote
import Derived.Lib.ItoaLen
namespace Go.Proofs.YtfcigknalnmhcaaDoor
open Go.RowKit

theorem app_str (a b : List UInt8) : (⟨a.toArray⟩ : ByteArray) ++ (⟨b.toArray⟩ : ByteArray) = ⟨(a ++ b).toArray⟩ := by
  apply ByteArray.ext; simp
theorem fmtBool (b : Bool) : Lib.formatBool b = if b = true then [116, 114, 117, 101] else [102, 97, 108, 115, 101] := by
  cases b <;> decide +kernel
theorem show_else (K n : Int) (s : List UInt8) (h1 : K ≠ 1) (h2 : K ≠ 2) (h3 : K ≠ 3) (h4 : K ≠ 4) : showL K n s = [45] := by
  unfold showL; rw [if_neg h1, if_neg h2, if_neg h3, if_neg h4]

set_option maxHeartbeats 1000000 in
set_option maxRecDepth 100000 in
theorem show_any (K n : Int) (s : ByteArray) (w : World) (h0 : -9223372036854775808 ≤ n) (h1 : n ≤ 9223372036854775807) (hs : s.size ≤ 1099511627776) (hE : Env w) :
    Calls Tryd.prog 28 #[V3 K n s] w fun e w' => e = .returned (.string ⟨(showL K n s.data.toList).toArray⟩) ∧ Below w.heap.size w w' := by
  have hb0 := below_alloc w (.cells #[.int .i64 K, .int .i64 n, .string s] 23)
  have hE1 := hE.later hb0
  by_cases k1 : K = 1
  · subst k1
    have c := formatInt_any n h0 h1 _ hE1.pow
    rw [show_1]
    generalize (⟨(Lib.itoa n).toArray⟩ : ByteArray) = T at c ⊢
    go_enter Tryd.func28, Tryd.ntmps28
    go_wp2_with fail
    refine c.mono ?_
    rintro e w1 ⟨rfl, hb1⟩
    go_wp2
    go_ret
    exact ⟨rfl, below_to hb0 hb1⟩
  by_cases k2 : K = 2
  · subst k2
    have c := fun w => formatBool_any (n == 1) w
    have hT : (⟨(Lib.formatBool (n == 1)).toArray⟩ : ByteArray) = ⟨(showL 2 n s.data.toList).toArray⟩ := by
      rw [fmtBool, show_2]; simp
    rw [hT] at c
    clear hT
    generalize (⟨(showL 2 n s.data.toList).toArray⟩ : ByteArray) = T at c ⊢
    go_enter Tryd.func28, Tryd.ntmps28
    go_wp2_with fail
    refine (c _).mono ?_
    rintro e w1 ⟨rfl, rfl⟩
    go_wp2
    go_ret
    exact ⟨rfl, hb0⟩
  by_cases k3 : K = 3
  · subst k3
    have c := quoted_any s (w.alloc (.cells #[.int .i64 3, .int .i64 n, .string s] 23)) hs
    rw [show_3]
    generalize (⟨(quoteL s.data.toList).toArray⟩ : ByteArray) = T at c ⊢
    go_enter Tryd.func28, Tryd.ntmps28
    go_wp2_with fail
    refine c.mono ?_
    rintro e w1 ⟨rfl, hb1⟩
    go_wp2
    go_ret
    exact ⟨rfl, below_to hb0 hb1⟩
  by_cases k4 : K = 4
  · subst k4
    have c := formatInt_any n h0 h1 _ hE1.pow
    rw [show_4]
    obtain ⟨T, hT⟩ : ∃ T, Lib.itoa n = T := ⟨_, rfl⟩
    have hTl : T.length ≤ 21 := by rw [← hT]; exact Lib.itoa_length_le n h0 h1
    rw [hT] at c ⊢
    clear hT
    go_enter Tryd.func28, Tryd.ntmps28
    go_wp2_with fail
    refine c.mono ?_
    rintro e w1 ⟨rfl, hb1⟩
    clear c
    go_wp2
    go_ret
    exact ⟨ret_str (app_str [35] T), below_to hb0 hb1⟩
  · rw [show_else K n _ k1 k2 k3 k4]
    have t1 : (K == 1) = false := beq_eq_false_iff_ne.2 k1
    have t2 : (K == 2) = false := beq_eq_false_iff_ne.2 k2
    have t3 : (K == 3) = false := beq_eq_false_iff_ne.2 k3
    have t4 : (K == 4) = false := beq_eq_false_iff_ne.2 k4
    clear k1 k2 k3 k4
    go_enter Tryd.func28, Tryd.ntmps28
    go_wp2
    go_ret
    exact ⟨rfl, hb0⟩
end Go.Proofs.YtfcigknalnmhcaaDoor
