/- The contract of the document's own Show, of a value that may be. -/
import Derived.Test.YtfcigknalnmhcaaDoorVRefQuote
import Derived.Test.YtfcigknalnmhcaaDoorVRefCheck
namespace Go.Proofs.YtfcigknalnmhcaaDoor
open Go.RowKit Go.Lib

theorem checked_size {K n : Int} {s : ByteArray} (h : checkB K n s.data.toList = true) : s.size ≤ 400 := by
  rcases check_kind h with ⟨_, _, h⟩ | ⟨_, h⟩ | ⟨_, _, h⟩ | ⟨_, _, _, h⟩ | ⟨_, _, _, h⟩
  · rw [← size_list, h]; simp
  · rw [← size_list, h]; simp
  · rw [← size_list, h]; simp
  · exact count_len s h
  · rw [← size_list, h]; simp
set_option maxHeartbeats 2000000 in
set_option maxRecDepth 100000 in
theorem refshow_any (K n : Int) (s : ByteArray) (w : World) (h0 : -9223372036854775808 ≤ n) (h1 : n ≤ 9223372036854775807) (hc : checkB K n s.data.toList = true) (hs : s.size ≤ 400) :
    Calls Tryd.prog 30 #[V3 K n s] w fun e w' => e = .returned (.string ⟨(showL K n s.data.toList).toArray⟩) ∧ Below w.heap.size w w' := by
  have hb0 := below_alloc w (.cells #[.int .i64 K, .int .i64 n, .string s] 23)
  rcases check_kind hc with ⟨rfl, rfl, hse⟩ | ⟨rfl, hse⟩ | ⟨rfl, hn, hse⟩ | ⟨rfl, rfl, hv, -⟩ | ⟨rfl, hn1, hn2, hse⟩
  · rw [show_0]
    clear hc hse
    go_enter Tryd.func30, Tryd.ntmps30
    go_wp2
    go_ret
    exact ⟨rfl, hb0⟩
  · have c := fun w => dec_any n w h0 h1
    rw [show_1]
    generalize (⟨(Lib.itoa n).toArray⟩ : ByteArray) = T at c ⊢
    clear hc hse
    go_enter Tryd.func30, Tryd.ntmps30
    go_wp2_with fail
    refine (c _).mono ?_
    rintro e w1 ⟨rfl, rfl⟩
    go_wp2
    go_ret
    exact ⟨rfl, hb0⟩
  · rw [show_2]
    clear hc hse
    rcases hn with rfl | rfl
    all_goals
      go_enter Tryd.func30, Tryd.ntmps30
      go_wp2
      go_ret
      exact ⟨rfl, hb0⟩
  · have c := fun w => refquote_any s w hs hv
    rw [show_3]
    generalize (⟨(quoteL s.data.toList).toArray⟩ : ByteArray) = T at c ⊢
    clear hc hv
    go_enter Tryd.func30, Tryd.ntmps30
    go_wp2_with fail
    refine (c _).mono ?_
    rintro e w1 ⟨rfl, hb1⟩
    go_wp2
    go_ret
    exact ⟨rfl, below_to hb0 hb1⟩
  · have c := fun w => dec_any n w h0 h1
    rw [show_4]
    obtain ⟨T, hT⟩ : ∃ T, Lib.itoa n = T := ⟨_, rfl⟩
    have hTl : T.length ≤ 21 := by rw [← hT]; exact Lib.itoa_length_le n h0 h1
    rw [hT] at c ⊢
    clear hT hc hse
    go_enter Tryd.func30, Tryd.ntmps30
    go_wp2_with fail
    refine (c _).mono ?_
    rintro e w1 ⟨rfl, rfl⟩
    clear c
    go_wp2
    go_ret
    exact ⟨ret_str (app_str [35] T), hb0⟩
end Go.Proofs.YtfcigknalnmhcaaDoor
