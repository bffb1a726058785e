/- Two values compared: an equation of the operation; what follows of it. -/
import Derived.Test.YtfcigknalnmhcaaDoorVBox
import Derived.Laws.StructEq
namespace Go.Proofs.YtfcigknalnmhcaaDoor
open Go.RowKit
theorem beqB (s t : ByteArray) : (s == t) = true ↔ s = t := by
  rw [beq_toListBytes, beq_iff_eq, ByteArray.toList_eq, ByteArray.toList_eq]
  constructor
  · intro h; apply ByteArray.ext; exact Array.ext' h
  · rintro rfl; rfl
theorem beqB_refl (s : ByteArray) : (s == s) = true := (beqB s s).2 rfl
def sameV (K n : Int) (s : ByteArray) (L m : Int) (t : ByteArray) : Bool := K == L && (n == m && s == t)
theorem sameV_refl (K n : Int) (s : ByteArray) : sameV K n s K n s = true := by simp [sameV, beqB_refl]
theorem sameV_iff (K n : Int) (s : ByteArray) (L m : Int) (t : ByteArray) : sameV K n s L m t = true ↔ K = L ∧ n = m ∧ s = t := by simp [sameV, beqB]
set_option maxRecDepth 100000 in
theorem eqlIn_val (K n : Int) (s : ByteArray) (L m : Int) (t : ByteArray) (w : World) : (Op.equalIn 10000 23 (V3 K n s) (V3 L m t)).run Tryd.prog w = .ok (sameV K n s L m t) w := by
  unfold sameV
  rw [run_equalIn_agg w 9999 23 _ _ (by kernel_rfl) (by kernel_rfl)]
  simp [Program.fieldsOf, Tryd.underlying23, Op.eqFields, part, run_equalIn_int _ _ _ _ _ _ _ Tryd.underlying3, run_equalIn_int _ _ _ _ _ _ _ Tryd.underlying2, run_equalIn_string _ _ _ _ _ Tryd.underlying9, Tryd.isAgg3, Tryd.isAgg2, Tryd.isAgg9, beq_toListBytes]
  by_cases h1 : K = L <;> by_cases h2 : n = m <;> by_cases h3 : s.toList = t.toList <;> simp [h1, h2, h3]
theorem eql_val (K n : Int) (s : ByteArray) (L m : Int) (t : ByteArray) (w : World) : (binOp .eql 23 (V3 K n s) (V3 L m t)).run Tryd.prog w = .ok (.bool (sameV K n s L m t)) w := by
  rw [run_eql_struct, eqlIn_val]; rfl
theorem neq_val (K n : Int) (s : ByteArray) (L m : Int) (t : ByteArray) (w : World) : (binOp .neq 23 (V3 K n s) (V3 L m t)).run Tryd.prog w = .ok (.bool (!(sameV K n s L m t))) w := by
  rw [run_neq_struct, eqlIn_val]; rfl

theorem bytes_nil (s : ByteArray) (h : s.data.toList = []) : s = ⟨#[]⟩ := by
  obtain ⟨⟨l⟩⟩ := s
  simp at h; subst h; rfl
theorem b01_eq (n : Int) (h : n = 0 ∨ n = 1) : b01 (n == 1) = n := by rcases h with rfl | rfl <;> rfl
/-- A value that may be is unboxed of its box. -/
theorem is_box (K n : Int) (s : ByteArray) (hc : checkB K n s.data.toList = true) (hs : s.size < 9223372036854775807) : Is (boxV K n s) K n s := by
  refine ⟨?_, hc, hs⟩
  unfold boxV
  rw [if_pos hc]
  rcases check_kind hc with ⟨rfl, rfl, h⟩ | ⟨rfl, h⟩ | ⟨rfl, hn, h⟩ | ⟨rfl, rfl, -, -⟩ | ⟨rfl, -, -, -⟩
  · rw [bytes_nil s h]; exact Opens.nil
  · rw [bytes_nil s h]; exact Opens.num n
  · rw [bytes_nil s h]
    have := Opens.truth (n == 1)
    rwa [b01_eq n hn] at this
  · exact Opens.text s
  · exact Opens.val 4 n s
set_option maxHeartbeats 400000 in
theorem lawone_any (b : Bool) (n : Int) (w : World) : Calls Tryd.prog 20 #[.bool b, .int .i64 n] w fun e w' => e = .returned (.int .i64 (if b = true then n else 0)) ∧ w' = w := by
  cases b
  all_goals
    go_enter Tryd.func20, Tryd.ntmps20
    go_wp2
    go_ret
    exact ⟨by simp, rfl⟩
end Go.Proofs.YtfcigknalnmhcaaDoor
