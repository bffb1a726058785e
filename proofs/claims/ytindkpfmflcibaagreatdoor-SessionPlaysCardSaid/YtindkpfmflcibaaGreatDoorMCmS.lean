/- The contracts of cmd.within, cmd.partsOf, and the document's counts. -/
import Derived.Test.YtindkpfmflcibaaGreatDoorMBlk
import Derived.Test.YtindkpfmflcibaaGreatDoorMCmM
import Derived.Laws.StructEq
namespace Go.Proofs.YtindkpfmflcibaaGreatDoor
open Go.RowKit

theorem within_any (a n : Int) (w : World) (_ : -9223372036854775808 ≤ a) (_ : a ≤ 9223372036854775807) (_ : -9223372036854775808 ≤ n) (_ : n ≤ 9223372036854775807) :
    Calls Tryz.prog 54 #[.int .i64 a, .int .i64 n] w fun e w' => e = .returned (.bool (wi a n)) ∧ w = w' := by
  unfold wi
  by_cases h1 : a ≤ n
  · by_cases h2 : n ≤ 1099511627776
    · rw [decide_eq_true h1, decide_eq_true h2]
      go_enter Tryz.func54, Tryz.ntmps54
      go_wp2
      go_ret
      exact ⟨rfl, rfl⟩
    · rw [decide_eq_true h1, decide_eq_false h2]
      go_enter Tryz.func54, Tryz.ntmps54
      go_wp2
      go_ret
      exact ⟨rfl, rfl⟩
  · rw [decide_eq_false h1]
    go_enter Tryz.func54, Tryz.ntmps54
    go_wp2
    go_ret
    exact ⟨rfl, rfl⟩
theorem counts_any (n a : Int) (w : World) (_ : -9223372036854775808 ≤ a) (_ : a ≤ 9223372036854775807) (_ : -9223372036854775808 ≤ n) (_ : n ≤ 9223372036854775807) :
    Calls Tryz.prog 57 #[.int .i64 n, .int .i64 a] w fun e w' => e = .returned (.bool (wi a n)) ∧ w = w' := by
  unfold wi
  by_cases h1 : a ≤ n
  · by_cases h2 : n ≤ 1099511627776
    · rw [decide_eq_true h1, decide_eq_true h2]
      go_enter Tryz.func57, Tryz.ntmps57
      go_wp2
      go_ret
      exact ⟨rfl, rfl⟩
    · rw [decide_eq_true h1, decide_eq_false h2]
      go_enter Tryz.func57, Tryz.ntmps57
      go_wp2
      go_ret
      exact ⟨rfl, rfl⟩
  · rw [decide_eq_false h1]
    go_enter Tryz.func57, Tryz.ntmps57
    go_wp2
    go_ret
    exact ⟨rfl, rfl⟩
/-- What a kind has: who, field, edit; whether it is one. -/
def PEnd (a b c d : Bool) (w : World) (e : Ending) (w' : World) : Prop := e = .returned (.tuple #[.agg #[.bool a, .bool b, .bool c], .bool d]) ∧ Below w.heap.size w w'
/-- Two commands compared. -/
theorem beqS (s t : ByteArray) : (s == t) = true ↔ s = t := by
  rw [beq_toListBytes, beq_iff_eq, ByteArray.toList_eq, ByteArray.toList_eq]
  constructor
  · intro h; apply ByteArray.ext; exact Array.ext' h
  · rintro rfl; rfl
def sameW (K n : Int) (s : ByteArray) (L m : Int) (t : ByteArray) : Bool := K == L && (n == m && s == t)
set_option maxRecDepth 100000 in
theorem eqlIn_value (K n : Int) (s : ByteArray) (L m : Int) (t : ByteArray) (w : World) : (Op.equalIn 9999 32 (V3 K n s) (V3 L m t)).run Tryz.prog w = .ok (sameW K n s L m t) w := by
  unfold sameW
  rw [run_equalIn_agg w 9998 32 _ _ (by kernel_rfl) (by kernel_rfl)]
  simp [Program.fieldsOf, Tryz.underlying32, Op.eqFields, part, run_equalIn_int _ _ _ _ _ _ _ Tryz.underlying3, run_equalIn_int _ _ _ _ _ _ _ Tryz.underlying2, run_equalIn_string _ _ _ _ _ Tryz.underlying9, Tryz.isAgg3, Tryz.isAgg2, Tryz.isAgg9, beq_toListBytes]
  by_cases h1 : K = L <;> by_cases h2 : n = m <;> by_cases h3 : s.toList = t.toList <;> simp [h1, h2, h3]
set_option maxRecDepth 100000 in
theorem eqlIn_value2 (K n : Int) (s : ByteArray) (L m : Int) (t : ByteArray) (w : World) : (Op.equalIn 10000 32 (V3 K n s) (V3 L m t)).run Tryz.prog w = .ok (sameW K n s L m t) w := by
  unfold sameW
  rw [run_equalIn_agg w 9999 32 _ _ (by kernel_rfl) (by kernel_rfl)]
  simp [Program.fieldsOf, Tryz.underlying32, Op.eqFields, part, run_equalIn_int _ _ _ _ _ _ _ Tryz.underlying3, run_equalIn_int _ _ _ _ _ _ _ Tryz.underlying2, run_equalIn_string _ _ _ _ _ Tryz.underlying9, Tryz.isAgg3, Tryz.isAgg2, Tryz.isAgg9, beq_toListBytes]
  by_cases h1 : K = L <;> by_cases h2 : n = m <;> by_cases h3 : s.toList = t.toList <;> simp [h1, h2, h3]
/-- Whether two commands are the same. -/
def sameC (kd se sq : Int) (f : ByteArray) (ve K n : Int) (s : ByteArray) (kd' se' sq' : Int) (f' : ByteArray) (ve' K' n' : Int) (s' : ByteArray) : Bool := kd == kd' && (se == se' && (sq == sq' && (f == f' && (ve == ve' && sameW K n s K' n' s'))))
theorem sameW_iff (K n : Int) (s : ByteArray) (L m : Int) (t : ByteArray) : sameW K n s L m t = true ↔ K = L ∧ n = m ∧ s = t := by simp [sameW, beqS]
theorem sameC_iff (kd se sq : Int) (f : ByteArray) (ve K n : Int) (s : ByteArray) (kd' se' sq' : Int) (f' : ByteArray) (ve' K' n' : Int) (s' : ByteArray) :
    sameC kd se sq f ve K n s kd' se' sq' f' ve' K' n' s' = true ↔ kd = kd' ∧ se = se' ∧ sq = sq' ∧ f = f' ∧ ve = ve' ∧ K = K' ∧ n = n' ∧ s = s' := by
  simp [sameC, beqS, sameW_iff]
/-- Two replies compared. -/
def sameR (e n K m : Int) (s : ByteArray) (e' n' K' m' : Int) (s' : ByteArray) : Bool := e == e' && (n == n' && sameW K m s K' m' s')
theorem sameR_iff (e n K m : Int) (s : ByteArray) (e' n' K' m' : Int) (s' : ByteArray) : sameR e n K m s e' n' K' m' s' = true ↔ e = e' ∧ n = n' ∧ K = K' ∧ m = m' ∧ s = s' := by
  simp [sameR, sameW_iff]
set_option maxRecDepth 100000 in
theorem eqlIn_rep (e n K m : Int) (s : ByteArray) (e' n' K' m' : Int) (s' : ByteArray) (w : World) :
    (Op.equalIn 10000 34 (V5 e n K m s) (V5 e' n' K' m' s')).run Tryz.prog w = .ok (sameR e n K m s e' n' K' m' s') w := by
  unfold sameR
  have hv := eqlIn_value K m s K' m' s' w
  generalize sameW K m s K' m' s' = Z at *
  rw [run_equalIn_agg w 9999 34 _ _ (by kernel_rfl) (by kernel_rfl)]
  simp [Program.fieldsOf, Tryz.underlying34, Op.eqFields, part, run_equalIn_int _ _ _ _ _ _ _ Tryz.underlying3, run_equalIn_int _ _ _ _ _ _ _ Tryz.underlying30, hv, Tryz.isAgg3, Tryz.isAgg30, Tryz.isAgg32]
  by_cases h1 : e = e' <;> by_cases h2 : n = n' <;> cases Z <;> simp [h1, h2]
theorem eql_rep (e n K m : Int) (s : ByteArray) (e' n' K' m' : Int) (s' : ByteArray) (w : World) :
    (binOp .eql 34 (V5 e n K m s) (V5 e' n' K' m' s')).run Tryz.prog w = .ok (.bool (sameR e n K m s e' n' K' m' s')) w := by
  rw [run_eql_struct, eqlIn_rep]; rfl
theorem neq_rep (e n K m : Int) (s : ByteArray) (e' n' K' m' : Int) (s' : ByteArray) (w : World) :
    (binOp .neq 34 (V5 e n K m s) (V5 e' n' K' m' s')).run Tryz.prog w = .ok (.bool (!(sameR e n K m s e' n' K' m' s'))) w := by
  rw [run_neq_struct, eqlIn_rep]; rfl
end Go.Proofs.YtindkpfmflcibaaGreatDoor
