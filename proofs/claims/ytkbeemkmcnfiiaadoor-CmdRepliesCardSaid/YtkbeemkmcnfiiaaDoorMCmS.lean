/- The contracts of cmd.within, cmd.partsOf, and the document's counts. -/
import Derived.Test.YtkbeemkmcnfiiaaDoorMBlk
import Derived.Test.YtkbeemkmcnfiiaaDoorMCmM
import Derived.Laws.StructEq
namespace Go.Proofs.YtkbeemkmcnfiiaaDoor
open Go.RowKit

theorem within_any (a n : Int) (w : World) (_ : -9223372036854775808 ≤ a) (_ : a ≤ 9223372036854775807) (_ : -9223372036854775808 ≤ n) (_ : n ≤ 9223372036854775807) :
    Calls Tryd.prog 28 #[.int .i64 a, .int .i64 n] w fun e w' => e = .returned (.bool (wi a n)) ∧ w = w' := by
  unfold wi
  by_cases h1 : a ≤ n
  · by_cases h2 : n ≤ 1099511627776
    · rw [decide_eq_true h1, decide_eq_true h2]
      go_enter Tryd.func28, Tryd.ntmps28
      go_wp2
      go_ret
      exact ⟨rfl, rfl⟩
    · rw [decide_eq_true h1, decide_eq_false h2]
      go_enter Tryd.func28, Tryd.ntmps28
      go_wp2
      go_ret
      exact ⟨rfl, rfl⟩
  · rw [decide_eq_false h1]
    go_enter Tryd.func28, Tryd.ntmps28
    go_wp2
    go_ret
    exact ⟨rfl, rfl⟩
theorem counts_any (n a : Int) (w : World) (_ : -9223372036854775808 ≤ a) (_ : a ≤ 9223372036854775807) (_ : -9223372036854775808 ≤ n) (_ : n ≤ 9223372036854775807) :
    Calls Tryd.prog 9 #[.int .i64 n, .int .i64 a] w fun e w' => e = .returned (.bool (wi a n)) ∧ w = w' := by
  unfold wi
  by_cases h1 : a ≤ n
  · by_cases h2 : n ≤ 1099511627776
    · rw [decide_eq_true h1, decide_eq_true h2]
      go_enter Tryd.func9, Tryd.ntmps9
      go_wp2
      go_ret
      exact ⟨rfl, rfl⟩
    · rw [decide_eq_true h1, decide_eq_false h2]
      go_enter Tryd.func9, Tryd.ntmps9
      go_wp2
      go_ret
      exact ⟨rfl, rfl⟩
  · rw [decide_eq_false h1]
    go_enter Tryd.func9, Tryd.ntmps9
    go_wp2
    go_ret
    exact ⟨rfl, rfl⟩
/-- What a kind has: who, field, edit; whether it is one. -/
def PEnd (a b c d : Bool) (w : World) (e : Ending) (w' : World) : Prop := e = .returned (.tuple #[.agg #[.bool a, .bool b, .bool c], .bool d]) ∧ Below w.heap.size w w'
theorem parts_2 (w : World) : Calls Tryd.prog 25 #[.int .i64 2] w (PEnd true true true true w) := by
  have hb := (below_alloc w (.cells #[.bool true, .bool true, .bool true] 52)).alloc (by simp) (.cells #[.bool true, .bool true, .bool true] 52)
  go_enter Tryd.func25, Tryd.ntmps25
  go_wp2_with fail
  exact bodyPost_ret (v := .tuple #[.agg #[.bool true, .bool true, .bool true], .bool true]) (by simp [results, Tryd.results25, go_sem]) rfl ⟨rfl, hb⟩
theorem parts_4 (w : World) : Calls Tryd.prog 25 #[.int .i64 4] w (PEnd true true false true w) := by
  have hb := (below_alloc w (.cells #[.bool true, .bool true, .bool false] 52)).alloc (by simp) (.cells #[.bool true, .bool true, .bool false] 52)
  go_enter Tryd.func25, Tryd.ntmps25
  go_wp2_with fail
  exact bodyPost_ret (v := .tuple #[.agg #[.bool true, .bool true, .bool false], .bool true]) (by simp [results, Tryd.results25, go_sem]) rfl ⟨rfl, hb⟩
theorem parts_3 (w : World) : Calls Tryd.prog 25 #[.int .i64 3] w (PEnd true false false true w) := by
  have hb := (below_alloc w (.cells #[.bool true, .bool false, .bool false] 52)).alloc (by simp) (.cells #[.bool true, .bool false, .bool false] 52)
  go_enter Tryd.func25, Tryd.ntmps25
  go_wp2_with fail
  exact bodyPost_ret (v := .tuple #[.agg #[.bool true, .bool false, .bool false], .bool true]) (by simp [results, Tryd.results25, go_sem]) rfl ⟨rfl, hb⟩
theorem parts_1 (w : World) : Calls Tryd.prog 25 #[.int .i64 1] w (PEnd false false false true w) := by
  have hb := (below_alloc w (.cells #[.bool false, .bool false, .bool false] 52)).alloc (by simp) (.cells #[.bool false, .bool false, .bool false] 52)
  go_enter Tryd.func25, Tryd.ntmps25
  go_wp2_with fail
  exact bodyPost_ret (v := .tuple #[.agg #[.bool false, .bool false, .bool false], .bool true]) (by simp [results, Tryd.results25, go_sem]) rfl ⟨rfl, hb⟩
theorem parts_else (k : Int) (h : ¬ (k = 1 ∨ k = 2 ∨ k = 3 ∨ k = 4)) (w : World) : Calls Tryd.prog 25 #[.int .i64 k] w (PEnd false false false false w) := by
  have h1 : (k == 1) = false := beq_eq_false_iff_ne.2 (by omega)
  have h2 : (k == 2) = false := beq_eq_false_iff_ne.2 (by omega)
  have h3 : (k == 3) = false := beq_eq_false_iff_ne.2 (by omega)
  have h4 : (k == 4) = false := beq_eq_false_iff_ne.2 (by omega)
  clear h
  have hb := (below_alloc w (.cells #[.bool false, .bool false, .bool false] 52)).alloc (by simp) (.cells #[.bool false, .bool false, .bool false] 52)
  go_enter Tryd.func25, Tryd.ntmps25
  go_wp2_with fail
  exact bodyPost_ret (v := .tuple #[.agg #[.bool false, .bool false, .bool false], .bool false]) (by simp [results, Tryd.results25, go_sem]) rfl ⟨rfl, hb⟩
/-- Two commands compared. -/
theorem beqS (s t : ByteArray) : (s == t) = true ↔ s = t := by
  rw [beq_toListBytes, beq_iff_eq, ByteArray.toList_eq, ByteArray.toList_eq]
  constructor
  · intro h; apply ByteArray.ext; exact Array.ext' h
  · rintro rfl; rfl
def sameW (K n : Int) (s : ByteArray) (L m : Int) (t : ByteArray) : Bool := K == L && (n == m && s == t)
set_option maxRecDepth 100000 in
theorem eqlIn_value (K n : Int) (s : ByteArray) (L m : Int) (t : ByteArray) (w : World) : (Op.equalIn 9999 24 (V3 K n s) (V3 L m t)).run Tryd.prog w = .ok (sameW K n s L m t) w := by
  unfold sameW
  rw [run_equalIn_agg w 9998 24 _ _ (by kernel_rfl) (by kernel_rfl)]
  simp [Program.fieldsOf, Tryd.underlying24, Op.eqFields, part, run_equalIn_int _ _ _ _ _ _ _ Tryd.underlying3, run_equalIn_int _ _ _ _ _ _ _ Tryd.underlying2, run_equalIn_string _ _ _ _ _ Tryd.underlying9, Tryd.isAgg3, Tryd.isAgg2, Tryd.isAgg9, beq_toListBytes]
  by_cases h1 : K = L <;> by_cases h2 : n = m <;> by_cases h3 : s.toList = t.toList <;> simp [h1, h2, h3]
set_option maxRecDepth 100000 in
theorem eqlIn_value2 (K n : Int) (s : ByteArray) (L m : Int) (t : ByteArray) (w : World) : (Op.equalIn 10000 24 (V3 K n s) (V3 L m t)).run Tryd.prog w = .ok (sameW K n s L m t) w := by
  unfold sameW
  rw [run_equalIn_agg w 9999 24 _ _ (by kernel_rfl) (by kernel_rfl)]
  simp [Program.fieldsOf, Tryd.underlying24, Op.eqFields, part, run_equalIn_int _ _ _ _ _ _ _ Tryd.underlying3, run_equalIn_int _ _ _ _ _ _ _ Tryd.underlying2, run_equalIn_string _ _ _ _ _ Tryd.underlying9, Tryd.isAgg3, Tryd.isAgg2, Tryd.isAgg9, beq_toListBytes]
  by_cases h1 : K = L <;> by_cases h2 : n = m <;> by_cases h3 : s.toList = t.toList <;> simp [h1, h2, h3]
/-- Whether two commands are the same. -/
def sameC (kd se sq : Int) (f : ByteArray) (ve K n : Int) (s : ByteArray) (kd' se' sq' : Int) (f' : ByteArray) (ve' K' n' : Int) (s' : ByteArray) : Bool := kd == kd' && (se == se' && (sq == sq' && (f == f' && (ve == ve' && sameW K n s K' n' s'))))
theorem sameW_iff (K n : Int) (s : ByteArray) (L m : Int) (t : ByteArray) : sameW K n s L m t = true ↔ K = L ∧ n = m ∧ s = t := by simp [sameW, beqS]
theorem sameC_iff (kd se sq : Int) (f : ByteArray) (ve K n : Int) (s : ByteArray) (kd' se' sq' : Int) (f' : ByteArray) (ve' K' n' : Int) (s' : ByteArray) :
    sameC kd se sq f ve K n s kd' se' sq' f' ve' K' n' s' = true ↔ kd = kd' ∧ se = se' ∧ sq = sq' ∧ f = f' ∧ ve = ve' ∧ K = K' ∧ n = n' ∧ s = s' := by
  simp [sameC, beqS, sameW_iff]
set_option maxRecDepth 100000 in
theorem eqlIn_cmd (kd se sq : Int) (f : ByteArray) (ve K n : Int) (s : ByteArray) (kd' se' sq' : Int) (f' : ByteArray) (ve' K' n' : Int) (s' : ByteArray) (w : World) :
    (Op.equalIn 10000 36 (V8 kd se sq f ve K n s) (V8 kd' se' sq' f' ve' K' n' s')).run Tryd.prog w = .ok (sameC kd se sq f ve K n s kd' se' sq' f' ve' K' n' s') w := by
  unfold sameC
  have hv := eqlIn_value K n s K' n' s' w
  generalize sameW K n s K' n' s' = Z at *
  rw [run_equalIn_agg w 9999 36 _ _ (by kernel_rfl) (by kernel_rfl)]
  simp [Program.fieldsOf, Tryd.underlying36, Op.eqFields, part, run_equalIn_int _ _ _ _ _ _ _ Tryd.underlying3, run_equalIn_string _ _ _ _ _ Tryd.underlying9, hv, Tryd.isAgg3, Tryd.isAgg9, Tryd.isAgg24, beq_toListBytes]
  by_cases h1 : kd = kd' <;> by_cases h2 : se = se' <;> by_cases h3 : sq = sq' <;> by_cases h4 : f.toList = f'.toList <;> by_cases h5 : ve = ve' <;> cases Z <;> simp [h1, h2, h3, h4, h5]
theorem eql_cmd (kd se sq : Int) (f : ByteArray) (ve K n : Int) (s : ByteArray) (kd' se' sq' : Int) (f' : ByteArray) (ve' K' n' : Int) (s' : ByteArray) (w : World) :
    (binOp .eql 36 (V8 kd se sq f ve K n s) (V8 kd' se' sq' f' ve' K' n' s')).run Tryd.prog w = .ok (.bool (sameC kd se sq f ve K n s kd' se' sq' f' ve' K' n' s')) w := by
  rw [run_eql_struct, eqlIn_cmd]; rfl
theorem neq_cmd (kd se sq : Int) (f : ByteArray) (ve K n : Int) (s : ByteArray) (kd' se' sq' : Int) (f' : ByteArray) (ve' K' n' : Int) (s' : ByteArray) (w : World) :
    (binOp .neq 36 (V8 kd se sq f ve K n s) (V8 kd' se' sq' f' ve' K' n' s')).run Tryd.prog w = .ok (.bool (!(sameC kd se sq f ve K n s kd' se' sq' f' ve' K' n' s'))) w := by
  rw [run_neq_struct, eqlIn_cmd]; rfl
/-- Two replies compared. -/
def sameR (e n K m : Int) (s : ByteArray) (e' n' K' m' : Int) (s' : ByteArray) : Bool := e == e' && (n == n' && sameW K m s K' m' s')
theorem sameR_iff (e n K m : Int) (s : ByteArray) (e' n' K' m' : Int) (s' : ByteArray) : sameR e n K m s e' n' K' m' s' = true ↔ e = e' ∧ n = n' ∧ K = K' ∧ m = m' ∧ s = s' := by
  simp [sameR, sameW_iff]
set_option maxRecDepth 100000 in
theorem eqlIn_rep (e n K m : Int) (s : ByteArray) (e' n' K' m' : Int) (s' : ByteArray) (w : World) :
    (Op.equalIn 10000 26 (V5 e n K m s) (V5 e' n' K' m' s')).run Tryd.prog w = .ok (sameR e n K m s e' n' K' m' s') w := by
  unfold sameR
  have hv := eqlIn_value K m s K' m' s' w
  generalize sameW K m s K' m' s' = Z at *
  rw [run_equalIn_agg w 9999 26 _ _ (by kernel_rfl) (by kernel_rfl)]
  simp [Program.fieldsOf, Tryd.underlying26, Op.eqFields, part, run_equalIn_int _ _ _ _ _ _ _ Tryd.underlying3, run_equalIn_int _ _ _ _ _ _ _ Tryd.underlying22, hv, Tryd.isAgg3, Tryd.isAgg22, Tryd.isAgg24]
  by_cases h1 : e = e' <;> by_cases h2 : n = n' <;> cases Z <;> simp [h1, h2]
theorem eql_rep (e n K m : Int) (s : ByteArray) (e' n' K' m' : Int) (s' : ByteArray) (w : World) :
    (binOp .eql 26 (V5 e n K m s) (V5 e' n' K' m' s')).run Tryd.prog w = .ok (.bool (sameR e n K m s e' n' K' m' s')) w := by
  rw [run_eql_struct, eqlIn_rep]; rfl
theorem neq_rep (e n K m : Int) (s : ByteArray) (e' n' K' m' : Int) (s' : ByteArray) (w : World) :
    (binOp .neq 26 (V5 e n K m s) (V5 e' n' K' m' s')).run Tryd.prog w = .ok (.bool (!(sameR e n K m s e' n' K' m' s'))) w := by
  rw [run_neq_struct, eqlIn_rep]; rfl
end Go.Proofs.YtkbeemkmcnfiiaaDoor
