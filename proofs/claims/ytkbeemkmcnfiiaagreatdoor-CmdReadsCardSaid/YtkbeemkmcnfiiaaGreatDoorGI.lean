/- Several texts in one: LexN, LexEq. -/
import Derived.Test.YtkbeemkmcnfiiaaGreatDoorGH
import Derived.Test.YtkbeemkmcnfiiaaGreatDoorGF
import Derived.Laws.StructEq
import Derived.Deep.LoopGhost
namespace Go.Proofs.YtkbeemkmcnfiiaaGreatDoor
/- Plain mathematics and rows: a token of a formula and the next one; what a slice of a text holds. -/
section
open Go.RowKit

theorem lexR_few : ∀ (n : Nat) (R : List Pc) (p : Nat) (ts : List Tk), R.length ≤ n → lexR R p = .ok ts → ts.length ≤ R.length
  | n, [], p, ts, _, h => by
    rw [lexR_nil] at h
    injection h with h; subst h; simp
  | 0, x :: R, p, ts, hl, _ => by simp at hl
  | n + 1, x :: R, p, ts, hl, h => by
    simp only [List.length_cons] at hl ⊢
    by_cases hc : classZ (x.1 : Int) = 3
    · rw [lexR_blank _ _ _ hc] at h
      have := lexR_few n R _ ts (by omega) h
      omega
    · cases ht : tokF x R with
      | none => rw [lexR_none _ _ _ hc ht] at h; cases h
      | some f =>
        rw [lexR_some _ _ _ hc f ht] at h
        cases hr : lexR (R.drop f.j) (p + (flat (x :: R.take f.j)).length) with
        | error q => rw [hr] at h; cases h
        | ok us =>
          rw [hr] at h
          have e : [f.tk p] ++ us = ts := by injection h
          subst e
          have := lexR_few n (R.drop f.j) _ us (by rw [List.length_drop]; omega) hr
          rw [List.length_drop] at this
          simp only [List.length_append, List.length_singleton]; omega
theorem lex_few {s : ByteArray} {ts : List Tk} (h : lexL s.data.toList = .ok ts) : ts.length ≤ s.size := by
  have h1 := lexR_few _ _ 0 ts (Nat.le_refl _) h
  have h2 := flat_len (fit_mem s.data.toList)
  rw [flat_pcs, size_list] at h2
  omega
theorem tk_end_at (ts : List Tk) (n : Nat) : (ts ++ [endT n])[ts.length]? = some (endT n) := by simp
theorem tk_at (ts : List Tk) (n i : Nat) (t : Tk) (h : ts[i]? = some t) : (ts ++ [endT n])[i]? = some t := by
  have hl := (List.getElem?_eq_some_iff.1 h).1
  rw [List.getElem?_append_left hl]; exact h
/-- A token, and where the next one begins. -/
theorem tk_next {s : ByteArray} {ts : List Tk} (h : lexL s.data.toList = .ok ts) {i : Nat} {t : Tk} (ht : ts[i]? = some t) :
    ∃ u, (ts ++ [endT s.size])[i + 1]? = some u ∧ t.a < u.a ∧ u.a ≤ s.size ∧ lexL (s.extract t.a u.a).data.toList = .ok [⟨t.k, t.s, t.n, 0⟩] ∧ (t.k = 1 ∨ t.k = 2 ∨ t.k = 3 ∨ t.k = 4) ∧ ((t.k = 3 ∨ t.k = 4) → t.s <+: (s.extract t.a u.a).data.toList) ∧ t.n < 9223372036854775808 := by
  obtain ⟨b, h1, h2, h3, h4, h5, h6, h7, h8⟩ := lexL_seg h ht
  rw [size_list] at h2 h4
  have hl := (List.getElem?_eq_some_iff.1 ht).1
  have e : ∀ c, (s.extract t.a c).data.toList = (s.data.toList.take c).drop t.a := fun c => by rw [Lib.extract_data, List.drop_take]
  cases hn : ts[i + 1]? with
  | none =>
    have hb := h4 hn
    subst hb
    have hi : ts.length ≤ i + 1 := List.getElem?_eq_none_iff.1 hn
    have hts : ts.length = i + 1 := by omega
    refine ⟨endT s.size, ?_, h1, Nat.le_refl _, ?_, h6, ?_, h8⟩
    · rw [← hts]; exact tk_end_at ts s.size
    · show lexL (s.extract t.a s.size).data.toList = _
      rw [e]; exact h5
    · intro hk
      show t.s <+: (s.extract t.a s.size).data.toList
      rw [e]; exact h7 hk
  | some u =>
    have hb := h3 u hn
    subst hb
    refine ⟨u, tk_at ts s.size (i + 1) u hn, h1, h2, ?_, h6, ?_, h8⟩
    · rw [e]; exact h5
    · intro hk
      rw [e]; exact h7 hk
theorem still_four (w : World) (a b c d : Nat) : ∃ n, (((w.drewN a).drewN b).drewN c).drewN d = w.drewN n := by
  rw [World.drewN_drewN, World.drewN_drewN, World.drewN_drewN]; exact ⟨_, rfl⟩
theorem below_q {B : Nat} {a w : World} (h : Below B a w) (q : Nat) : Below B a (w.drewN q) := ⟨h.os, h.tape, h.output, h.size, h.block⟩
theorem cut_pre {T : ByteArray} {l : List UInt8} (h : l <+: T.data.toList) : l.length ≤ T.size ∧ T.extract 0 l.length = ⟨l.toArray⟩ := by
  obtain ⟨r, h⟩ := h
  have hl := congrArg List.length h
  rw [size_list, List.length_append] at hl
  refine ⟨by omega, ?_⟩
  apply ByteArray.ext
  apply Array.toList_inj.1
  rw [Lib.extract_data, ← h, List.drop_zero, Nat.sub_zero, List.take_left]
end
/- Two tokens compared: an equation of the operation. -/
section
open Go.RowKit
theorem beqB (s t : ByteArray) : (s == t) = true ↔ s = t := by
  rw [beq_toListBytes, beq_iff_eq, ByteArray.toList_eq, ByteArray.toList_eq]
  constructor
  · intro h; apply ByteArray.ext; exact Array.ext' h
  · rintro rfl; rfl
theorem beqB_refl (s : ByteArray) : (s == s) = true := (beqB s s).2 rfl
def sameT (K : Int) (s : ByteArray) (n a : Int) (L : Int) (t : ByteArray) (m b : Int) : Bool := K == L && (s == t && (n == m && a == b))
theorem sameT_refl (K : Int) (s : ByteArray) (n a : Int) : sameT K s n a K s n a = true := by simp [sameT, beqB_refl]
set_option maxRecDepth 100000 in
theorem eqlIn_tok (K : Int) (s : ByteArray) (n a : Int) (L : Int) (t : ByteArray) (m b : Int) (w : World) : (Op.equalIn 10000 71 (T4 K s n a) (T4 L t m b)).run Tryz.prog w = .ok (sameT K s n a L t m b) w := by
  unfold sameT
  rw [run_equalIn_agg w 9999 71 _ _ (by kernel_rfl) (by kernel_rfl)]
  simp [Program.fieldsOf, Tryz.underlying71, Op.eqFields, part, run_equalIn_int _ _ _ _ _ _ _ Tryz.underlying3, run_equalIn_int _ _ _ _ _ _ _ Tryz.underlying2, run_equalIn_string _ _ _ _ _ Tryz.underlying9, Tryz.isAgg3, Tryz.isAgg2, Tryz.isAgg9, beq_toListBytes]
  by_cases h1 : K = L <;> by_cases h2 : n = m <;> by_cases h3 : s.toList = t.toList <;> by_cases h4 : a = b <;> simp [h1, h2, h3, h4]
theorem eql_tok (K : Int) (s : ByteArray) (n a : Int) (L : Int) (t : ByteArray) (m b : Int) (w : World) : (binOp .eql 71 (T4 K s n a) (T4 L t m b)).run Tryz.prog w = .ok (.bool (sameT K s n a L t m b)) w := by
  rw [run_eql_struct, eqlIn_tok]; rfl
theorem neq_tok (K : Int) (s : ByteArray) (n a : Int) (L : Int) (t : ByteArray) (m b : Int) (w : World) : (binOp .neq 71 (T4 K s n a) (T4 L t m b)).run Tryz.prog w = .ok (.bool (!(sameT K s n a L t m b))) w := by
  rw [run_neq_struct, eqlIn_tok]; rfl
end
end Go.Proofs.YtkbeemkmcnfiiaaGreatDoor
