/- A reply that came in, opened; and shut again. -/
import Derived.Test.YtkbeemkmcnfiiaaDoorMCmOne
import Derived.Test.YtkbeemkmcnfiiaaDoorMVFrame
import Derived.Deep.Strs
namespace Go.Proofs.YtkbeemkmcnfiiaaDoor
open Go.ChangeShapes Go.WideShapes Go.ChangeAt Go.RowKit Go.Lib Go.Shelf

abbrev Rp.v (r : Rp) : Value := V5 r.e r.n r.K r.m r.s
abbrev Rp.cs (r : Rp) : Array Value := cs5 r.e r.n r.K r.m r.s

theorem cells_int : Tryd.prog.cellsOf 3 = 1 := by kernel_rfl
theorem cells_i64 : Tryd.prog.cellsOf 2 = 1 := by kernel_rfl
theorem cells_str : Tryd.prog.cellsOf 9 = 1 := by kernel_rfl
theorem cells_err : Tryd.prog.cellsOf 22 = 1 := by kernel_rfl
theorem cells_val : Tryd.prog.cellsOf 24 = 3 := by kernel_rfl
theorem cells_rep : Tryd.prog.cellsOf 26 = 5 := by kernel_rfl
section
variable {H : Type} {enc : TypeId × Value → H} {w : World} {base : Nat} {sp : Nat → Bool} {held : Bool}
def litI (z : Int) : DataW H := .lit (.int .i64 z)
def litS (s : ByteArray) : DataW H := .lit (.string s.data.toList)
set_option maxRecDepth 1000000 in
theorem val_read {fuel : Nat} {cs : List Value} {x : DataW H × List MemPlace} (h : DataW.trod enc Tryd.prog w base sp held fuel 24 cs = some x) :
    ∃ (K n : Int) (s : ByteArray), cs = [.int .i64 K, .int .i64 n, .string s] ∧ x = (.agg [litI K, litI n, litS s], []) ∧ (Lit.int .i64 K).wf = true ∧ (Lit.int .i64 n).wf = true ∧ s.size ≤ maxLen := by
  obtain ⟨y0, y1, y2, m, rfl, hl, h0, h1, h2⟩ := Go.Deep.trod_struct3 Tryd.underlying24 h
  rw [cells_val] at hl
  match cs, hl with
  | [c0, c1, c2], _ =>
    simp only [cells_int, cells_i64, cells_str, List.drop_zero, List.drop_succ_cons, List.take_succ_cons, List.take_zero] at h0 h1 h2
    obtain ⟨K, e0, rfl, w0⟩ := DataW.trod_int Tryd.underlying3 h0
    obtain ⟨n, e1, rfl, w1⟩ := DataW.trod_int Tryd.underlying2 h1
    obtain ⟨s, e2, rfl, w2⟩ := DataW.trod_string Tryd.underlying9 h2
    simp only [List.cons.injEq, and_true] at e0 e1 e2
    subst e0 e1 e2
    exact ⟨K, n, s, rfl, rfl, w0, w1, w2⟩
theorem lit_int {z : Int} {t : TypeId} (ht : Tryd.prog.underlying t = some (.int .i64)) (hz : (Lit.int .i64 z).wf = true) (k : Nat) : DataW.trod enc Tryd.prog w base sp held (k + 1) t [.int .i64 z] = some (litI z, []) := by
  simp [DataW.trod, ht, hz, litI]
theorem lit_str {s : ByteArray} (hs : s.size ≤ maxLen) (k : Nat) : DataW.trod enc Tryd.prog w base sp held (k + 1) 9 [.string s] = some (litS s, []) := by
  simp [DataW.trod, Tryd.underlying9, hs, litS]
set_option maxRecDepth 1000000 in
theorem val_shut {K n : Int} {s : ByteArray} (w0 : (Lit.int .i64 K).wf = true) (w1 : (Lit.int .i64 n).wf = true) (w2 : s.size ≤ maxLen) (k : Nat) :
    DataW.trod enc Tryd.prog w base sp held (k + 2) 24 [.int .i64 K, .int .i64 n, .string s] = some (.agg [litI K, litI n, litS s], []) := by
  have := Go.Deep.trod_struct3_mk (enc := enc) (P := Tryd.prog) (w := w) (base := base) (spare := sp) (held := held) (n := k + 1) (cs := [.int .i64 K, .int .i64 n, .string s]) (y0 := (litI K, [])) (y1 := (litI n, [])) (y2 := (litS s, [])) Tryd.underlying24 (by rw [cells_val]; rfl)
    (by simp only [cells_int, List.drop_zero, List.take_succ_cons, List.take_zero]; exact lit_int Tryd.underlying3 w0 k)
    (by simp only [cells_i64, List.drop_succ_cons, List.drop_zero, List.take_succ_cons, List.take_zero]; exact lit_int Tryd.underlying2 w1 k)
    (by simp only [cells_str, List.drop_succ_cons, List.drop_zero, List.take_succ_cons, List.take_zero]; exact lit_str w2 k)
  simpa using this
set_option maxRecDepth 1000000 in
theorem open_rep {r : Reach} {b0 : Nat} {v : Value} {d : DataW H} {p : List MemPlace}
    (hv : Value.okWide Tryd.prog w r b0 26 v) (h : DataW.Trod enc Tryd.prog w base sp held 26 v d p) :
    ∃ r : Rp, v = r.v ∧ p = [] ∧ (∀ w' sp', DataW.Trod enc Tryd.prog w' base sp' held 26 r.v d []) ∧ r.In ∧ r.s.size ≤ maxLen := by
  obtain ⟨cs, rfl, hsz⟩ := okWide_struct Tryd.underlying26 hv
  obtain ⟨fuel, hf⟩ := h
  obtain ⟨y0, y1, y2, m, hx, hl, h0, h1, h2⟩ := Go.Deep.trod_struct3 Tryd.underlying26 hf
  rw [cells_rep] at hl
  obtain ⟨L, hL⟩ : ∃ L, (Value.agg cs).cells.toList = L := ⟨_, rfl⟩
  rw [hL] at hl h0 h1 h2 hf
  match L, hl with
  | [c0, c1, c2, c3, c4], _ =>
    simp only [cells_int, cells_err, cells_val, List.drop_zero, List.drop_succ_cons, List.take_succ_cons, List.take_zero] at h0 h1 h2
    obtain ⟨e, e0, rfl, w0⟩ := DataW.trod_int Tryd.underlying22 h0
    obtain ⟨n, e1, rfl, w1⟩ := DataW.trod_int Tryd.underlying3 h1
    obtain ⟨K, m, s, e2, rfl, w2, w3, w4⟩ := val_read h2
    simp only [List.cons.injEq, and_true] at e0 e1 e2
    obtain ⟨e2, e3, e4⟩ := e2
    subst e0 e1 e2 e3 e4
    simp only [Prod.mk.injEq, List.append_nil] at hx
    obtain ⟨rfl, rfl⟩ := hx
    have hcs : cs = cs5 e n K m s := by
      obtain ⟨l⟩ := cs
      have hL : l = [.int .i64 e, .int .i64 n, .int .i64 K, .int .i64 m, .string s] := hL
      rw [hL]
    subst hcs
    have a0 := bounds_i64 w0
    have a1 := bounds_i64 w1
    have a2 := bounds_i64 w2
    have a3 := bounds_i64 w3
    refine ⟨⟨e, n, K, m, s⟩, rfl, rfl, fun w' sp' => ?_, ⟨a0.1, a0.2, a1.1, a1.2, a2.1, a2.2, a3.1, a3.2⟩, w4⟩
    have := Go.Deep.trod_struct3_mk (enc := enc) (P := Tryd.prog) (w := w') (base := base) (spare := sp') (held := held) (n := 2) (cs := [.int .i64 e, .int .i64 n, .int .i64 K, .int .i64 m, .string s]) (y0 := (litI e, [])) (y1 := (litI n, [])) (y2 := (.agg [litI K, litI m, litS s], [])) Tryd.underlying26 (by rw [cells_rep]; rfl)
      (by simp only [cells_err, List.drop_zero, List.take_succ_cons, List.take_zero]; exact lit_int Tryd.underlying22 w0 1)
      (by simp only [cells_int, List.drop_succ_cons, List.drop_zero, List.take_succ_cons, List.take_zero]; exact lit_int Tryd.underlying3 w1 1)
      (by simp only [cells_val, List.drop_succ_cons, List.drop_zero, List.take_succ_cons, List.take_zero]; exact val_shut w2 w3 w4 0)
    have t2 : DataW.trod enc Tryd.prog w' base sp' held 3 26 [.int .i64 e, .int .i64 n, .int .i64 K, .int .i64 m, .string s] = some (.agg [litI e, litI n, .agg [litI K, litI m, litS s]], []) := by simpa using this
    exact ⟨3, t2⟩
end
end Go.Proofs.YtkbeemkmcnfiiaaDoor
