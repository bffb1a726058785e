/- A command, a reply that came in, opened; and shut again. -/
import Derived.Test.YtkbeemkmcnfiiaaGreatDoorMCmAny
import Derived.Test.YtkbeemkmcnfiiaaGreatDoorMVFrame
import Derived.Deep.Strs
namespace Go.Proofs.YtkbeemkmcnfiiaaGreatDoor
open Go.ChangeShapes Go.WideShapes Go.ChangeAt Go.RowKit Go.Lib Go.Shelf

theorem cells_int : Tryz.prog.cellsOf 3 = 1 := by kernel_rfl
theorem cells_i64 : Tryz.prog.cellsOf 2 = 1 := by kernel_rfl
theorem cells_str : Tryz.prog.cellsOf 9 = 1 := by kernel_rfl
theorem cells_err : Tryz.prog.cellsOf 26 = 1 := by kernel_rfl
theorem cells_val : Tryz.prog.cellsOf 23 = 3 := by kernel_rfl
theorem cells_cmd : Tryz.prog.cellsOf 25 = 8 := by kernel_rfl
theorem cells_rep : Tryz.prog.cellsOf 28 = 5 := by kernel_rfl
section
variable {H : Type} {enc : TypeId × Value → H} {w : World} {base : Nat} {sp : Nat → Bool} {held : Bool}
def litI (z : Int) : DataW H := .lit (.int .i64 z)
def litS (s : ByteArray) : DataW H := .lit (.string s.data.toList)
set_option maxRecDepth 1000000 in
theorem val_read {fuel : Nat} {cs : List Value} {x : DataW H × List MemPlace} (h : DataW.trod enc Tryz.prog w base sp held fuel 23 cs = some x) :
    ∃ (K n : Int) (s : ByteArray), cs = [.int .i64 K, .int .i64 n, .string s] ∧ x = (.agg [litI K, litI n, litS s], []) ∧ (Lit.int .i64 K).wf = true ∧ (Lit.int .i64 n).wf = true ∧ s.size ≤ maxLen := by
  obtain ⟨y0, y1, y2, m, rfl, hl, h0, h1, h2⟩ := Go.Deep.trod_struct3 Tryz.underlying23 h
  rw [cells_val] at hl
  match cs, hl with
  | [c0, c1, c2], _ =>
    simp only [cells_int, cells_i64, cells_str, List.drop_zero, List.drop_succ_cons, List.take_succ_cons, List.take_zero] at h0 h1 h2
    obtain ⟨K, e0, rfl, w0⟩ := DataW.trod_int Tryz.underlying3 h0
    obtain ⟨n, e1, rfl, w1⟩ := DataW.trod_int Tryz.underlying2 h1
    obtain ⟨s, e2, rfl, w2⟩ := DataW.trod_string Tryz.underlying9 h2
    simp only [List.cons.injEq, and_true] at e0 e1 e2
    subst e0 e1 e2
    exact ⟨K, n, s, rfl, rfl, w0, w1, w2⟩
theorem lit_int {z : Int} {t : TypeId} (ht : Tryz.prog.underlying t = some (.int .i64)) (hz : (Lit.int .i64 z).wf = true) (k : Nat) : DataW.trod enc Tryz.prog w base sp held (k + 1) t [.int .i64 z] = some (litI z, []) := by
  simp [DataW.trod, ht, hz, litI]
theorem lit_str {s : ByteArray} (hs : s.size ≤ maxLen) (k : Nat) : DataW.trod enc Tryz.prog w base sp held (k + 1) 9 [.string s] = some (litS s, []) := by
  simp [DataW.trod, Tryz.underlying9, hs, litS]
set_option maxRecDepth 1000000 in
theorem val_shut {K n : Int} {s : ByteArray} (w0 : (Lit.int .i64 K).wf = true) (w1 : (Lit.int .i64 n).wf = true) (w2 : s.size ≤ maxLen) (k : Nat) :
    DataW.trod enc Tryz.prog w base sp held (k + 2) 23 [.int .i64 K, .int .i64 n, .string s] = some (.agg [litI K, litI n, litS s], []) := by
  have := Go.Deep.trod_struct3_mk (enc := enc) (P := Tryz.prog) (w := w) (base := base) (spare := sp) (held := held) (n := k + 1) (cs := [.int .i64 K, .int .i64 n, .string s]) (y0 := (litI K, [])) (y1 := (litI n, [])) (y2 := (litS s, [])) Tryz.underlying23 (by rw [cells_val]; rfl)
    (by simp only [cells_int, List.drop_zero, List.take_succ_cons, List.take_zero]; exact lit_int Tryz.underlying3 w0 k)
    (by simp only [cells_i64, List.drop_succ_cons, List.drop_zero, List.take_succ_cons, List.take_zero]; exact lit_int Tryz.underlying2 w1 k)
    (by simp only [cells_str, List.drop_succ_cons, List.drop_zero, List.take_succ_cons, List.take_zero]; exact lit_str w2 k)
  simpa using this
set_option maxRecDepth 1000000 in
theorem open_rep {r : Reach} {b0 : Nat} {v : Value} {d : DataW H} {p : List MemPlace}
    (hv : Value.okWide Tryz.prog w r b0 28 v) (h : DataW.Trod enc Tryz.prog w base sp held 28 v d p) :
    ∃ r : Rp, v = r.v ∧ p = [] ∧ (∀ w' sp', DataW.Trod enc Tryz.prog w' base sp' held 28 r.v d []) ∧ r.In ∧ r.s.size ≤ maxLen := by
  obtain ⟨cs, rfl, hsz⟩ := okWide_struct Tryz.underlying28 hv
  obtain ⟨fuel, hf⟩ := h
  obtain ⟨y0, y1, y2, m, hx, hl, h0, h1, h2⟩ := Go.Deep.trod_struct3 Tryz.underlying28 hf
  rw [cells_rep] at hl
  obtain ⟨L, hL⟩ : ∃ L, (Value.agg cs).cells.toList = L := ⟨_, rfl⟩
  rw [hL] at hl h0 h1 h2 hf
  match L, hl with
  | [c0, c1, c2, c3, c4], _ =>
    simp only [cells_int, cells_err, cells_val, List.drop_zero, List.drop_succ_cons, List.take_succ_cons, List.take_zero] at h0 h1 h2
    obtain ⟨e, e0, rfl, w0⟩ := DataW.trod_int Tryz.underlying26 h0
    obtain ⟨n, e1, rfl, w1⟩ := DataW.trod_int Tryz.underlying3 h1
    obtain ⟨K, m, s, e2, rfl, w2, w3, w4⟩ := val_read h2
    simp only [List.cons.injEq, and_true] at e0 e1 e2
    obtain ⟨e2, e3, e4⟩ := e2
    subst e0 e1 e2 e3 e4
    simp only [Prod.mk.injEq, List.append_nil] at hx
    obtain ⟨rfl, rfl⟩ := hx
    have hcs : cs = cs5 e n K m s := by
      obtain ⟨l⟩ := cs
      have hL : l = [.int .i64 e, .int .i64 n, .int .i64 K, .int .i64 m, .string s] := hL
      rw [hL]
    subst hcs
    have a0 := bounds_i64 w0
    have a1 := bounds_i64 w1
    have a2 := bounds_i64 w2
    have a3 := bounds_i64 w3
    refine ⟨⟨e, n, K, m, s⟩, rfl, rfl, fun w' sp' => ?_, ⟨a0.1, a0.2, a1.1, a1.2, a2.1, a2.2, a3.1, a3.2⟩, w4⟩
    have := Go.Deep.trod_struct3_mk (enc := enc) (P := Tryz.prog) (w := w') (base := base) (spare := sp') (held := held) (n := 2) (cs := [.int .i64 e, .int .i64 n, .int .i64 K, .int .i64 m, .string s]) (y0 := (litI e, [])) (y1 := (litI n, [])) (y2 := (.agg [litI K, litI m, litS s], [])) Tryz.underlying28 (by rw [cells_rep]; rfl)
      (by simp only [cells_err, List.drop_zero, List.take_succ_cons, List.take_zero]; exact lit_int Tryz.underlying26 w0 1)
      (by simp only [cells_int, List.drop_succ_cons, List.drop_zero, List.take_succ_cons, List.take_zero]; exact lit_int Tryz.underlying3 w1 1)
      (by simp only [cells_val, List.drop_succ_cons, List.drop_zero, List.take_succ_cons, List.take_zero]; exact val_shut w2 w3 w4 0)
    have t2 : DataW.trod enc Tryz.prog w' base sp' held 3 28 [.int .i64 e, .int .i64 n, .int .i64 K, .int .i64 m, .string s] = some (.agg [litI e, litI n, .agg [litI K, litI m, litS s]], []) := by simpa using this
    exact ⟨3, t2⟩
set_option maxRecDepth 1000000 in
theorem open_cmd {r : Reach} {b0 : Nat} {v : Value} {d : DataW H} {p : List MemPlace}
    (hv : Value.okWide Tryz.prog w r b0 25 v) (h : DataW.Trod enc Tryz.prog w base sp held 25 v d p) :
    ∃ c : Cm, v = c.v ∧ p = [] ∧ (∀ w' sp', DataW.Trod enc Tryz.prog w' base sp' held 25 c.v d []) ∧ c.In ∧ c.f.size ≤ maxLen ∧ c.s.size ≤ maxLen := by
  obtain ⟨cs, rfl, hsz⟩ := okWide_struct Tryz.underlying25 hv
  obtain ⟨fuel, hf⟩ := h
  obtain ⟨xs, m, _, hx, hl, hlen, hk⟩ := DataW.trod_struct Tryz.underlying25 hf
  rw [cells_cmd] at hl
  obtain ⟨L, hL⟩ : ∃ L, (Value.agg cs).cells.toList = L := ⟨_, rfl⟩
  rw [hL] at hl hk hf
  match xs, hlen with
  | [y0, y1, y2, y3, y4, y5], _ =>
    match L, hl with
    | [c0, c1, c2, c3, c4, c5, c6, c7], _ =>
      have h0 : DataW.trod enc Tryz.prog w base sp held m 3 [c0] = some y0 := by simpa [cells_int] using hk 0 _ rfl
      have h1 : DataW.trod enc Tryz.prog w base sp held m 3 [c1] = some y1 := by simpa [cells_int] using hk 1 _ rfl
      have h2 : DataW.trod enc Tryz.prog w base sp held m 3 [c2] = some y2 := by simpa [cells_int] using hk 2 _ rfl
      have h3 : DataW.trod enc Tryz.prog w base sp held m 9 [c3] = some y3 := by simpa [cells_str] using hk 3 _ rfl
      have h4 : DataW.trod enc Tryz.prog w base sp held m 3 [c4] = some y4 := by simpa [cells_int] using hk 4 _ rfl
      have h5 : DataW.trod enc Tryz.prog w base sp held m 23 [c5, c6, c7] = some y5 := by simpa [cells_val] using hk 5 _ rfl
      obtain ⟨kd, e0, rfl, w0⟩ := DataW.trod_int Tryz.underlying3 h0
      obtain ⟨se, e1, rfl, w1⟩ := DataW.trod_int Tryz.underlying3 h1
      obtain ⟨sq, e2, rfl, w2⟩ := DataW.trod_int Tryz.underlying3 h2
      obtain ⟨f, e3, rfl, w3⟩ := DataW.trod_string Tryz.underlying9 h3
      obtain ⟨ve, e4, rfl, w4⟩ := DataW.trod_int Tryz.underlying3 h4
      obtain ⟨K, n, s, e5, rfl, w5, w6, w7⟩ := val_read h5
      simp only [List.cons.injEq, and_true] at e0 e1 e2 e3 e4 e5
      obtain ⟨e5, e6, e7⟩ := e5
      subst e0 e1 e2 e3 e4 e5 e6 e7
      simp only [Prod.mk.injEq, List.map_cons, List.map_nil, List.flatMap_cons, List.flatMap_nil, List.append_nil] at hx
      obtain ⟨rfl, rfl⟩ := hx
      have hcs : cs = cs8 kd se sq f ve K n s := by
        obtain ⟨l⟩ := cs
        have hL : l = [.int .i64 kd, .int .i64 se, .int .i64 sq, .string f, .int .i64 ve, .int .i64 K, .int .i64 n, .string s] := hL
        rw [hL]
      subst hcs
      have a0 := bounds_i64 w0
      have a1 := bounds_i64 w1
      have a2 := bounds_i64 w2
      have a4 := bounds_i64 w4
      have a5 := bounds_i64 w5
      have a6 := bounds_i64 w6
      refine ⟨⟨kd, se, sq, f, ve, K, n, s⟩, rfl, rfl, fun w' sp' => ?_, ⟨a0.1, a0.2, a1.1, a1.2, a2.1, a2.2, a4.1, a4.2, a5.1, a5.2, a6.1, a6.2⟩, w3, w7⟩
      have i0 := lit_int (enc := enc) (w := w') (base := base) (sp := sp') (held := held) Tryz.underlying3 w0 1
      have i1 := lit_int (enc := enc) (w := w') (base := base) (sp := sp') (held := held) Tryz.underlying3 w1 1
      have i2 := lit_int (enc := enc) (w := w') (base := base) (sp := sp') (held := held) Tryz.underlying3 w2 1
      have i3 := lit_str (enc := enc) (w := w') (base := base) (sp := sp') (held := held) w3 1
      have i4 := lit_int (enc := enc) (w := w') (base := base) (sp := sp') (held := held) Tryz.underlying3 w4 1
      have i5 := val_shut (enc := enc) (w := w') (base := base) (sp := sp') (held := held) w5 w6 w7 0
      have := trod_struct_mk (enc := enc) (P := Tryz.prog) (w := w') (base := base) (spare := sp') (held := held) (n := 2) (cs := [.int .i64 kd, .int .i64 se, .int .i64 sq, .string f, .int .i64 ve, .int .i64 K, .int .i64 n, .string s])
        (xs := [(litI kd, []), (litI se, []), (litI sq, []), (litS f, []), (litI ve, []), (.agg [litI K, litI n, litS s], [])]) Tryz.underlying25 (by rw [cells_cmd]; rfl)
        (by simp only [List.mapM_cons, List.mapM_nil, cells_int, cells_str, cells_val, List.drop_zero, List.drop_succ_cons, List.take_succ_cons, List.take_zero, i0, i1, i2, i3, i4, i5]; rfl)
      have t2 : DataW.trod enc Tryz.prog w' base sp' held 3 25 [.int .i64 kd, .int .i64 se, .int .i64 sq, .string f, .int .i64 ve, .int .i64 K, .int .i64 n, .string s] = some (.agg [litI kd, litI se, litI sq, litS f, litI ve, .agg [litI K, litI n, litS s]], []) := by simpa using this
      exact ⟨3, t2⟩
end
end Go.Proofs.YtkbeemkmcnfiiaaGreatDoor
