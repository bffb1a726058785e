/- A list of calls that came in, opened: nine cells each. -/
import Derived.Test.YtindkpfmflcibaaDoorMSsC
import Derived.ProofKit
import Derived.Lib.SmallJoins
import Derived.Carry
import Derived.Deep.Strs
import Derived.Lib.ItoaMem
namespace Go.Proofs.YtindkpfmflcibaaDoor
open Go.ChangeShapes Go.WideShapes Go.ChangeAt Go.RowKit Go.Lib Go.Shelf

section
variable {H : Type} {enc : TypeId × Value → H} {w : World}
theorem cells_at9 {base n : Nat} {a : Addr} {cs : List Value} (h : w.cells? base a n = some cs) : cs.length = n ∧ ∀ i u, cs[i]? = some u → w.cell? (a.add i) = some u := by
  unfold World.cells? at h
  split at h
  · have hl := mapM_some_length h
    rw [List.length_range] at hl
    refine ⟨hl, fun i u hu => ?_⟩
    have hi : i < n := by rw [← hl]; exact (List.getElem?_eq_some_iff.1 hu).1
    have := mapM_some_get h i i (by simp [hi])
    rw [this]; exact hu
  · cases h
theorem int9 {t : TypeId} (ht : Tryd.prog.underlying t = some (.int .i64)) {fuel : Nat} {v : Value} {y : DataW H × List MemPlace} {base : Nat} {sp : Nat → Bool} {held : Bool} (h : DataW.trod enc Tryd.prog w base sp held fuel t [v] = some y) : ∃ k : Int, v = .int .i64 k ∧ -9223372036854775808 ≤ k ∧ k ≤ 9223372036854775807 := by
  obtain ⟨k, e, -, wf⟩ := DataW.trod_int ht h
  exact ⟨k, by simpa using e, bounds_i64 wf⟩
theorem str9 {fuel : Nat} {v : Value} {y : DataW H × List MemPlace} {base : Nat} {sp : Nat → Bool} {held : Bool} (h : DataW.trod enc Tryd.prog w base sp held fuel 9 [v] = some y) : ∃ s : ByteArray, v = .string s ∧ y = (.lit (.string s.data.toList), []) := by
  obtain ⟨s, e, hy, -⟩ := DataW.trod_string Tryd.underlying9 h
  exact ⟨s, by simpa using e, hy⟩
theorem weights_all9 {P : Program} {e : TypeId} {d : DataW H} : ∀ {l : List (DataW H)}, d ∈ l → ∀ k ∈ d.weights P e, k ∈ DataW.weightsAll P e l
  | x :: l, h, k, hk => by
    rw [DataW.weightsAll, List.mem_append]
    rcases List.mem_cons.1 h with rfl | h
    · exact .inl hk
    · exact .inr (weights_all9 h k hk)
theorem cells9_int : Tryd.prog.cellsOf 3 = 1 := by kernel_rfl
theorem cells9_i64 : Tryd.prog.cellsOf 2 = 1 := by kernel_rfl
theorem cells9_str : Tryd.prog.cellsOf 9 = 1 := by kernel_rfl
theorem cells9_err : Tryd.prog.cellsOf 27 = 1 := by kernel_rfl
theorem cells9_val : Tryd.prog.cellsOf 29 = 3 := by kernel_rfl
theorem cells9_rep : Tryd.prog.cellsOf 31 = 5 := by kernel_rfl
theorem cells9_row : Tryd.prog.cellsOf 40 = 1 := by kernel_rfl
theorem cells9_op : Tryd.prog.cellsOf 42 = 9 := by kernel_rfl
set_option maxRecDepth 1000000 in
/-- Three cells that read as a value. -/
theorem val9 {fuel : Nat} {cs : List Value} {x : DataW H × List MemPlace} (h : DataW.trod enc Tryd.prog w 0 (fun _ => true) true fuel 29 cs = some x) (hwt : ∀ k ∈ DataW.weights Tryd.prog 29 x.1, k ≤ reachBytes) :
    ∃ (K n : Int) (s : ByteArray), cs = [.int .i64 K, .int .i64 n, .string s] ∧ (-9223372036854775808 ≤ K ∧ K ≤ 9223372036854775807) ∧ (-9223372036854775808 ≤ n ∧ n ≤ 9223372036854775807) ∧ s.size ≤ reachBytes := by
  obtain ⟨y0, y1, y2, m, hx, hl, h0, h1, h2⟩ := Go.Deep.trod_struct3 Tryd.underlying29 h
  rw [cells9_val] at hl
  match cs, hl with
  | [c0, c1, c2], _ =>
    simp only [cells9_int, cells9_i64, cells9_str, List.drop_zero, List.drop_succ_cons, List.take_succ_cons, List.take_zero] at h0 h1 h2
    obtain ⟨K, rfl, w0⟩ := int9 Tryd.underlying3 h0
    obtain ⟨n, rfl, w1⟩ := int9 Tryd.underlying2 h1
    obtain ⟨s, rfl, hs⟩ := str9 h2
    have hy : ∀ k ∈ DataW.weights Tryd.prog 9 y2.1, k ≤ reachBytes := fun k hk => by
      refine hwt k ?_
      rw [hx]
      simp only [DataW.weights, Tryd.underlying29, List.map_cons, List.map_nil]
      exact DataW.weights_mem_each (j := 2) (t := 9) rfl rfl k hk
    have hz : s.data.toList.length ≤ reachBytes := hy _ (by rw [hs]; simp [DataW.weights])
    exact ⟨K, n, s, rfl, w0, w1, by show s.data.size ≤ _; rw [← Array.length_toList]; exact hz⟩
set_option maxRecDepth 1000000 in
/-- Five cells that read as a reply. -/
theorem rep9 {fuel : Nat} {cs : List Value} {x : DataW H × List MemPlace} (h : DataW.trod enc Tryd.prog w 0 (fun _ => true) true fuel 31 cs = some x) (hwt : ∀ k ∈ DataW.weights Tryd.prog 31 x.1, k ≤ reachBytes) :
    ∃ r : Rp, cs = [.int .i64 r.e, .int .i64 r.n, .int .i64 r.K, .int .i64 r.m, .string r.s] ∧ r.In ∧ r.s.size ≤ reachBytes := by
  obtain ⟨y0, y1, y2, m, hx, hl, h0, h1, h2⟩ := Go.Deep.trod_struct3 Tryd.underlying31 h
  rw [cells9_rep] at hl
  match cs, hl with
  | [c0, c1, c2, c3, c4], _ =>
    simp only [cells9_int, cells9_err, cells9_val, List.drop_zero, List.drop_succ_cons, List.take_succ_cons, List.take_zero] at h0 h1 h2
    obtain ⟨e, rfl, w0⟩ := int9 Tryd.underlying27 h0
    obtain ⟨n, rfl, w1⟩ := int9 Tryd.underlying3 h1
    have hy : ∀ k ∈ DataW.weights Tryd.prog 29 y2.1, k ≤ reachBytes := fun k hk => by
      refine hwt k ?_
      rw [hx]
      simp only [DataW.weights, Tryd.underlying31, List.map_cons, List.map_nil]
      exact DataW.weights_mem_each (j := 2) (t := 29) rfl rfl k hk
    obtain ⟨K, q, s, e2, w2, w3, w4⟩ := val9 h2 hy
    simp only [List.cons.injEq, and_true] at e2
    obtain ⟨rfl, rfl, rfl⟩ := e2
    exact ⟨⟨e, n, K, q, s⟩, rfl, ⟨w0.1, w0.2, w1.1, w1.2, w2.1, w2.2, w3.1, w3.2⟩, w4⟩
set_option maxRecDepth 1000000 in
/-- Nine cells that read as a call. -/
theorem op9 {fuel : Nat} {cs : List Value} {x : DataW H × List MemPlace} (h : DataW.trod enc Tryd.prog w 0 (fun _ => true) true fuel 42 cs = some x) (hwt : ∀ k ∈ DataW.weights Tryd.prog 42 x.1, k ≤ reachBytes) :
    ∃ (o : Oq) (u : Value), cs = [.int .i64 o.k, .int .i64 o.id, .int .i64 o.at_, .int .i64 o.r.e, .int .i64 o.r.n, .int .i64 o.r.K, .int .i64 o.r.m, .string o.r.s, u] ∧ o.In := by
  obtain ⟨xs, m, _, hx, hl, hlen, hk⟩ := DataW.trod_struct Tryd.underlying42 h
  rw [cells9_op] at hl
  match xs, hlen with
  | [y0, y1, y2, y3, y4], _ =>
    match cs, hl with
    | [c0, c1, c2, c3, c4, c5, c6, c7, c8], _ =>
      have h0 : DataW.trod enc Tryd.prog w 0 (fun _ => true) true m 3 [c0] = some y0 := by simpa [cells9_int] using hk 0 _ rfl
      have h1 : DataW.trod enc Tryd.prog w 0 (fun _ => true) true m 3 [c1] = some y1 := by simpa [cells9_int] using hk 1 _ rfl
      have h2 : DataW.trod enc Tryd.prog w 0 (fun _ => true) true m 3 [c2] = some y2 := by simpa [cells9_int] using hk 2 _ rfl
      have h3 : DataW.trod enc Tryd.prog w 0 (fun _ => true) true m 31 [c3, c4, c5, c6, c7] = some y3 := by simpa [cells9_rep] using hk 3 _ rfl
      obtain ⟨kd, rfl, w0⟩ := int9 Tryd.underlying3 h0
      obtain ⟨id, rfl, w1⟩ := int9 Tryd.underlying3 h1
      obtain ⟨a, rfl, w2⟩ := int9 Tryd.underlying3 h2
      have hy : ∀ k ∈ DataW.weights Tryd.prog 31 y3.1, k ≤ reachBytes := fun k hk2 => by
        refine hwt k ?_
        rw [hx]
        simp only [DataW.weights, Tryd.underlying42, List.map_cons, List.map_nil]
        exact DataW.weights_mem_each (j := 3) (t := 31) rfl rfl k hk2
      obtain ⟨r, e, hr, hs⟩ := rep9 h3 hy
      simp only [List.cons.injEq, and_true] at e
      obtain ⟨rfl, rfl, rfl, rfl, rfl⟩ := e
      exact ⟨⟨kd, id, a, r⟩, c8, rfl, ⟨w0.1, w0.2, w1.1, w1.2, w2.1, w2.2, hr, by unfold reachBytes at hs; show r.s.size < _; omega⟩⟩
set_option maxRecDepth 1000000 in
/-- A list of calls that came in. -/
theorem open_ops {r : Reach} {b0 : Nat} {v : Value} {d : DataW H} {p : List MemPlace} (hv : Value.okWide Tryd.prog w r b0 39 v) (h : DataW.Trod enc Tryd.prog w 0 (fun _ => true) true 39 v d p) (hwt : ∀ k ∈ DataW.weights Tryd.prog 39 d, k ≤ reachBytes) :
    ∃ (B : Option Addr) (V : List Oq) (cap : Nat), v = .slice B V.length cap ∧ V.length ≤ 17592186044416 ∧ OpsAt w w.heap.size B V ∧ (∀ o ∈ V, o.In) := by
  obtain ⟨a0, len0, cap0, rfl⟩ := okWide_slice Tryd.underlying39 hv
  obtain ⟨fuel, hf⟩ := h
  rcases DataW.trod_slice Tryd.underlying39 hf with ⟨hc3, -⟩ | ⟨a, len, cap, elems, rest, n2, hn2, hc3, hy3, -, hlc, hcm, hlen, hel, -, -⟩
  · simp [Value.cells] at hc3
    obtain ⟨rfl, rfl, rfl⟩ := hc3
    exact ⟨none, [], 0, rfl, by simp, fun h0 => absurd h0 (by simp), by simp⟩
  · simp [Value.cells] at hc3
    obtain ⟨rfl, rfl, rfl⟩ := hc3
    have be : Tryd.prog.bytesOf 42 = 96 := by kernel_rfl
    have hwd : ∀ k ∈ DataW.weights Tryd.prog 39 d, k ≤ reachBytes := hwt
    simp only [Prod.mk.injEq] at hy3
    obtain ⟨hd3, -⟩ := hy3
    have hlb : (elems.length + rest.length) * 96 ≤ reachBytes := hwd _ (by
      rw [hd3]
      simp only [DataW.weights, Tryd.underlying39, be, List.length_map]
      exact .head _)
    unfold reachBytes at hlb
    rw [cells9_op] at hel
    have hspot : 0 < len0 → a.spot = none := fun h0 => by
      have h1 := hel 0 h0
      rw [List.getElem?_eq_getElem (by omega)] at h1
      obtain ⟨cs', h2, h3⟩ := Option.bind_eq_some_iff.1 h1
      obtain ⟨h4, h5⟩ := cells_at9 h2
      obtain ⟨u, hu⟩ : ∃ u, cs'[0]? = some u := ⟨_, List.getElem?_eq_getElem (by omega)⟩
      have := World.cell?_spot (h5 0 u hu)
      simpa [Addr.add] using this
    obtain ⟨g, o, spot⟩ := a
    have hone : ∀ i : Fin len0, ∃ x : Oq, OpAt w g (o + i.1 * 9) x ∧ x.In := fun ⟨i, hi⟩ => by
      obtain rfl : spot = none := hspot (by omega)
      have h1 := hel i hi
      rw [List.getElem?_eq_getElem (by omega)] at h1
      obtain ⟨cs', h2, h3⟩ := Option.bind_eq_some_iff.1 h1
      obtain ⟨h4, h5⟩ := cells_at9 h2
      obtain ⟨x, u, rfl, hI⟩ := op9 h3 (fun k hk => hwd k (by
        rw [hd3]
        simp only [DataW.weights, Tryd.underlying39]
        refine List.mem_cons_of_mem _ (List.mem_append.2 (.inl (weights_all9 ?_ k hk)))
        exact List.mem_map.2 ⟨elems[i]'(by omega), by simp, rfl⟩))
      have ad : ∀ j, ((⟨g, o, none⟩ : Addr).add (i * 9)).add j = ⟨g, o + i * 9 + j, none⟩ := fun j => by rw [Go.Deep.add_add, Go.Lib.add_plain]; simp
      have c0 := h5 0 _ rfl
      have c1 := h5 1 _ rfl
      have c2 := h5 2 _ rfl
      have c3 := h5 3 _ rfl
      have c4 := h5 4 _ rfl
      have c5 := h5 5 _ rfl
      have c6 := h5 6 _ rfl
      have c7 := h5 7 _ rfl
      rw [ad] at c0 c1 c2 c3 c4 c5 c6 c7
      exact ⟨x, ⟨c0, c1, c2, c3, c4, c5, c6, c7⟩, hI⟩
    obtain ⟨f, hf2⟩ := Classical.axiomOfChoice hone
    have hVl : (List.ofFn f).length = len0 := List.length_ofFn
    refine ⟨some ⟨g, o, spot⟩, List.ofFn f, cap0, by rw [hVl], by omega, fun h0 => ?_, fun x hx => ?_⟩
    · obtain rfl : spot = none := hspot (by omega)
      have hlt : g < w.heap.size := by
        have := (hf2 ⟨0, by rw [← hVl]; exact h0⟩).1.c0
        rcases Nat.lt_or_ge g w.heap.size with h1 | h1
        · exact h1
        · unfold World.cell? at this
          rw [Array.getElem?_eq_none h1] at this
          cases this
      refine ⟨g, o, rfl, hlt, fun k hk => ?_⟩
      have hkl : k < len0 := by rw [← hVl]; exact hk
      have hv2 : (List.ofFn f)[k] = f ⟨k, hkl⟩ := by simp
      rw [hv2]
      exact (hf2 ⟨k, hkl⟩).1
    · obtain ⟨i, hi⟩ := List.mem_iff_getElem.1 hx
      obtain ⟨hi, rfl⟩ := hi
      have : (List.ofFn f)[i] = f ⟨i, by omega⟩ := by simp
      rw [this]
      exact (hf2 ⟨i, by omega⟩).2
end
end Go.Proofs.YtindkpfmflcibaaDoor
