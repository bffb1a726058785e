/- Several texts in one: SsA, SsJ. -/
import Derived.Test.YtindkpfmflcibaaGreatDoorMSsU
import Derived.Test.YtindkpfmflcibaaGreatDoorMSsP
import Derived.Test.YtindkpfmflcibaaGreatDoorBP
import Derived.Test.YtindkpfmflcibaaGreatDoorGB
import Derived.ProofKit
import Derived.Lib.SmallJoins
import Derived.Carry
import Derived.Deep.Strs
import Derived.Lib.ItoaMem
namespace Go.Proofs.YtindkpfmflcibaaGreatDoor
/- The document's example. -/
section
open Go.RowKit Go.Maps Go.Sort Go.Shelf
set_option linter.unusedSimpArgs false

theorem two_ints (w : World) (a b : Int) (t : TypeId) : Is (w.alloc (.cells #[.int .i64 a, .int .i64 b] t)) (some ⟨w.heap.size, 0, none⟩) [a, b] := fun _ => by
  obtain ⟨c0, c1, -⟩ := two_new w (.int .i64 a) (.int .i64 b) t
  refine ⟨w.heap.size, 0, rfl, fun j hj => ?_⟩
  match j, hj with
  | 0, _ => exact c0
  | 1, _ => exact c1
theorem But2.low {a b B : Nat} {w w' : World} (h : But2 a b w w') (ha : w.heap.size ≤ a ∨ B ≤ a) (hb : B ≤ b) (hs : B ≤ w.heap.size) : Below B w w' :=
  ⟨h.os, h.tape, h.output, h.size, fun k hk => h.block k (by omega) (by omega) (by omega)⟩
set_option maxHeartbeats 4000000 in
set_option maxRecDepth 100000 in
theorem stawake_any (w : World) : Calls Tryz.prog 6 #[] w fun e w' => e = .returned (.bool true) ∧ Below w.heap.size w w' := by
  have e1 : cutM 2 = 2 := by decide
  have c1 := stnew_any 2 w
  rw [e1] at c1
  go_enter Tryz.func6, Tryz.ntmps6
  go_wp2_with fail
  refine c1.mono ?_
  rintro e w1 ⟨T, r, rfl, H1, hT, hr, hb1⟩
  have c2 := stopen_any T r 2 [] 3 w1 H1
  rw [show openS 2 3 [] = ((0, true), [newS 3]) by kernel_rfl] at c2
  dsimp only at c2
  have hs1 := hb1.size
  have HB1 := Lib.hid hb1
  clear hb1 c1
  go_wp2_with fail
  refine c2.mono ?_
  rintro e w2 ⟨rfl, H2, B2⟩
  have HB2 := Lib.hid (HB1.out.trans (B2.low (.inr hs1) hr hs1))
  have c3 := stopen_any T r 2 _ 5 w2 H2
  rw [show openS 2 5 [newS 3] = ((0, true), [newS 3, newS 5]) by kernel_rfl] at c3
  dsimp only at c3
  clear B2 c2
  go_wp2_with fail
  refine c3.mono ?_
  rintro e w3 ⟨rfl, H3, B3⟩
  have HB3 := Lib.hid (HB2.out.trans (B3.low (.inr HB2.out.size) hr HB2.out.size))
  have c4 := stuse_any T r 2 _ 3 9 w3 H3
  rw [show useS 3 9 [newS 3, newS 5] = (true, [useF 9 (newS 3), newS 5]) by kernel_rfl] at c4
  dsimp only at c4
  clear B3 c3
  go_wp2_with fail
  refine c4.mono ?_
  rintro e w4 ⟨rfl, H4, B4⟩
  have HB4 := Lib.hid (HB3.out.trans (B4.low (.inr HB3.out.size) hr HB3.out.size))
  have c5 := stopen_any T r 2 _ 11 w4 H4
  rw [show openS 2 11 [useF 9 (newS 3), newS 5] = ((5, true), [useF 9 (newS 3), newS 11]) by kernel_rfl] at c5
  dsimp only at c5
  clear B4 c4
  go_wp2_with fail
  refine c5.mono ?_
  rintro e w5 ⟨rfl, H5, B5⟩
  have HB5 := Lib.hid (HB4.out.trans (B5.low (.inr HB4.out.size) hr HB4.out.size))
  have c6 := stids_any T r 2 _ w5 H5
  rw [show List.map Se.id [useF 9 (newS 3), newS 11] = [3, 11] by kernel_rfl] at c6
  clear B5 c5
  go_wp2_with fail
  refine c6.mono ?_
  rintro e w6 ⟨A, cap, rfl, -, hI, -, -, hb6⟩
  have HB6 := Lib.hid (HB5.out.trans (hb6.mono HB5.out.size))
  have HI := Lib.hid hI
  clear hb6 c6 hI
  have c7 := Ss.same_any A (some ⟨w6.heap.size, 0, none⟩) [3, 11] [3, 11] cap 2 _ (by decide) (HI.out.below (Ss.below_alloc w6 (.cells #[.int .i64 3, .int .i64 11] 3))) (two_ints w6 3 11 3)
  go_wp2_with fail
  refine c7.mono ?_
  rintro e w7 ⟨rfl, hb7⟩
  have HB7 := Lib.hid (HB6.out.trans (((Ss.below_alloc w6 (.cells #[.int .i64 3, .int .i64 11] 3)).mono HB6.out.size).trans (hb7.mono (by have := HB6.out.size; simp; omega))))
  clear hb7 c7
  go_wp2_with fail
  go_ret
  exact ⟨rfl, HB7.out⟩
end
/- A list of calls that came in, opened: nine cells each, the ninth a row of bytes. -/
section
open Go.ChangeShapes Go.WideShapes Go.ChangeAt Go.RowKit Go.Lib Go.Shelf

/-- A call that came in, and where it lies. -/
structure Oq where
  k : Int
  id : Int
  at_ : Int
  r : Rp
  B : Option Addr
  X : List UInt8
  c : Nat
structure OpAt (w : World) (b off : Nat) (o : Oq) : Prop where
  c0 : w.cell? ⟨b, off, none⟩ = some (.int .i64 o.k)
  c1 : w.cell? ⟨b, off + 1, none⟩ = some (.int .i64 o.id)
  c2 : w.cell? ⟨b, off + 2, none⟩ = some (.int .i64 o.at_)
  c3 : w.cell? ⟨b, off + 3, none⟩ = some (.int .i64 o.r.e)
  c4 : w.cell? ⟨b, off + 4, none⟩ = some (.int .i64 o.r.n)
  c5 : w.cell? ⟨b, off + 5, none⟩ = some (.int .i64 o.r.K)
  c6 : w.cell? ⟨b, off + 6, none⟩ = some (.int .i64 o.r.m)
  c7 : w.cell? ⟨b, off + 7, none⟩ = some (.string o.r.s)
  c8 : w.cell? ⟨b, off + 8, none⟩ = some (.slice o.B o.X.length o.c)
theorem OpAt.same {w w' : World} {b off : Nat} {o : Oq} (h : OpAt w b off o) (hb : w'.heap[b]? = w.heap[b]?) : OpAt w' b off o := by
  have key : ∀ i, w'.cell? ⟨b, i, none⟩ = w.cell? ⟨b, i, none⟩ := fun i => World.cell?_of_block (w := w) (a := ⟨b, i, none⟩) hb
  exact ⟨(key _).trans h.c0, (key _).trans h.c1, (key _).trans h.c2, (key _).trans h.c3, (key _).trans h.c4, (key _).trans h.c5, (key _).trans h.c6, (key _).trans h.c7, (key _).trans h.c8⟩
/-- Calls lie somewhere, below a bound. -/
def OpsAt (w : World) (B : Nat) (A : Option Addr) (Z : List Oq) : Prop := 0 < Z.length → ∃ b off, A = some ⟨b, off, none⟩ ∧ b < B ∧ ∀ j (hj : j < Z.length), OpAt w b (off + j * 9) Z[j]
theorem OpsAt.below {w w' : World} {B : Nat} {A : Option Addr} {Z : List Oq} (h : OpsAt w B A Z) (hb : Below B w w') : OpsAt w' B A Z := fun h0 => by
  obtain ⟨b, off, rfl, hlt, hc⟩ := h h0
  exact ⟨b, off, rfl, hlt, fun j hj => (hc j hj).same (hb.block b hlt)⟩
structure Oq.In (w : World) (o : Oq) : Prop where
  k0 : -9223372036854775808 ≤ o.k
  k1 : o.k ≤ 9223372036854775807
  i0 : -9223372036854775808 ≤ o.id
  i1 : o.id ≤ 9223372036854775807
  a0 : -9223372036854775808 ≤ o.at_
  a1 : o.at_ ≤ 9223372036854775807
  r : o.r.In
  s : o.r.s.size ≤ 9223372036854775807
  xl : o.X.length ≤ o.c
  xm : o.c ≤ 140737488351232
  xb : Bs w o.B o.X
  xn : o.B = none → o.c = 0

section
variable {H : Type} {enc : TypeId × Value → H} {w : World}
theorem cells_at9 {base n : Nat} {a : Addr} {cs : List Value} (h : w.cells? base a n = some cs) : cs.length = n ∧ ∀ i u, cs[i]? = some u → w.cell? (a.add i) = some u := by
  unfold World.cells? at h
  split at h
  · have hl := mapM_some_length h
    rw [List.length_range] at hl
    refine ⟨hl, fun i u hu => ?_⟩
    have hi : i < n := by rw [← hl]; exact (List.getElem?_eq_some_iff.1 hu).1
    have := mapM_some_get h i i (by simp [hi])
    rw [this]; exact hu
  · cases h
theorem int9 {t : TypeId} (ht : Tryz.prog.underlying t = some (.int .i64)) {fuel : Nat} {v : Value} {y : DataW H × List MemPlace} {base : Nat} {sp : Nat → Bool} {held : Bool} (h : DataW.trod enc Tryz.prog w base sp held fuel t [v] = some y) : ∃ k : Int, v = .int .i64 k ∧ -9223372036854775808 ≤ k ∧ k ≤ 9223372036854775807 := by
  obtain ⟨k, e, -, wf⟩ := DataW.trod_int ht h
  exact ⟨k, by simpa using e, bounds_i64 wf⟩
theorem str9 {fuel : Nat} {v : Value} {y : DataW H × List MemPlace} {base : Nat} {sp : Nat → Bool} {held : Bool} (h : DataW.trod enc Tryz.prog w base sp held fuel 9 [v] = some y) : ∃ s : ByteArray, v = .string s ∧ y = (.lit (.string s.data.toList), []) := by
  obtain ⟨s, e, hy, -⟩ := DataW.trod_string Tryz.underlying9 h
  exact ⟨s, by simpa using e, hy⟩
theorem weights_all9 {P : Program} {e : TypeId} {d : DataW H} : ∀ {l : List (DataW H)}, d ∈ l → ∀ k ∈ d.weights P e, k ∈ DataW.weightsAll P e l
  | x :: l, h, k, hk => by
    rw [DataW.weightsAll, List.mem_append]
    rcases List.mem_cons.1 h with rfl | h
    · exact .inl hk
    · exact .inr (weights_all9 h k hk)
theorem cells9_int : Tryz.prog.cellsOf 3 = 1 := by kernel_rfl
theorem cells9_i64 : Tryz.prog.cellsOf 2 = 1 := by kernel_rfl
theorem cells9_str : Tryz.prog.cellsOf 9 = 1 := by kernel_rfl
theorem cells9_err : Tryz.prog.cellsOf 30 = 1 := by kernel_rfl
theorem cells9_val : Tryz.prog.cellsOf 32 = 3 := by kernel_rfl
theorem cells9_rep : Tryz.prog.cellsOf 34 = 5 := by kernel_rfl
theorem cells9_row : Tryz.prog.cellsOf 35 = 1 := by kernel_rfl
theorem cells9_u8 : Tryz.prog.cellsOf 5 = 1 := by kernel_rfl
theorem cells9_op : Tryz.prog.cellsOf 37 = 9 := by kernel_rfl
set_option maxRecDepth 1000000 in
/-- Three cells that read as a value. -/
theorem val9 {fuel : Nat} {cs : List Value} {x : DataW H × List MemPlace} (h : DataW.trod enc Tryz.prog w 0 (fun _ => true) true fuel 32 cs = some x) (hwt : ∀ k ∈ DataW.weights Tryz.prog 32 x.1, k ≤ reachBytes) :
    ∃ (K n : Int) (s : ByteArray), cs = [.int .i64 K, .int .i64 n, .string s] ∧ (-9223372036854775808 ≤ K ∧ K ≤ 9223372036854775807) ∧ (-9223372036854775808 ≤ n ∧ n ≤ 9223372036854775807) ∧ s.size ≤ reachBytes := by
  obtain ⟨y0, y1, y2, m, hx, hl, h0, h1, h2⟩ := Go.Deep.trod_struct3 Tryz.underlying32 h
  rw [cells9_val] at hl
  match cs, hl with
  | [c0, c1, c2], _ =>
    simp only [cells9_int, cells9_i64, cells9_str, List.drop_zero, List.drop_succ_cons, List.take_succ_cons, List.take_zero] at h0 h1 h2
    obtain ⟨K, rfl, w0⟩ := int9 Tryz.underlying3 h0
    obtain ⟨n, rfl, w1⟩ := int9 Tryz.underlying2 h1
    obtain ⟨s, rfl, hs⟩ := str9 h2
    have hy : ∀ k ∈ DataW.weights Tryz.prog 9 y2.1, k ≤ reachBytes := fun k hk => by
      refine hwt k ?_
      rw [hx]
      simp only [DataW.weights, Tryz.underlying32, List.map_cons, List.map_nil]
      exact DataW.weights_mem_each (j := 2) (t := 9) rfl rfl k hk
    have hz : s.data.toList.length ≤ reachBytes := hy _ (by rw [hs]; simp [DataW.weights])
    exact ⟨K, n, s, rfl, w0, w1, by show s.data.size ≤ _; rw [← Array.length_toList]; exact hz⟩
set_option maxRecDepth 1000000 in
/-- Five cells that read as a reply. -/
theorem rep9 {fuel : Nat} {cs : List Value} {x : DataW H × List MemPlace} (h : DataW.trod enc Tryz.prog w 0 (fun _ => true) true fuel 34 cs = some x) (hwt : ∀ k ∈ DataW.weights Tryz.prog 34 x.1, k ≤ reachBytes) :
    ∃ r : Rp, cs = [.int .i64 r.e, .int .i64 r.n, .int .i64 r.K, .int .i64 r.m, .string r.s] ∧ r.In ∧ r.s.size ≤ reachBytes := by
  obtain ⟨y0, y1, y2, m, hx, hl, h0, h1, h2⟩ := Go.Deep.trod_struct3 Tryz.underlying34 h
  rw [cells9_rep] at hl
  match cs, hl with
  | [c0, c1, c2, c3, c4], _ =>
    simp only [cells9_int, cells9_err, cells9_val, List.drop_zero, List.drop_succ_cons, List.take_succ_cons, List.take_zero] at h0 h1 h2
    obtain ⟨e, rfl, w0⟩ := int9 Tryz.underlying30 h0
    obtain ⟨n, rfl, w1⟩ := int9 Tryz.underlying3 h1
    have hy : ∀ k ∈ DataW.weights Tryz.prog 32 y2.1, k ≤ reachBytes := fun k hk => by
      refine hwt k ?_
      rw [hx]
      simp only [DataW.weights, Tryz.underlying34, List.map_cons, List.map_nil]
      exact DataW.weights_mem_each (j := 2) (t := 32) rfl rfl k hk
    obtain ⟨K, q, s, e2, w2, w3, w4⟩ := val9 h2 hy
    simp only [List.cons.injEq, and_true] at e2
    obtain ⟨rfl, rfl, rfl⟩ := e2
    exact ⟨⟨e, n, K, q, s⟩, rfl, ⟨w0.1, w0.2, w1.1, w1.2, w2.1, w2.2, w3.1, w3.2⟩, w4⟩
set_option maxRecDepth 1000000 in
/-- A cell that reads as bytes. -/
theorem row9 {fuel : Nat} {u : Value} {x : DataW H × List MemPlace} (h : DataW.trod enc Tryz.prog w 0 (fun _ => true) true fuel 35 [u] = some x) (hwt : ∀ k ∈ DataW.weights Tryz.prog 35 x.1, k ≤ reachBytes) :
    ∃ (A : Option Addr) (X : List UInt8) (c : Nat), u = .slice A X.length c ∧ X.length ≤ c ∧ c ≤ 140737488351232 ∧ Bs w A X ∧ (A = none → c = 0) := by
  rcases open_ints Tryz.underlying35 Tryz.underlying5 cells9_u8 h with ⟨hcs, -⟩ | ⟨a, len, cap, zs, hcs, _, hl, hm, hz, hx, hcell, hwz⟩
  · simp at hcs
    subst hcs
    exact ⟨none, [], 0, rfl, Nat.le_refl _, by omega, Bs.nil _ _, fun _ => rfl⟩
  · simp at hcs
    subst hcs
    simp only [if_true] at hz
    obtain ⟨L, rfl, hB⟩ := bs_of_ints (len := len) (by omega) hcell hwz
    have be : Tryz.prog.bytesOf 5 = 1 := by kernel_rfl
    have := hwt (zs.length * 1) (by
      rw [hx]
      simp only [DataW.weights, Tryz.underlying35, be, lits, List.length_map, List.length_take, List.length_drop]
      rw [show (min L.length zs.length + (zs.length - L.length)) = zs.length by omega]
      exact .head _)
    simp only [reachBytes] at this
    exact ⟨some a, L, cap, rfl, hl, by omega, hB, fun h => by cases h⟩
set_option maxRecDepth 1000000 in
/-- Nine cells that read as a call. -/
theorem op9 {fuel : Nat} {cs : List Value} {x : DataW H × List MemPlace} (h : DataW.trod enc Tryz.prog w 0 (fun _ => true) true fuel 37 cs = some x) (hwt : ∀ k ∈ DataW.weights Tryz.prog 37 x.1, k ≤ reachBytes) :
    ∃ (o : Oq), cs = [.int .i64 o.k, .int .i64 o.id, .int .i64 o.at_, .int .i64 o.r.e, .int .i64 o.r.n, .int .i64 o.r.K, .int .i64 o.r.m, .string o.r.s, .slice o.B o.X.length o.c] ∧ o.In w := by
  obtain ⟨xs, m, _, hx, hl, hlen, hk⟩ := DataW.trod_struct Tryz.underlying37 h
  rw [cells9_op] at hl
  match xs, hlen with
  | [y0, y1, y2, y3, y4], _ =>
    match cs, hl with
    | [c0, c1, c2, c3, c4, c5, c6, c7, c8], _ =>
      have h0 : DataW.trod enc Tryz.prog w 0 (fun _ => true) true m 3 [c0] = some y0 := by simpa [cells9_int] using hk 0 _ rfl
      have h1 : DataW.trod enc Tryz.prog w 0 (fun _ => true) true m 3 [c1] = some y1 := by simpa [cells9_int] using hk 1 _ rfl
      have h2 : DataW.trod enc Tryz.prog w 0 (fun _ => true) true m 3 [c2] = some y2 := by simpa [cells9_int] using hk 2 _ rfl
      have h3 : DataW.trod enc Tryz.prog w 0 (fun _ => true) true m 34 [c3, c4, c5, c6, c7] = some y3 := by simpa [cells9_rep] using hk 3 _ rfl
      obtain ⟨kd, rfl, w0⟩ := int9 Tryz.underlying3 h0
      obtain ⟨id, rfl, w1⟩ := int9 Tryz.underlying3 h1
      obtain ⟨a, rfl, w2⟩ := int9 Tryz.underlying3 h2
      have hy : ∀ k ∈ DataW.weights Tryz.prog 34 y3.1, k ≤ reachBytes := fun k hk2 => by
        refine hwt k ?_
        rw [hx]
        simp only [DataW.weights, Tryz.underlying37, List.map_cons, List.map_nil]
        exact DataW.weights_mem_each (j := 3) (t := 34) rfl rfl k hk2
      obtain ⟨r, e, hr, hs⟩ := rep9 h3 hy
      simp only [List.cons.injEq, and_true] at e
      obtain ⟨rfl, rfl, rfl, rfl, rfl⟩ := e
      have h4 : DataW.trod enc Tryz.prog w 0 (fun _ => true) true m 35 [c8] = some y4 := by simpa [cells9_row] using hk 4 _ rfl
      have hy4 : ∀ k ∈ DataW.weights Tryz.prog 35 y4.1, k ≤ reachBytes := fun k hk2 => by
        refine hwt k ?_
        rw [hx]
        simp only [DataW.weights, Tryz.underlying37, List.map_cons, List.map_nil]
        exact DataW.weights_mem_each (j := 4) (t := 35) rfl rfl k hk2
      obtain ⟨A, X, c, rfl, b1, b2, b3, b4⟩ := row9 h4 hy4
      exact ⟨⟨kd, id, a, r, A, X, c⟩, rfl, ⟨w0.1, w0.2, w1.1, w1.2, w2.1, w2.2, hr, by unfold reachBytes at hs; show r.s.size ≤ _; omega, b1, b2, b3, b4⟩⟩
set_option maxRecDepth 1000000 in
/-- A list of calls that came in. -/
theorem open_ops {r : Reach} {b0 : Nat} {v : Value} {d : DataW H} {p : List MemPlace} (hv : Value.okWide Tryz.prog w r b0 22 v) (h : DataW.Trod enc Tryz.prog w 0 (fun _ => true) true 22 v d p) (hwt : ∀ k ∈ DataW.weights Tryz.prog 22 d, k ≤ reachBytes) :
    ∃ (B : Option Addr) (V : List Oq) (cap : Nat), v = .slice B V.length cap ∧ V.length ≤ 17592186044416 ∧ OpsAt w w.heap.size B V ∧ (∀ o ∈ V, o.In w) := by
  obtain ⟨a0, len0, cap0, rfl⟩ := okWide_slice Tryz.underlying22 hv
  obtain ⟨fuel, hf⟩ := h
  rcases DataW.trod_slice Tryz.underlying22 hf with ⟨hc3, -⟩ | ⟨a, len, cap, elems, rest, n2, hn2, hc3, hy3, -, hlc, hcm, hlen, hel, -, -⟩
  · simp [Value.cells] at hc3
    obtain ⟨rfl, rfl, rfl⟩ := hc3
    exact ⟨none, [], 0, rfl, by simp, fun h0 => absurd h0 (by simp), by simp⟩
  · simp [Value.cells] at hc3
    obtain ⟨rfl, rfl, rfl⟩ := hc3
    have be : Tryz.prog.bytesOf 37 = 96 := by kernel_rfl
    have hwd : ∀ k ∈ DataW.weights Tryz.prog 22 d, k ≤ reachBytes := hwt
    simp only [Prod.mk.injEq] at hy3
    obtain ⟨hd3, -⟩ := hy3
    have hlb : (elems.length + rest.length) * 96 ≤ reachBytes := hwd _ (by
      rw [hd3]
      simp only [DataW.weights, Tryz.underlying22, be, List.length_map]
      exact .head _)
    unfold reachBytes at hlb
    rw [cells9_op] at hel
    have hspot : 0 < len0 → a.spot = none := fun h0 => by
      have h1 := hel 0 h0
      rw [List.getElem?_eq_getElem (by omega)] at h1
      obtain ⟨cs', h2, h3⟩ := Option.bind_eq_some_iff.1 h1
      obtain ⟨h4, h5⟩ := cells_at9 h2
      obtain ⟨u, hu⟩ : ∃ u, cs'[0]? = some u := ⟨_, List.getElem?_eq_getElem (by omega)⟩
      have := World.cell?_spot (h5 0 u hu)
      simpa [Addr.add] using this
    obtain ⟨g, o, spot⟩ := a
    have hone : ∀ i : Fin len0, ∃ x : Oq, OpAt w g (o + i.1 * 9) x ∧ x.In w := fun ⟨i, hi⟩ => by
      obtain rfl : spot = none := hspot (by omega)
      have h1 := hel i hi
      rw [List.getElem?_eq_getElem (by omega)] at h1
      obtain ⟨cs', h2, h3⟩ := Option.bind_eq_some_iff.1 h1
      obtain ⟨h4, h5⟩ := cells_at9 h2
      obtain ⟨x, rfl, hI⟩ := op9 h3 (fun k hk => hwd k (by
        rw [hd3]
        simp only [DataW.weights, Tryz.underlying22]
        refine List.mem_cons_of_mem _ (List.mem_append.2 (.inl (weights_all9 ?_ k hk)))
        exact List.mem_map.2 ⟨elems[i]'(by omega), by simp, rfl⟩))
      have ad : ∀ j, ((⟨g, o, none⟩ : Addr).add (i * 9)).add j = ⟨g, o + i * 9 + j, none⟩ := fun j => by rw [Go.Deep.add_add, Go.Lib.add_plain]; simp
      have c0 := h5 0 _ rfl
      have c1 := h5 1 _ rfl
      have c2 := h5 2 _ rfl
      have c3 := h5 3 _ rfl
      have c4 := h5 4 _ rfl
      have c5 := h5 5 _ rfl
      have c6 := h5 6 _ rfl
      have c7 := h5 7 _ rfl
      have c8 := h5 8 _ rfl
      rw [ad] at c0 c1 c2 c3 c4 c5 c6 c7 c8
      exact ⟨x, ⟨c0, c1, c2, c3, c4, c5, c6, c7, c8⟩, hI⟩
    obtain ⟨f, hf2⟩ := Classical.axiomOfChoice hone
    have hVl : (List.ofFn f).length = len0 := List.length_ofFn
    refine ⟨some ⟨g, o, spot⟩, List.ofFn f, cap0, by rw [hVl], by omega, fun h0 => ?_, fun x hx => ?_⟩
    · obtain rfl : spot = none := hspot (by omega)
      have hlt : g < w.heap.size := by
        have := (hf2 ⟨0, by rw [← hVl]; exact h0⟩).1.c0
        rcases Nat.lt_or_ge g w.heap.size with h1 | h1
        · exact h1
        · unfold World.cell? at this
          rw [Array.getElem?_eq_none h1] at this
          cases this
      refine ⟨g, o, rfl, hlt, fun k hk => ?_⟩
      have hkl : k < len0 := by rw [← hVl]; exact hk
      have hv2 : (List.ofFn f)[k] = f ⟨k, hkl⟩ := by simp
      rw [hv2]
      exact (hf2 ⟨k, hkl⟩).1
    · obtain ⟨i, hi⟩ := List.mem_iff_getElem.1 hx
      obtain ⟨hi, rfl⟩ := hi
      have : (List.ofFn f)[i] = f ⟨i, by omega⟩ := by simp
      rw [this]
      exact (hf2 ⟨i, by omega⟩).2
end
end
end Go.Proofs.YtindkpfmflcibaaGreatDoor
