/- An expression that came in, opened: its tree, which lies where it came in. -/
import Derived.Test.YtbbblmedoagncaaGreatDoorGI
import Derived.Test.YtbbblmedoagncaaGreatDoorGR
import Derived.Lib.SmallJoins
import Derived.Carry
namespace Go.Proofs.YtbbblmedoagncaaGreatDoor
open Go.ChangeShapes Go.WideShapes Go.ChangeAt Go.RowKit Go.Lib

section
variable {H : Type} {enc : TypeId × Value → H} {w : World}
theorem cells_at {base n : Nat} {a : Addr} {cs : List Value} (h : w.cells? base a n = some cs) : cs.length = n ∧ ∀ i u, cs[i]? = some u → w.cell? (a.add i) = some u := by
  unfold World.cells? at h
  split at h
  · have hl := mapM_some_length h
    rw [List.length_range] at hl
    refine ⟨hl, fun i u hu => ?_⟩
    have hi : i < n := by rw [← hl]; exact (List.getElem?_eq_some_iff.1 hu).1
    have := mapM_some_get h i i (by simp [hi])
    rw [this]; exact hu
  · cases h
theorem four_cs {cs : List Value} (h : cs.length = 4) : ∃ a b c d, cs = [a, b, c, d] := by
  match cs, h with
  | [a, b, c, d], _ => exact ⟨a, b, c, d, rfl⟩
theorem int_cell4 {fuel : Nat} {v : Value} {y : DataW H × List MemPlace} {base : Nat} {sp : Nat → Bool} {held : Bool} (h : DataW.trod enc Tryz.prog w base sp held fuel 3 [v] = some y) : ∃ k : Int, v = .int .i64 k ∧ In64 k := by
  obtain ⟨k, e, -, wf⟩ := DataW.trod_int Tryz.underlying3 h
  exact ⟨k, by simpa using e, bounds_i64 wf⟩
theorem i64_cell4 {fuel : Nat} {v : Value} {y : DataW H × List MemPlace} {base : Nat} {sp : Nat → Bool} {held : Bool} (h : DataW.trod enc Tryz.prog w base sp held fuel 2 [v] = some y) : ∃ k : Int, v = .int .i64 k ∧ In64 k := by
  obtain ⟨k, e, -, wf⟩ := DataW.trod_int Tryz.underlying2 h
  exact ⟨k, by simpa using e, bounds_i64 wf⟩
theorem str_cell4 {fuel : Nat} {v : Value} {y : DataW H × List MemPlace} {base : Nat} {sp : Nat → Bool} {held : Bool} (h : DataW.trod enc Tryz.prog w base sp held fuel 9 [v] = some y) : ∃ s : ByteArray, v = .string s ∧ y = (.lit (.string s.data.toList), []) := by
  obtain ⟨s, e, hy, -⟩ := DataW.trod_string Tryz.underlying9 h
  exact ⟨s, by simpa using e, hy⟩
theorem weights_all {P : Program} {e : TypeId} {d : DataW H} : ∀ {l : List (DataW H)}, d ∈ l → ∀ k ∈ d.weights P e, k ∈ DataW.weightsAll P e l
  | x :: l, h, k, hk => by
    rw [DataW.weightsAll, List.mem_append]
    rcases List.mem_cons.1 h with rfl | h
    · exact .inl hk
    · exact .inr (weights_all h k hk)
/-- A value of four cells that reads as one is one. -/
theorem tree_of : ∀ (fuel : Nat) (cs : List Value) (x : DataW H × List MemPlace), DataW.trod enc Tryz.prog w 0 (fun _ => true) true fuel 24 cs = some x → w.noneFrozen x.2 → (∀ k ∈ DataW.weights Tryz.prog 24 x.1, k ≤ reachBytes) →
    ∃ e v0 v1 v2 v3, cs = [v0, v1, v2, v3] ∧ ExIn w (fun _ => True) e (.agg #[v0, v1, v2, v3]) := by
  intro fuel
  induction fuel using Nat.strongRecOn with
  | ind fuel ih =>
    intro cs x h hnf hwt
    obtain ⟨xs, n, rfl, hx, hl, hxl, hf⟩ := DataW.trod_struct Tryz.underlying24 h
    have hl4 : cs.length = 4 := hl.trans (by kernel_rfl)
    obtain ⟨c0, c1, c2, c3, rfl⟩ := four_cs hl4
    have hxl4 : xs.length = 4 := hxl.trans (by rfl)
    obtain ⟨y0, y1, y2, y3, rfl⟩ : ∃ a b c d, xs = [a, b, c, d] := by
      match xs, hxl4 with
      | [a, b, c, d], _ => exact ⟨a, b, c, d, rfl⟩
    have k1 : Tryz.prog.cellsOf 3 = 1 := by kernel_rfl
    have k2 : Tryz.prog.cellsOf 2 = 1 := by kernel_rfl
    have k3 : Tryz.prog.cellsOf 9 = 1 := by kernel_rfl
    have k4 : Tryz.prog.cellsOf 22 = 1 := by kernel_rfl
    have g0 : DataW.trod enc Tryz.prog w 0 (fun _ => true) true n 3 (([c0, c1, c2, c3].drop 0).take (Tryz.prog.cellsOf 3)) = some y0 := hf 0 _ rfl
    have g1 : DataW.trod enc Tryz.prog w 0 (fun _ => true) true n 2 (([c0, c1, c2, c3].drop 1).take (Tryz.prog.cellsOf 2)) = some y1 := hf 1 _ rfl
    have g2 : DataW.trod enc Tryz.prog w 0 (fun _ => true) true n 9 (([c0, c1, c2, c3].drop 2).take (Tryz.prog.cellsOf 9)) = some y2 := hf 2 _ rfl
    have g3 : DataW.trod enc Tryz.prog w 0 (fun _ => true) true n 22 (([c0, c1, c2, c3].drop 3).take (Tryz.prog.cellsOf 22)) = some y3 := hf 3 _ rfl
    rw [k1] at g0
    rw [k2] at g1
    rw [k3] at g2
    rw [k4] at g3
    obtain ⟨op, rfl, hop⟩ := int_cell4 g0
    obtain ⟨m, rfl, hm⟩ := i64_cell4 g1
    obtain ⟨s, rfl, hs⟩ := str_cell4 g2
    have hwe : ∀ (j : Nat) t d, [3, 2, 9, 22][j]? = some t → [y0.1, y1.1, y2.1, y3.1][j]? = some d → ∀ k ∈ d.weights Tryz.prog t, k ≤ reachBytes := fun j t d ht hd k hk => by
      refine hwt k ?_
      rw [hx]
      simp only [DataW.weights, Tryz.underlying24, List.map_cons, List.map_nil]
      exact DataW.weights_mem_each ht hd k hk
    have hsl : s.data.toList.length ≤ reachBytes := hwe 2 _ _ rfl rfl _ (by rw [hs]; simp [DataW.weights])
    have hrng : Rng op m s.data.toList := ⟨hop, hm, by unfold reachBytes at hsl; omega⟩
    have hse : (⟨s.data.toList.toArray⟩ : ByteArray) = s := by cases s; simp
    have hnf3 : w.noneFrozen y3.2 := fun b off hb => hnf b off (by rw [hx]; simp [hb])
    rcases DataW.trod_slice Tryz.underlying22 g3 with ⟨hc3, -⟩ | ⟨a, len, cap, elems, rest, n2, hn2, hc3, hy3, -, hlc, hcm, hlen, hel, -, -⟩
    · obtain rfl : c3 = .slice none 0 0 := by simpa using hc3
      refine ⟨.mk op m s.data.toList [], _, _, _, _, rfl, ?_⟩
      have := ExIn.leaf (w := w) (S := fun _ => True) hrng
      rwa [hse] at this
    · obtain rfl : c3 = .slice (some a) len cap := by simpa using hc3
      have ce : Tryz.prog.cellsOf 24 = 4 := by kernel_rfl
      have be : Tryz.prog.bytesOf 24 = 56 := by kernel_rfl
      have hlb : (elems.length + rest.length) * 56 ≤ reachBytes := hwe 3 _ _ rfl rfl _ (by
        rw [hy3]
        simp only [DataW.weights, Tryz.underlying22, be, List.length_map]
        exact .head _)
      unfold reachBytes at hlb
      rw [ce] at hel hy3
      have hspot : 0 < len → a.spot = none := fun h0 => by
        have h1 := hel 0 h0
        rw [List.getElem?_eq_getElem (by omega)] at h1
        obtain ⟨cs', h2, h3⟩ := Option.bind_eq_some_iff.1 h1
        obtain ⟨h4, h5⟩ := cells_at h2
        obtain ⟨u, hu⟩ : ∃ u, cs'[0]? = some u := ⟨_, List.getElem?_eq_getElem (by omega)⟩
        have := World.cell?_spot (h5 0 u hu)
        simpa [Addr.add] using this
      obtain ⟨g, o, spot⟩ := a
      have hone : ∀ i, i < len → ∃ e v0 v1 v2 v3, w.cell? ⟨g, o + i * 4, none⟩ = some v0 ∧ w.cell? ⟨g, o + i * 4 + 1, none⟩ = some v1 ∧ w.cell? ⟨g, o + i * 4 + 2, none⟩ = some v2 ∧ w.cell? ⟨g, o + i * 4 + 3, none⟩ = some v3 ∧ ExIn w (fun _ => True) e (.agg #[v0, v1, v2, v3]) ∧ NW w g (o + i * 4) := fun i hi => by
        obtain rfl : spot = none := hspot (by omega)
        have h1 := hel i hi
        rw [List.getElem?_eq_getElem (by omega)] at h1
        obtain ⟨cs', h2, h3⟩ := Option.bind_eq_some_iff.1 h1
        obtain ⟨h4, h5⟩ := cells_at h2
        obtain ⟨e, v0, v1, v2, v3, rfl, he⟩ := ih n2 (by omega) cs' _ h3 (fun b off hb => hnf3 b off (by
          rw [hy3]
          refine List.mem_append.2 (.inr ?_)
          rw [List.mem_flatMap]
          exact ⟨elems[i]'(by omega), by simp, hb⟩)) (fun k hk => hwe 3 _ _ rfl rfl k (by
          rw [hy3]
          simp only [DataW.weights, Tryz.underlying22]
          refine List.mem_cons_of_mem _ (List.mem_append.2 (.inl (weights_all ?_ k hk)))
          exact List.mem_map.2 ⟨elems[i]'(by omega), by simp, rfl⟩))
        have ad : ∀ j, ((⟨g, o, none⟩ : Addr).add (i * 4)).add j = ⟨g, o + i * 4 + j, none⟩ := fun j => by rw [Go.Deep.add_add, Go.Lib.add_plain]; simp
        have c0 := h5 0 v0 rfl
        have c1 := h5 1 v1 rfl
        have c2 := h5 2 v2 rfl
        have c3 := h5 3 v3 rfl
        rw [ad] at c0 c1 c2 c3
        refine ⟨e, v0, v1, v2, v3, c0, c1, c2, c3, he, ?_, ?_⟩
        · have c0' := c0
          unfold World.cell? at c0'
          split at c0'
          · rename_i c t fr hh
            exact ⟨c, t, fr, hh⟩
          · cases c0'
        · refine hnf3 g (o + i * 4) ?_
          rw [hy3]
          refine List.mem_append.2 (.inl ?_)
          unfold MemPlace.row
          rw [List.mem_map]
          exact ⟨i * 4, List.mem_range.2 (by omega), rfl⟩
      have hrow : ∀ k, k ≤ len → ∃ es : List Ex, es.length = k ∧ RowIn w (fun _ => True) g (o + (len - k) * 4) es := by
        intro k
        induction k with
        | zero => exact fun _ => ⟨[], rfl, .none⟩
        | succ k ihk =>
          intro hk
          obtain ⟨es, h1, h2⟩ := ihk (by omega)
          obtain ⟨e, v0, v1, v2, v3, c0, c1, c2, c3, he, hw⟩ := hone (len - (k + 1)) (by omega)
          refine ⟨e :: es, by simp [h1], RowIn.onew hw c0 c1 c2 c3 he ?_⟩
          rwa [show o + (len - (k + 1)) * 4 + 4 = o + (len - k) * 4 by omega]
      obtain ⟨es, hes, hR⟩ := hrow len (Nat.le_refl _)
      rw [Nat.sub_self, Nat.zero_mul, Nat.add_zero] at hR
      refine ⟨.mk op m s.data.toList es, _, _, _, _, rfl, ?_⟩
      have := ExIn.mk (w := w) (S := fun _ => True) (ks := es) (ao := some ⟨g, o, spot⟩) (cap := cap) hrng (by omega) (by omega) (fun h0 => by
        obtain rfl : spot = none := hspot (by omega)
        obtain ⟨_, _, _, _, _, c0, -⟩ := hone 0 (by omega)
        exact ⟨g, o, rfl, trivial, World.block_lt_of_cell? w _ c0, hR⟩)
      rw [hse, hes] at this
      exact this
set_option maxRecDepth 100000 in
/-- An expression that came in. -/
theorem open_expr {r : Reach} {b0 : Nat} {v : Value} {d : DataW H} {p : List MemPlace} (hv : Value.okWide Tryz.prog w r b0 24 v) (h : DataW.Trod enc Tryz.prog w 0 (fun _ => true) true 24 v d p) (hnf : w.noneFrozen p) (hwt : ∀ k ∈ DataW.weights Tryz.prog 24 d, k ≤ reachBytes) :
    ∃ e, ExIn w (fun _ => True) e v := by
  obtain ⟨cs, rfl, hsz⟩ := okWide_struct Tryz.underlying24 hv
  obtain ⟨fuel, hf⟩ := h
  obtain ⟨e, v0, v1, v2, v3, hcs, he⟩ := tree_of fuel _ _ hf hnf hwt
  refine ⟨e, ?_⟩
  have : cs = #[v0, v1, v2, v3] := by
    have h1 : (Value.agg cs).cells = cs := rfl
    rw [h1] at hcs
    rw [← Array.toArray_toList (xs := cs), hcs]
  rw [this]; exact he
theorem trodAll_five {P : Program} {base : Nat} {spare : Nat → Bool} {held : Bool} {t t' t'' t3 t4 : TypeId} {args : Array Value} {ds : List (DataW H)} {ps : List MemPlace} (h : DataW.TrodAll enc P w base spare held [t, t', t'', t3, t4] args.toList ds ps) :
    ∃ v v' v'' v3 v4 d d' d'' d3 d4 p p' p'' p3 p4, args = #[v, v', v'', v3, v4] ∧ ds = [d, d', d'', d3, d4] ∧ ps = p ++ p' ++ p'' ++ p3 ++ p4 ∧ DataW.Trod enc P w base spare held t v d p ∧ DataW.Trod enc P w base spare held t' v' d' p' ∧ DataW.Trod enc P w base spare held t'' v'' d'' p'' ∧ DataW.Trod enc P w base spare held t3 v3 d3 p3 ∧ DataW.Trod enc P w base spare held t4 v4 d4 p4 := by
  obtain ⟨v, vs, d, da, p, q, hargs, rfl, rfl, hd, hrest⟩ := trodAll_cons h
  obtain ⟨v', vs', d', db, p', q', rfl, rfl, rfl, hd', hrest'⟩ := trodAll_cons hrest
  obtain ⟨v'', vs'', d'', dc, p'', q'', rfl, rfl, rfl, hd'', hrest''⟩ := trodAll_cons hrest'
  obtain ⟨v3, vs3, d3, de, p3, q3, rfl, rfl, rfl, hd3, hrest3⟩ := trodAll_cons hrest''
  obtain ⟨v4, vs4, d4, df, p4, q4, rfl, rfl, rfl, hd4, hrest4⟩ := trodAll_cons hrest3
  obtain ⟨rfl, rfl, rfl⟩ := trodAll_nil hrest4
  exact ⟨v, v', v'', v3, v4, d, d', d'', d3, d4, p, p', p'', p3, p4, by cases args; simp_all, rfl, by simp, hd, hd', hd'', hd3, hd4⟩
theorem trodAll_mk5 {P : Program} {base : Nat} {spare : Nat → Bool} {held : Bool} {t t' t'' t3 t4 : TypeId} {v v' v'' v3 v4 : Value} {d d' d'' d3 d4 : DataW H} {p p' p'' p3 p4 : List MemPlace} (h : DataW.Trod enc P w base spare held t v d p) (h' : DataW.Trod enc P w base spare held t' v' d' p')
    (h'' : DataW.Trod enc P w base spare held t'' v'' d'' p'') (h3 : DataW.Trod enc P w base spare held t3 v3 d3 p3) (h4 : DataW.Trod enc P w base spare held t4 v4 d4 p4) : DataW.TrodAll enc P w base spare held [t, t', t'', t3, t4] [v, v', v'', v3, v4] [d, d', d'', d3, d4] (p ++ (p' ++ (p'' ++ (p3 ++ p4)))) :=
  ⟨p, p' ++ (p'' ++ (p3 ++ p4)), h, trodAll_mk4 h' h'' h3 h4, rfl⟩
end
end Go.Proofs.YtbbblmedoagncaaGreatDoor
