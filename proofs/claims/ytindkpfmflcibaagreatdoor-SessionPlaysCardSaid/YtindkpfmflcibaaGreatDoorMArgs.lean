/- Slices of numbers, texts, truths that came in, opened: their elements, where they lie. -/
import Derived.Test.YtindkpfmflcibaaGreatDoorGB
import Derived.SliceStrings
import Derived.Deep.Grids
namespace Go.Proofs.YtindkpfmflcibaaGreatDoor
open Go.ChangeShapes Go.WideShapes Go.ChangeAt Go.RowKit

/-- The elements l lie where the slice begins. -/
def Els {α : Type} (f : α → Value) (d : α) (w : World) (A : Option Addr) (l : List α) : Prop := 0 < l.length → ∃ b off, A = some ⟨b, off, none⟩ ∧ ∀ j, j < l.length → w.cell? ⟨b, off + j, none⟩ = some (f (l.getD j d))
section
variable {α : Type} {f : α → Value} {d : α} {w w' : World} {A : Option Addr} {l : List α}
theorem Els.nil (w : World) (A : Option Addr) : Els f d w A [] := fun h => absurd h (by simp)
theorem Els.below (h : Els f d w A l) (hb : Below w.heap.size w w') : Els f d w' A l := fun h0 => by
  obtain ⟨b, off, e, hc⟩ := h h0
  have hl : b < w.heap.size := by
    have := hc 0 h0
    rcases Nat.lt_or_ge b w.heap.size with hlt | hge
    · exact hlt
    · simp [World.cell?, Array.getElem?_eq_none hge] at this
  exact ⟨b, off, e, fun j hj => (hb.cell (p := ⟨b, off + j, none⟩) hl).trans (hc j hj)⟩
theorem Els.of_cells {a : Addr} {zs : List α} {len : Nat} (hl : len ≤ zs.length) (hc : ∀ i, i < zs.length → w.cell? (a.add i) = some (f (zs.getD i d))) : Els f d w (some a) (zs.take len) := fun h0 => by
  rw [List.length_take] at h0
  obtain ⟨b, off, spot⟩ := a
  have hspot : spot = none := by simpa [Addr.add] using World.cell?_spot (hc 0 (by omega))
  subst hspot
  refine ⟨b, off, rfl, fun j hj => ?_⟩
  rw [List.length_take] at hj
  have h2 := hc j (by omega)
  rw [add_plain] at h2
  rw [h2, List.getD_eq_getElem?_getD, List.getD_eq_getElem?_getD, List.getElem?_take, if_pos (by omega)]
end

/-- Numbers. -/
abbrev Is (w : World) (A : Option Addr) (Z : List Int) : Prop := Els (fun z => .int .i64 z) 0 w A Z
theorem open_nums {H : Type} {enc : TypeId × Value → H} {P : Program} {w : World} {base : Nat} {t e : TypeId} {v : Value} {d : DataW H} {p : List MemPlace} (ht : P.underlying t = some (.slice e)) (he : P.underlying e = some (.int .i64)) (hc : P.cellsOf e = 1)
    (hval : Value.okWide P w .any base t v) (h : DataW.Trod enc P w 0 (fun _ => true) true t v d p) (hs : ∀ elems spare, d = .slice elems spare → (elems.length + spare.length) * 8 ≤ reachBytes) :
    ∃ (A : Option Addr) (Z : List Int) (cap : Nat), v = .slice A Z.length cap ∧ Z.length ≤ cap ∧ cap ≤ 17592186044416 ∧ Is w A Z ∧ (∀ z ∈ Z, -9223372036854775808 ≤ z ∧ z ≤ 9223372036854775807) ∧ (A = none → cap = 0) := by
  obtain ⟨a0, len0, cap0, rfl⟩ := okWide_slice ht hval
  obtain ⟨fuel, hf⟩ := h
  rcases open_ints ht he hc hf with ⟨hcs, hx⟩ | ⟨a, len, cap, zs, hcs, _, hl, hm, hz, hx, hcell, hwz⟩
  · simp [Value.cells] at hcs
    obtain ⟨rfl, rfl, rfl⟩ := hcs
    exact ⟨none, [], 0, rfl, Nat.le_refl _, by omega, Els.nil _ _, by simp, fun _ => rfl⟩
  · simp [Value.cells] at hcs
    obtain ⟨rfl, rfl, rfl⟩ := hcs
    simp only [Prod.mk.injEq] at hx
    obtain ⟨rfl, rfl⟩ := hx
    simp only [if_true] at hz
    have := hs _ _ rfl
    simp only [lits, List.length_map, List.length_take, List.length_drop, reachBytes] at this
    have hlen : (zs.take len0).length = len0 := by rw [List.length_take]; omega
    exact ⟨some a, zs.take len0, cap0, by rw [hlen], by omega, by omega, Els.of_cells (by omega) hcell, fun z hz2 => bounds_i64 (hwz z (List.mem_of_mem_take hz2)), fun h => by cases h⟩

/-- Texts. -/
abbrev Ts (w : World) (A : Option Addr) (S : List ByteArray) : Prop := Els (fun s => .string s) ByteArray.empty w A S
theorem open_texts {H : Type} {enc : TypeId × Value → H} {P : Program} {w : World} {base : Nat} {t e : TypeId} {v : Value} {d : DataW H} {p : List MemPlace} (ht : P.underlying t = some (.slice e)) (he : P.underlying e = some .string) (hc : P.cellsOf e = 1)
    (hval : Value.okWide P w .any base t v) (h : DataW.Trod enc P w 0 (fun _ => true) true t v d p) :
    ∃ (A : Option Addr) (S X : List ByteArray) (cap : Nat), v = .slice A S.length cap ∧ S.length ≤ cap ∧ Ts w A S ∧ (d = .nil ∧ S = [] ∨ d = .slice (strs S) (strs X) ∧ cap = S.length + X.length) ∧ (A = none → cap = 0) := by
  obtain ⟨a0, len0, cap0, rfl⟩ := okWide_slice ht hval
  obtain ⟨fuel, hf⟩ := h
  rcases open_strings ht he hc hf with ⟨hcs, hx⟩ | ⟨a, len, cap, zs, hcs, _, hl, hm, hz, hx, hcell, hwz⟩
  · simp [Value.cells] at hcs
    obtain ⟨rfl, rfl, rfl⟩ := hcs
    simp only [Prod.mk.injEq] at hx
    exact ⟨none, [], [], 0, rfl, Nat.le_refl _, Els.nil _ _, .inl ⟨hx.1, rfl⟩, fun _ => rfl⟩
  · simp [Value.cells] at hcs
    obtain ⟨rfl, rfl, rfl⟩ := hcs
    simp only [Prod.mk.injEq] at hx
    obtain ⟨rfl, rfl⟩ := hx
    simp only [if_true] at hz
    have hlen : (zs.take len0).length = len0 := by rw [List.length_take]; omega
    exact ⟨some a, zs.take len0, zs.drop len0, cap0, by rw [hlen], by omega, Els.of_cells (by omega) hcell, .inr ⟨rfl, by rw [hlen, List.length_drop]; omega⟩, fun h => by cases h⟩
/-- Truths. -/
abbrev Ls (w : World) (A : Option Addr) (T : List Bool) : Prop := Els (fun t => .bool t) false w A T
theorem open_truths {H : Type} {enc : TypeId × Value → H} {P : Program} {w : World} {base : Nat} {t e : TypeId} {v : Value} {d : DataW H} {p : List MemPlace} (ht : P.underlying t = some (.slice e)) (he : P.underlying e = some .bool) (hc : P.cellsOf e = 1)
    (hval : Value.okWide P w .any base t v) (h : DataW.Trod enc P w 0 (fun _ => true) true t v d p) (hs : ∀ elems spare, d = .slice elems spare → (elems.length + spare.length) * 1 ≤ reachBytes) :
    ∃ (A : Option Addr) (T : List Bool) (cap : Nat), v = .slice A T.length cap ∧ T.length ≤ cap ∧ cap ≤ 140737488351232 ∧ Ls w A T := by
  obtain ⟨a0, len0, cap0, rfl⟩ := okWide_slice ht hval
  obtain ⟨fuel, hf⟩ := h
  rcases Go.Deep.open_bools ht he hc hf with ⟨hcs, hx⟩ | ⟨a, len, cap, B, hcs, _, hl, hm, hx, hcell⟩
  · simp [Value.cells] at hcs
    obtain ⟨rfl, rfl, rfl⟩ := hcs
    exact ⟨none, [], 0, rfl, Nat.le_refl _, by omega, Els.nil _ _⟩
  · simp [Value.cells] at hcs
    obtain ⟨rfl, rfl, rfl⟩ := hcs
    simp only [Prod.mk.injEq] at hx
    obtain ⟨rfl, rfl⟩ := hx
    have hb := hs _ _ rfl
    simp only [List.length_map, List.length_range, reachBytes] at hb
    have hlen : ((List.range len0).map B).length = len0 := by simp
    have hcl : ((List.range cap0).map B).length = cap0 := by simp
    have hcc : ∀ i, i < ((List.range cap0).map B).length → w.cell? (a.add i) = some (.bool (((List.range cap0).map B).getD i false)) := fun i hi => by
      rw [hcl] at hi
      rw [hcell i hi, List.getD_eq_getElem?_getD, List.getElem?_map, List.getElem?_range hi]
      rfl
    have htk : ((List.range cap0).map B).take len0 = (List.range len0).map B := by
      rw [← List.map_take, List.take_range, Nat.min_eq_left hl]
    have hE := Els.of_cells (f := fun t => .bool t) (d := false) (len := len0) (by rw [hcl]; exact hl) hcc
    rw [htk] at hE
    exact ⟨some a, (List.range len0).map B, cap0, by rw [hlen], by rw [hlen]; exact hl, by omega, hE⟩
end Go.Proofs.YtindkpfmflcibaaGreatDoor
