/- append in a drawn region: onto a row of one, onto a row of the call's own; the document's copies of lists, told a little more. -/
import Derived.Test.YtaaibciacipelaaGreatDoorMRegUse
import Derived.Test.YtaaibciacipelaaGreatDoorGX
namespace Go.Proofs.YtaaibciacipelaaGreatDoor
open Go.RowKit

theorem below_row {w : World} {g : Nat} {cur : Array Value} {e : TypeId} (hg : w.heap[g]? = some (.cells cur e (0, 0))) : Below w.heap.size w (w.setRow g cur) := by
  refine ⟨rfl, rfl, rfl, by simp, fun k hk => ?_⟩
  by_cases h : k = g
  · subst h
    rw [setRow_heap w k cur cur e _ hg, hg]
  · exact setRow_other w g k cur h
section
variable {α : Type} {f : α → Value} {d : α} {P : Program} {o : Oper} {a : Act} {K : Act → World → Prop} {Q : Exit → Act → World → Prop} {w : World}
theorem els_grown (e : TypeId) (xs : List α) (zs : Array Value) : Els f d (w.drew.alloc (.cells ((xs.map f).toArray ++ zs) e)) (some ⟨w.heap.size, 0, none⟩) xs := fun _ => ⟨w.heap.size, 0, rfl, fun j hj => by
  have := cells_of_alloc w.drew ((xs.map f).toArray ++ zs) e (0 + j)
  refine this.trans ?_
  rw [Nat.zero_add, Array.getElem?_append_left (by simpa using hj)]
  simp [List.getD_eq_getElem?_getD, List.getElem?_eq_getElem hj]⟩
theorem below_grow (o : Obj) : Below w.heap.size w (w.drew.alloc o) := by
  have h1 := (Below.refl w.heap.size w).drew
  exact h1.alloc (Nat.le_refl _) o
/-- append onto a row of one. -/
theorem wp_app_one (s x : Operand) (t e : TypeId) (ho : o.op = .call { callee := .builtin .append, args := #[s, x], argTypes := #[t, t] }) (i : TypeInfo) (z : Value) (ht : P.underlying t = some (.slice e)) (hi : P.info? e = some i) (hz : i.zero = some z) (hsize : i.size = 1) (hby : i.bytes ≤ 16)
    (x0 : α) (L : List α) (hL : L.length ≤ 1000) (g : Nat) (hg : w.heap[g]? = some (.cells #[f x0] e (0, 0))) (A : Option Addr) (c : Nat) (hE : Els f d w A L) (hA : A = none → c = 0) (hs : a.eval s = .slice (some ⟨g, 0, none⟩) 1 1) (hx : a.eval x = .slice A L.length c)
    (h : ∀ ao c' w', Below w.heap.size w w' → Els f d w' ao (x0 :: L) → K (a.put o.dst (.slice ao (L.length + 1) c')) w') : o.wp P a w K Q := by
  have hcg : ∀ j, w.cell? ⟨g, j, none⟩ = #[f x0][j]? := fun j => cell_of_row w g j _ _ _ hg
  have hcell : ∀ j u, [f x0][j]? = some u → w.cell? ((⟨g, 0, none⟩ : Addr).add j) = some u := fun j u hu => by
    rw [Lib.add_plain, Nat.zero_add, hcg]
    simpa using hu
  have hself : Els f d w (some ⟨g, 0, none⟩) [x0] := fun _ => ⟨g, 0, rfl, fun j hj => by
    rw [Nat.zero_add, hcg]
    match j, hj with
    | 0, _ => rfl⟩
  unfold Oper.wp execOp
  cases L with
  | nil =>
    rw [List.length_nil] at hx h
    cases A with
    | none =>
      obtain rfl := hA rfl
      have hown : w.ownsRow 0 e 1 (.slice (some ⟨g, 0, none⟩) 1 1) 1 [f x0] := ⟨rfl, .inr ⟨g, 1, #[f x0], rfl, Nat.zero_le _, hg, Nat.le_refl _, by unfold maxLen; omega, rfl, rfl⟩⟩
      have hr := run_append_owned_none (P := P) (w := w) 0 t o.type e i 1 ht hi _ 1 [f x0] hown
      simp only [ho, resolve, invoke, builtin, Sem.run_bind, Sem.run_pure, Result.andThen_ok, List.map_toArray, List.map_cons, List.map_nil, hs, hx, hr]
      exact h _ _ _ (Below.refl _ _) hself
    | some ad =>
      have hr := run_append_room (P := P) w t o.type e i ht hi g 1 1 #[f x0] hg ad 0 c [] (by simp) (fun j u hu => by simp at hu) (fun u hu => by cases hu) (by omega) (by rw [hsize]; simp)
      rw [hsize] at hr
      simp only [ho, resolve, invoke, builtin, Sem.run_bind, Sem.run_pure, Result.andThen_ok, List.map_toArray, List.map_cons, List.map_nil, hs, hx, hr]
      have hb := below_row hg
      exact h _ _ _ hb (hself.below hb)
  | cons y L =>
    obtain ⟨b, off, rfl, hc⟩ := hE (by simp)
    have hlen : (y :: L).length = L.length + 1 := rfl
    have hfit : Builtin.nextslicecap (1 + (y :: L).length) 1 * i.bytes ≤ 281474976710656 := growslice_fits (by omega) (by
      have : (1 + (y :: L).length) * i.bytes ≤ 1001 * 16 := Nat.mul_le_mul (by omega) hby
      omega)
    have hr := run_append_grow (P := P) w t o.type e i z ht hi hz ⟨g, 0, none⟩ 1 1 [f x0] (by rw [hsize]; rfl) hcell ⟨b, off, none⟩ (y :: L).length c ((y :: L).map f) (by rw [hsize, List.length_map]; omega) (els_cells hE) (by omega) (by omega) hfit
    simp only [ho, resolve, invoke, builtin, Sem.run_bind, Sem.run_pure, Result.andThen_ok, List.map_toArray, List.map_cons, List.map_nil, hs, hx, hr]
    have hE2 := els_grown (w := w) (f := f) (d := d) e (x0 :: y :: L) (Builtin.zeroCells z.cells (grownCap w (1 + (y :: L).length) 1 e - (1 + (y :: L).length)))
    rw [Nat.add_comm 1 (y :: L).length] at hE2 ⊢
    refine h _ _ _ (below_grow _) ?_
    simpa using hE2
/-- A row of a type: its cells. -/
def RowT (f : α → Value) (w : World) (e : TypeId) (ao : Option Addr) (xs : List α) : Prop := ∃ g cur, ao = some ⟨g, 0, none⟩ ∧ w.heap[g]? = some (.cells cur e (0, 0)) ∧ ∀ (j : Nat) u, (xs.map f)[j]? = some u → cur[j]? = some u
theorem RowT.els {e : TypeId} {ao : Option Addr} {xs : List α} (h : RowT f w e ao xs) : Els f d w ao xs := fun _ => by
  obtain ⟨g, cur, rfl, hg, hc⟩ := h
  refine ⟨g, 0, rfl, fun j hj => ?_⟩
  rw [Nat.zero_add, cell_of_row w g j _ _ _ hg]
  refine hc j _ ?_
  simp [List.getD_eq_getElem?_getD, List.getElem?_eq_getElem hj]
/-- Old blocks stay, but for a row of this type, of the call's own, that has two cells or more. -/
structure Upd (w w' : World) (B : Nat) (e : TypeId) : Prop where
  os : w'.os = w.os
  tape : w'.tape = w.tape
  output : w'.output = w.output
  size : w.heap.size ≤ w'.heap.size
  block : ∀ k, k < w.heap.size → w'.heap[k]? = w.heap[k]? ∨ (B ≤ k ∧ ∃ cur, w.heap[k]? = some (.cells cur e (0, 0)) ∧ 2 ≤ cur.size)
theorem Upd.of {w w' : World} (B : Nat) (e : TypeId) (h : Below w.heap.size w w') : Upd w w' B e := ⟨h.os, h.tape, h.output, h.size, fun k hk => .inl (h.block k hk)⟩
theorem Upd.below {w0 w w' : World} {e : TypeId} (h : Upd w w' w0.heap.size e) (hb : Below w0.heap.size w0 w) : Below w0.heap.size w0 w' :=
  ⟨h.os.trans hb.os, h.tape.trans hb.tape, h.output.trans hb.output, Nat.le_trans hb.size h.size, fun k hk => by
    rcases h.block k (Nat.lt_of_lt_of_le hk hb.size) with h' | ⟨h', -⟩
    · exact h'.trans (hb.block k hk)
    · omega⟩
theorem Upd.one {w w' : World} {B g : Nat} {e e' : TypeId} {x : Value} (h : Upd w w' B e) (hg : w.heap[g]? = some (.cells #[x] e' (0, 0))) : w'.heap[g]? = some (.cells #[x] e' (0, 0)) := by
  rcases h.block g (Array.getElem?_eq_some_iff.1 hg).1 with h' | ⟨-, cur, hc, h2⟩
  · rw [h', hg]
  · rw [hg] at hc
    injection hc with hc
    injection hc with hc
    rw [← hc] at h2
    simp at h2
theorem Upd.other {w w' : World} {B g : Nat} {e e' : TypeId} {cs : Array Value} (h : Upd w w' B e) (hne : e' ≠ e) (hg : w.heap[g]? = some (.cells cs e' (0, 0))) : w'.heap[g]? = some (.cells cs e' (0, 0)) := by
  rcases h.block g (Array.getElem?_eq_some_iff.1 hg).1 with h' | ⟨-, cur, hc, h2⟩
  · rw [h', hg]
  · rw [hg] at hc
    injection hc with hc
    injection hc with _ hc
    exact absurd hc hne
theorem RowT.upd {w w' : World} {B : Nat} {e e' : TypeId} {ao : Option Addr} {xs : List α} (h : RowT f w e' ao xs) (hu : Upd w w' B e) (hne : e' ≠ e) : RowT f w' e' ao xs := by
  obtain ⟨g, cur, h1, hg, hc⟩ := h
  exact ⟨g, cur, h1, hu.other hne hg, hc⟩
theorem own_upd {w w' : World} {B n₀ n size : Nat} {e e' : TypeId} {v : Value} {xs : List Value} (h : w.ownsRow n₀ e' size v n xs) (hu : Upd w w' B e) (hne : e' ≠ e) : w'.ownsRow n₀ e' size v n xs := by
  refine ⟨h.1, ?_⟩
  rcases h.2 with h' | ⟨g, cap, cur, hv, hb, hg, rest⟩
  · exact .inl h'
  · exact .inr ⟨g, cap, cur, hv, hb, hu.other hne hg, rest⟩
theorem RowT.later {w w' : World} {e : TypeId} {ao : Option Addr} {xs : List α} (h : RowT f w e ao xs) (hb : Below w.heap.size w w') : RowT f w' e ao xs := by
  obtain ⟨g, cur, h1, hg, hc⟩ := h
  exact ⟨g, cur, h1, (hb.block g (Array.getElem?_eq_some_iff.1 hg).1).trans hg, hc⟩
theorem own_keeps {w w' : World} {n₀ n size : Nat} {e : TypeId} {v : Value} {xs : List Value} (h : w.ownsRow n₀ e size v n xs) (hb : Below w.heap.size w w') : w'.ownsRow n₀ e size v n xs := by
  refine ⟨h.1, ?_⟩
  rcases h.2 with h' | ⟨g, cap, cur, hv, hg0, hg, rest⟩
  · exact .inl h'
  · exact .inr ⟨g, cap, cur, hv, hg0, (hb.block g (Array.getElem?_eq_some_iff.1 hg).1).trans hg, rest⟩
/-- append of one onto a row of the call's own. -/
theorem wp_app_own (s x : Operand) (t e : TypeId) (ho : o.op = .call { callee := .builtin .append, args := #[s, x], argTypes := #[t, t] }) (i : TypeInfo) (z : Value) (ht : P.underlying t = some (.slice e)) (hi : P.info? e = some i) (hz : i.zero = some z) (hsize : i.size = 1) (hby : i.bytes ≤ 16) (hf : ∀ y, (f y).oneCell' = true)
    (y : α) (L : List α) (hL : L.length ≤ 1000) (g : Nat) (hg : w.heap[g]? = some (.cells #[f y] e (0, 0))) (B : Nat) (v : Value) (hown : w.ownsRow B e 1 v L.length (L.map f)) (hnil : L = [] → v = .slice none 0 0) (hs : a.eval s = v) (hx : a.eval x = .slice (some ⟨g, 0, none⟩) 1 1)
    (h : ∀ ao c' w', Upd w w' B e → RowT f w' e ao (L ++ [y]) → K (a.put o.dst (.slice ao (L.length + 1) c')) w') : o.wp P a w K Q := by
  have hcg : ∀ j, w.cell? ⟨g, j, none⟩ = #[f y][j]? := fun j => cell_of_row w g j _ _ _ hg
  have hcell : ∀ j u, [f y][j]? = some u → w.cell? ((⟨g, 0, none⟩ : Addr).add j) = some u := fun j u hu => by
    rw [Lib.add_plain, Nat.zero_add, hcg]
    simpa using hu
  have hnew : ∀ (zs : Array Value), RowT f (w.drew.alloc (.cells (((L ++ [y]).map f).toArray ++ zs) e)) e (some ⟨w.heap.size, 0, none⟩) (L ++ [y]) := fun zs =>
    ⟨w.heap.size, _, rfl, alloc_at w.drew _, fun j u hu => by
      have hj := (List.getElem?_eq_some_iff.1 hu).1
      rw [Array.getElem?_append_left (by simpa using hj)]
      simpa using hu⟩
  unfold Oper.wp execOp
  rcases hown.2 with ⟨hv, hn⟩ | ⟨g2, cap, cur, hv, hB, hg2, hnc, hcm, hcs, htk⟩
  · subst hv
    have hL0 : L = [] := List.length_eq_zero_iff.1 hn
    subst hL0
    have hr := run_append_nil (P := P) (w := w) t o.type e i z ht hi hz ⟨g, 0, none⟩ 1 1 [f y] (by rw [hsize]; rfl) hcell (by omega) (by omega) (by omega)
    simp only [ho, resolve, invoke, builtin, Sem.run_bind, Sem.run_pure, Result.andThen_ok, List.map_toArray, List.map_cons, List.map_nil, hs, hx, hr]
    exact h _ _ _ (.of B e (below_grow _)) (hnew _)
  · subst hv
    have hL0 : 0 < L.length := by
      rcases Nat.eq_zero_or_pos L.length with h0 | h0
      · have := hnil (List.length_eq_zero_iff.1 h0)
        cases this
      · exact h0
    rw [Nat.mul_one] at hcs htk
    by_cases hroom : L.length + 1 ≤ cap
    · have hr := run_append_room (P := P) w t o.type e i ht hi g2 L.length cap cur hg2 ⟨g, 0, none⟩ 1 1 [f y] (by rw [hsize]; rfl) hcell (fun u hu => by rw [List.mem_singleton.1 hu]; exact hf y) hroom (by rw [hsize, hcs]; simp; omega)
      rw [hsize, Nat.mul_one, htk] at hr
      simp only [ho, resolve, invoke, builtin, Sem.run_bind, Sem.run_pure, Result.andThen_ok, List.map_toArray, List.map_cons, List.map_nil, hs, hx, hr]
      refine h _ _ _ ⟨rfl, rfl, rfl, by simp, fun k hk => ?_⟩ ⟨g2, _, rfl, setRow_heap w g2 cur _ e _ hg2, fun j u hu => ?_⟩
      · by_cases hkg : k = g2
        · subst hkg
          exact .inr ⟨hB, cur, hg2, by omega⟩
        · exact .inl (setRow_other w g2 k _ hkg)
      · have hj := (List.getElem?_eq_some_iff.1 hu).1
        rw [List.getElem?_toArray, List.getElem?_append_left (by simpa using hj)]
        simpa using hu
    · have hfit : Builtin.nextslicecap (L.length + 1) cap * i.bytes ≤ 281474976710656 := growslice_fits (by omega) (by
        have : (L.length + 1) * i.bytes ≤ 1001 * 16 := Nat.mul_le_mul (by omega) hby
        omega)
      have hr := run_append_grow (P := P) w t o.type e i z ht hi hz ⟨g2, 0, none⟩ L.length cap (L.map f) (by rw [hsize, List.length_map, Nat.mul_one]) (hown.cells (g := g2) rfl) ⟨g, 0, none⟩ 1 1 [f y] (by rw [hsize]; rfl) hcell (by omega) (by omega) hfit
      simp only [ho, resolve, invoke, builtin, Sem.run_bind, Sem.run_pure, Result.andThen_ok, List.map_toArray, List.map_cons, List.map_nil, hs, hx, hr]
      refine h _ _ _ (.of B e (below_grow _)) ?_
      have := hnew (Builtin.zeroCells z.cells (grownCap w (L.length + 1) cap e - (L.length + 1)))
      simpa using this
end
end Go.Proofs.YtaaibciacipelaaGreatDoor
