/- append of a list onto a row of numbers of the call's own: of what there was at most that row has turned, and that only if it has two cells or more. -/
import Derived.Test.YtlhloahogfnijaaSsB
import Derived.Test.YtlhloahogfnijaaRegUse
import Derived.Deep.AppendLies
import Derived.Deep.Upon
import Derived.Deep.AppendSrc
import Derived.Laws.AppendOwn
import Derived.Laws.AppendOwnNone
namespace Go.Proofs.Ytlhloahogfnijaa
namespace Ss
open Go.RowKit

structure Upd (w w' : World) (B : Nat) (e : TypeId) : Prop where
  os : w'.os = w.os
  tape : w'.tape = w.tape
  output : w'.output = w.output
  size : w.heap.size ≤ w'.heap.size
  block : ∀ k, k < w.heap.size → w'.heap[k]? = w.heap[k]? ∨ (B ≤ k ∧ ∃ cur, w.heap[k]? = some (.cells cur e (0, 0)) ∧ 2 ≤ cur.size)
theorem Upd.of {w w' : World} (B : Nat) (e : TypeId) (h : Below w.heap.size w w') : Upd w w' B e := ⟨h.os, h.tape, h.output, h.size, fun k hk => .inl (h.block k hk)⟩
theorem Upd.below {w0 w w' : World} {e : TypeId} (h : Upd w w' w0.heap.size e) (hb : Below w0.heap.size w0 w) : Below w0.heap.size w0 w' :=
  ⟨h.os.trans hb.os, h.tape.trans hb.tape, h.output.trans hb.output, Nat.le_trans hb.size h.size, fun k hk => by
    rcases h.block k (Nat.lt_of_lt_of_le hk hb.size) with h' | ⟨h', -⟩
    · exact h'.trans (hb.block k hk)
    · omega⟩
theorem Upd.one {w w' : World} {B g : Nat} {e e' : TypeId} {x : Value} (h : Upd w w' B e) (hg : w.heap[g]? = some (.cells #[x] e' (0, 0))) : w'.heap[g]? = some (.cells #[x] e' (0, 0)) := by
  rcases h.block g (Array.getElem?_eq_some_iff.1 hg).1 with h' | ⟨-, cur, hc, h2⟩
  · rw [h', hg]
  · rw [hg] at hc
    injection hc with hc
    injection hc with hc
    rw [← hc] at h2
    simp at h2
theorem below_grow {w : World} (o : Obj) : Below w.heap.size w (w.drew.alloc o) := by
  have h1 := (Below.refl w.heap.size w).drew
  exact h1.alloc (Nat.le_refl _) o
section
variable {P : Program} {o : Oper} {a : Act} {K : Act → World → Prop} {Q : Exit → Act → World → Prop} {w : World}
/-- What is left of an append. -/
def AppEnd (w : World) (B : Nat) (e : TypeId) (L0 L : List Int) (v : Value) (w' : World) : Prop :=
  Upd w w' B e ∧ w'.ownsRow B e 1 v L.length (zs L) ∧ (L = [] → v = .slice none 0 0) ∧ (L0 = [] → Below w.heap.size w w')
theorem zs_append (L M : List Int) : zs (L ++ M) = zs L ++ zs M := by simp [zs]
theorem wp_app_src (s x : Operand) (t e : TypeId) (ho : o.op = .call { callee := .builtin .append, args := #[s, x], argTypes := #[t, t] }) (i : TypeInfo) (ht : P.underlying t = some (.slice e)) (hi : P.info? e = some i) (hz : i.zero = some (.int .i64 0)) (hsize : i.size = 1) (hby : i.bytes = 8)
    (L M : List Int) (hL : L.length + M.length ≤ 1000) (B : Nat) (hB : B ≤ w.heap.size) (v : Value) (hown : w.ownsRow B e 1 v L.length (zs L)) (hnil : L = [] → v = .slice none 0 0) (hs : a.eval s = v) (A : Option Addr) (c : Nat) (hE : Is w A M) (hx : a.eval x = .slice A M.length c)
    (h : ∀ v' w', AppEnd w B e L (L ++ M) v' w' → K (a.put o.dst v') w') : o.wp P a w K Q := by
  rcases Nat.eq_zero_or_pos M.length with hm | hm
  · obtain rfl := List.length_eq_zero_iff.1 hm
    have hK := h v w ⟨.of B e (Below.refl _ _), by rw [List.append_nil]; exact hown, by rw [List.append_nil]; exact hnil, fun _ => Below.refl _ _⟩
    have hsrc : Src P i.size t (.slice A 0 c) 0 [] w := by
      cases A with
      | none => exact Src.ofNil _ ht c
      | some ad => exact Src.ofSlice _ ht ad 0 c [] (by simp) (fun j u hu => by simp at hu) (fun u hu => by cases hu)
    unfold Oper.wp execOp
    rcases hown.2 with ⟨hv, hn⟩ | ⟨g2, cap, cur, hv, hb, hg2, hnc, hcm, hcs, htk⟩
    · subst hv
      have hr : (Builtin.append_ #[t, t] o.type #[.slice none 0 0, .slice A 0 c]).run P w = .ok (.slice none 0 0) w := by
        exact run_append_nothing w t t o.type e i ht hi none 0 0 (Nat.le_refl _) _ hsrc
      simp only [List.length_nil] at hx
      simp only [ho, resolve, invoke, builtin, Sem.run_bind, Sem.run_pure, Result.andThen_ok, List.map_toArray, List.map_cons, List.map_nil, hs, hx, hr]
      exact hK
    · subst hv
      have hr : (Builtin.append_ #[t, t] o.type #[.slice (some ⟨g2, 0, none⟩) L.length cap, .slice A 0 c]).run P w = .ok (.slice (some ⟨g2, 0, none⟩) L.length cap) w := by
        exact run_append_nothing w t t o.type e i ht hi (some ⟨g2, 0, none⟩) L.length cap hnc _ hsrc
      simp only [List.length_nil] at hx
      simp only [ho, resolve, invoke, builtin, Sem.run_bind, Sem.run_pure, Result.andThen_ok, List.map_toArray, List.map_cons, List.map_nil, hs, hx, hr]
      exact hK
  · obtain ⟨b, off, rfl, hc⟩ := hE hm
    have hnews : ∀ j u, (zs M)[j]? = some u → w.cell? ((⟨b, off, none⟩ : Addr).add j) = some u := els_cells (f := fun z => Value.int .i64 z) (d := (0 : Int)) hE
    have h1 : ∀ u ∈ zs M, u.oneCell' = true := fun u hu => by obtain ⟨z, _, rfl⟩ := List.mem_map.1 hu; rfl
    have hl : (zs M).length = M.length * 1 := by simp [zs]
    obtain ⟨g, cap', w', hr, ho2, hgr, hor, hlt⟩ := run_append_lies (P := P) (w := w) t o.type B e i (.int .i64 0) 1 8 ht hi hz hsize hby rfl (by decide) v L.length (zs L) hown ⟨b, off, none⟩ M.length c (zs M) hl hnews h1 hm (by unfold maxLen; omega) (by omega) hB w.heap.size rfl
    have hU : Upd w w' B e := by
      rcases hown.2 with ⟨hv, hn⟩ | ⟨g2, cap, cur, hv, hb, hg2, hnc, hcm, hcs, htk⟩
      · subst hv
        exact ⟨hgr.os, hgr.tape, hgr.output, hgr.size, fun k hk => .inl (hgr.block k hk (by simp [Value.ownBlock]))⟩
      · subst hv
        rw [Nat.mul_one] at hcs
        have hL0 : 0 < L.length := by
          rcases Nat.eq_zero_or_pos L.length with h0 | h0
          · have := hnil (List.length_eq_zero_iff.1 h0)
            cases this
          · exact h0
        by_cases hroom : L.length + M.length ≤ cap
        · refine ⟨hgr.os, hgr.tape, hgr.output, hgr.size, fun k hk => ?_⟩
          by_cases hkg : k = g2
          · subst hkg
            exact .inr ⟨hb, cur, hg2, by omega⟩
          · exact .inl (hgr.block k hk (by simp only [Value.ownBlock, ne_eq, Option.some.injEq]; omega))
        · have hfit : Builtin.nextslicecap (L.length + M.length) cap * i.bytes ≤ 281474976710656 := growslice_fits (by omega) (by
            rw [hby]; omega)
          have hr2 := run_append_grow (P := P) (w := w) t o.type e i (.int .i64 0) ht hi hz ⟨g2, 0, none⟩ L.length cap (zs L) (by rw [hsize]; simp [zs]) (hown.cells (g := g2) rfl) ⟨b, off, none⟩ M.length c (zs M) (by rw [hsize]; simp [zs]) hnews (by omega) (by omega) hfit
          rw [hr] at hr2
          injection hr2 with _ hw
          rw [hw]
          exact .of B e (below_grow _)
    unfold Oper.wp execOp
    simp only [ho, resolve, invoke, builtin, Sem.run_bind, Sem.run_pure, Result.andThen_ok, List.map_toArray, List.map_cons, List.map_nil, hs, hx, hr]
    refine h _ _ ⟨hU, by rw [zs_append, List.length_append]; exact ho2, fun e => ?_, fun e => ?_⟩
    · have := congrArg List.length e
      rw [List.length_append, List.length_nil] at this
      omega
    · have hv := hnil e
      subst hv
      exact ⟨hgr.os, hgr.tape, hgr.output, hgr.size, fun k hk => hgr.block k hk (by simp [Value.ownBlock])⟩
theorem wpList_app_src {ops : Array Oper} {rest : List Oper} (hgd : o.guard = none) (s x : Operand) (t e : TypeId) (ho : o.op = .call { callee := .builtin .append, args := #[s, x], argTypes := #[t, t] }) (i : TypeInfo) (ht : P.underlying t = some (.slice e)) (hi : P.info? e = some i) (hz : i.zero = some (.int .i64 0)) (hsize : i.size = 1) (hby : i.bytes = 8)
    (L M : List Int) (hL : L.length + M.length ≤ 1000) (B : Nat) (hB : B ≤ w.heap.size) (v : Value) (hown : w.ownsRow B e 1 v L.length (zs L)) (hnil : L = [] → v = .slice none 0 0) (hs : a.eval s = v) (A : Option Addr) (m c : Nat) (hx : a.eval x = .slice A m c) (hm : m = M.length) (hE : Is w A M)
    (h : ∀ v' w', AppEnd w B e L (L ++ M) v' w' → wpList P ops Q rest (a.put o.dst v') w') : wpList P ops Q (o :: rest) a w :=
  wpList_plain hgd fun _ hK => wp_app_src s x t e ho i ht hi hz hsize hby L M hL B hB v hown hnil hs A c hE (hm ▸ hx) fun v' w' h' => hK _ _ (h v' w' h')
theorem is_take {A : Option Addr} {L : List Int} (h : Is w A L) (k : Nat) : Is w A (L.take k) := fun h0 => by
  rw [List.length_take] at h0
  obtain ⟨b, off, e, hc⟩ := h (by omega)
  refine ⟨b, off, e, fun j hj => ?_⟩
  rw [List.length_take] at hj
  rw [hc j (by omega), List.getD_eq_getElem?_getD, List.getD_eq_getElem?_getD, List.getElem?_take_of_lt (by omega)]
theorem is_drop {A : Option Addr} {L : List Int} (h : Is w A L) (k cap : Nat) (hk : L.length ≤ cap) : Is w (if cap = k then A else A.map (·.add k)) (L.drop k) := fun h0 => by
  rw [List.length_drop] at h0
  obtain ⟨b, off, rfl, hc⟩ := h (by omega)
  rw [if_neg (by omega)]
  refine ⟨b, off + k, ?_, fun j hj => ?_⟩
  · show some (Addr.add ⟨b, off, none⟩ k) = _
    have e2 : (⟨b, off, none⟩ : Addr).add k = ⟨b, off + k, none⟩ := by unfold Addr.add; split <;> simp_all
    rw [e2]
  · rw [List.length_drop] at hj
    rw [Nat.add_assoc, hc (k + j) (by omega), List.getD_eq_getElem?_getD, List.getD_eq_getElem?_getD, List.getElem?_drop]
/-- A row of the call's own that holds a list, as a value. -/
def OwnV (w : World) (B : Nat) (L : List Int) (v : Value) : Prop := w.ownsRow B 3 1 v L.length (zs L) ∧ (L = [] → v = .slice none 0 0)
theorem OwnV.later {w w' : World} {B : Nat} {L : List Int} {v : Value} (h : OwnV w B L v) (hb : Below w.heap.size w w') : OwnV w' B L v := ⟨own_later h.1 hb, h.2⟩
theorem OwnV.slice {w : World} {B : Nat} {L : List Int} {v : Value} (h : OwnV w B L v) (h0 : 0 < L.length) : ∃ g cap, v = .slice (some ⟨g, 0, none⟩) L.length cap ∧ L.length ≤ cap ∧ B ≤ g ∧ g < w.heap.size ∧ Is w (some ⟨g, 0, none⟩) L := by
  have h1 := h.1
  rcases h1.2 with ⟨hv, hn⟩ | ⟨g, cap, cur, hv, hb, hg, hnc, hcm, hcs, htk⟩
  · omega
  · obtain ⟨A', cap', e, h3, h4, h5⟩ := els_own (f := fun z => Value.int .i64 z) (d := (0 : Int)) h1
    rw [hv] at e
    injection e with e1 e2 e3
    rw [← e1] at h4
    exact ⟨g, cap, hv, hnc, hb, (Array.getElem?_eq_some_iff.1 hg).1, h4⟩
end
end Ss
end Go.Proofs.Ytlhloahogfnijaa
