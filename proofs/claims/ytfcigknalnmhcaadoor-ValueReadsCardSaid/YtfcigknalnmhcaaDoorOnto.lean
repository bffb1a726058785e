/- Bytes appended onto a slice without room ('b[:n:n]'), or onto a row of the call's own: one law for both. -/
import Derived.Test.YtfcigknalnmhcaaDoorBytes
import Derived.ArgAppend
import Derived.Deep.AppendSrc
namespace Go.Proofs.YtfcigknalnmhcaaDoor
open Go.RowKit

/-- A slice without room, or a row of the call's own: what is appended goes to memory of the call's own. -/
def Onto (B : Nat) (w : World) (v : Value) (L : List UInt8) : Prop :=
  (∃ A, v = .slice A L.length L.length ∧ Bs w A L) ∨ w.ownsRow B 5 1 v L.length (Lib.byteCells L)
theorem Onto.of_own {B : Nat} {w : World} {v : Value} {L : List UInt8} (h : w.ownsRow B 5 1 v L.length (Lib.byteCells L)) : Onto B w v L := .inr h
theorem Onto.of_full {B : Nat} {w : World} {A : Option Addr} {L : List UInt8} (h : Bs w A L) : Onto B w (.slice A L.length L.length) L := .inl ⟨A, rfl, h⟩
theorem Onto.nil (B : Nat) (w : World) : Onto B w (.slice none 0 0) [] := .inr (World.ownsRow_nil _ _ _ _)
theorem Onto.alloc {B : Nat} {w : World} {v : Value} {L : List UInt8} (h : Onto B w v L) (o : Obj) : Onto B (w.alloc o) v L := by
  rcases h with ⟨A, e, h⟩ | h
  · exact .inl ⟨A, e, h.below ((Below.refl _ _).alloc (Nat.le_refl _) _)⟩
  · exact .inr (h.alloc _)

theorem below_own {B : Nat} {w w' : World} {e : TypeId} {n : Nat} {v : Value} {xs : List Value} (h : w.ownsRow B e 1 v n xs) (hg : w.grownBy w' v.ownBlock) (hB : B ≤ w.heap.size) : Below B w w' := by
  refine (Below.refl _ _).grown hg hB fun k hk => ?_
  rcases h.2 with ⟨rfl, _⟩ | ⟨g, cap, cur, rfl, hbg, _⟩
  · cases hk
  · injection hk with hk; subst hk; exact hbg

theorem run_append_onto (w : World) (ty : TypeId) (B : Nat) (v : Value) (L M : List UInt8) (ho : Onto B w v L) (a : Addr) (c : Nat) (hM : Bs w (some a) M) (hm : 1 ≤ M.length) (hlen : L.length + M.length ≤ 140737488355328) (hB : B ≤ w.heap.size) :
    ∃ v' w', (Builtin.append_ #[48, 48] ty #[v, .slice (some a) M.length c]).run Tryd.prog w = .ok v' w' ∧ w'.ownsRow B 5 1 v' (L ++ M).length (Lib.byteCells (L ++ M)) ∧ Below B w w' := by
  obtain ⟨i0, hi, hz0, hz1, hz2⟩ := info_parts (show (Tryd.prog.info? 5).map (fun i => (i.zero, i.size, i.bytes)) = some (some (.int .u8 0), 1, 1) by kernel_rfl)
  have hcs : Lib.byteCells L ++ Lib.byteCells M = Lib.byteCells (L ++ M) := by unfold Lib.byteCells; rw [List.map_append]
  have own_arm : ∀ v, w.ownsRow B 5 1 v L.length (Lib.byteCells L) → ∃ v' w', (Builtin.append_ #[48, 48] ty #[v, .slice (some a) M.length c]).run Tryd.prog w = .ok v' w' ∧ w'.ownsRow B 5 1 v' (L ++ M).length (Lib.byteCells (L ++ M)) ∧ Below B w w' := by
    intro v h
    obtain ⟨v', w', hr, h2, h3, _⟩ := run_append_own (P := Tryd.prog) w B 48 ty 5 i0 _ 1 1 Tryd.underlying48 hi hz0 hz1 hz2 rfl (by decide) v L.length (Lib.byteCells L) h a M.length c (Lib.byteCells M) (by rw [Lib.byteCells_length]; omega) (bs_cells hM) (bytes_one M) (by unfold maxLen; omega) (by omega) hB
    rw [hcs, ← List.length_append] at h2
    exact ⟨v', w', hr, h2, below_own h h3 hB⟩
  rcases ho with ⟨A, rfl, hL⟩ | h
  · cases A with
    | none =>
      have h0 : L = [] := by
        cases L with
        | nil => rfl
        | cons c L => obtain ⟨b, off, e, _⟩ := hL (by simp); cases e
      subst h0
      exact own_arm _ (World.ownsRow_nil _ _ _ _)
    | some ad =>
      obtain ⟨v', w', hr, h2, h3⟩ := run_append_arg_grows (P := Tryd.prog) w 48 ty 5 i0 _ 1 1 Tryd.underlying48 hi hz0 hz1 hz2 rfl (by decide) ad L.length L.length (Lib.byteCells L) (by rw [Lib.byteCells_length]; omega) (bs_cells hL) a M.length c (Lib.byteCells M) (by rw [Lib.byteCells_length]; omega) (bs_cells hM) (by omega) (by unfold maxLen; omega) (by omega)
      rw [hcs, ← List.length_append] at h2
      refine ⟨v', w', hr, ⟨h2.1, ?_⟩, ⟨h3.os, h3.tape, h3.output, h3.size, fun k hk => h3.block k (by omega) (by simp)⟩⟩
      rcases h2.2 with h4 | ⟨g, cap, cur, e1, e2, rest⟩
      · exact .inl h4
      · exact .inr ⟨g, cap, cur, e1, by omega, rest⟩
  · exact own_arm v h

theorem wpList_append_onto {w : World} {ops : Array Oper} {rest : List Oper} {o : Oper} {a : Act} {Q : Exit → Act → World → Prop} (hgd : o.guard = none) (s x : Operand)
    (hop : o.op = .call { callee := .builtin .append, args := #[s, x], argTypes := #[48, 48] }) (B : Nat) (v : Value) (L M : List UInt8) (hs : a.eval s = v) (ho : Onto B w v L)
    (ad : Addr) (c : Nat) (hx : a.eval x = .slice (some ad) M.length c) (hM : Bs w (some ad) M) (hm : 1 ≤ M.length) (hlen : L.length + M.length ≤ 140737488355328) (hB : B ≤ w.heap.size)
    (h : ∀ v' w', w'.ownsRow B 5 1 v' (L ++ M).length (Lib.byteCells (L ++ M)) → Below B w w' → wpList Tryd.prog ops Q rest (a.put o.dst v') w') : wpList Tryd.prog ops Q (o :: rest) a w := by
  refine wpList_plain hgd fun K hK => ?_
  obtain ⟨v', w', hr, h2, h3⟩ := run_append_onto w o.type B v L M ho ad c hM hm hlen hB
  unfold Oper.wp
  simp [execOp, hop, resolve, invoke, builtin, hs, hx, hr, Result.andThen]
  exact hK _ _ (h v' w' h2 h3)

/-- Onto a row of the call's own that holds something: whatever yields cells (a text, too). -/
theorem run_append_own_src (w : World) (tx ty : TypeId) (B : Nat) (v : Value) (L M : List UInt8) (h : w.ownsRow B 5 1 v L.length (Lib.byteCells L)) (h0 : 1 ≤ L.length) (x : Value) (hx : Src Tryd.prog 1 tx x M.length (Lib.byteCells M) w) (hlen : L.length + M.length ≤ 140737488355328) (hB : B ≤ w.heap.size) :
    ∃ v' w', (Builtin.append_ #[48, tx] ty #[v, x]).run Tryd.prog w = .ok v' w' ∧ w'.ownsRow B 5 1 v' (L ++ M).length (Lib.byteCells (L ++ M)) ∧ Below B w w' := by
  obtain ⟨i0, hi, hz0, hz1, hz2⟩ := info_parts (show (Tryd.prog.info? 5).map (fun i => (i.zero, i.size, i.bytes)) = some (some (.int .u8 0), 1, 1) by kernel_rfl)
  have ht := Tryd.underlying48
  have hcs : Lib.byteCells L ++ Lib.byteCells M = Lib.byteCells (L ++ M) := by unfold Lib.byteCells; rw [List.map_append]
  have hll : (L ++ M).length = L.length + M.length := List.length_append
  have hbl : (Lib.byteCells (L ++ M)).length = L.length + M.length := by rw [Lib.byteCells_length, hll]
  have hx1 : Src Tryd.prog i0.size tx x M.length (Lib.byteCells M) w := by rw [hz1]; exact hx
  rcases h.2 with ⟨_, e⟩ | ⟨g, cap, cur, rfl, hbg, hg, hnc, hcm, hcz, htake⟩
  · omega
  · rw [Nat.mul_one] at hcz htake
    have hcl := Lib.byteCells_length L
    have hml := Lib.byteCells_length M
    by_cases hroom : L.length + M.length ≤ cap
    · have hfit : L.length * 1 + (Lib.byteCells M).length ≤ cur.size := by omega
      have hst := run_storeCells_at Tryd.prog g (L.length * 1) 5 (Lib.byteCells M) 0 cur w hg (by simpa using hfit) (bytes_one M)
      simp only [Nat.add_zero, Nat.mul_one] at hst
      have hr : (Builtin.append_ #[48, tx] ty #[.slice (some ⟨g, 0, none⟩) L.length cap, x]).run Tryd.prog w =
          .ok (.slice (some ⟨g, 0, none⟩) (L.length + M.length) cap) (w.setRow g (cur.toList.take L.length ++ Lib.byteCells M ++ cur.toList.drop (L.length + (Lib.byteCells M).length)).toArray) := by
        have hx2 := hx1.cells
        rw [hz1] at hx2
        rcases hx.kind with ⟨e', hk⟩ | hk <;> simp [Builtin.append_, run_underlying ht, run_underlying hk, sizeOf, typeInfo, hi, hz1, hx.len, hroom, hx2, Addr.add_lit, hst]
      refine ⟨_, _, hr, ⟨by rw [hbl, hll, Nat.mul_one], .inr ⟨g, cap, _, by rw [hll], hbg, setRow_heap w g cur _ _ _ hg, by omega, hcm, ?_, ?_⟩⟩, ⟨rfl, rfl, rfl, by simp, fun k hk => setRow_other w g k _ (by omega)⟩⟩
      · simp only [List.size_toArray, List.length_append, List.length_take, List.length_drop, Array.length_toList]
        omega
      · rw [htake, ← hcs]
        have hl2 : (L ++ M).length * 1 = (Lib.byteCells L ++ Lib.byteCells M).length := by rw [hcs, hbl, hll, Nat.mul_one]
        rw [hl2]
        exact List.take_left
    · have hf := run_firstCells_some (P := Tryd.prog) w.drew 1 L.length ⟨g, 0, none⟩ L.length cap (Lib.byteCells L) (by omega) (fun j u hj => by have := h.cells (g := g) rfl j u hj; simpa using this)
      have hge := grownCap_ge w (L.length + M.length) cap 5
      have hcm2 : grownCap w (L.length + M.length) cap 5 ≤ maxLen := grownCap_le_maxLen w (L.length + M.length) cap 5 (by unfold maxLen; omega)
      have hfit := growslice_fits (need := L.length + M.length) (old := cap) (bytes := i0.bytes) (by omega) (by rw [hz2]; omega)
      have hr := run_append_grow_src (P := Tryd.prog) w 48 tx ty 5 i0 _ ht hi hz0 (some ⟨g, 0, none⟩) L.length cap (Lib.byteCells L) (by rw [hz1]; exact hf) x M.length (Lib.byteCells M) hx1 (by omega) (by omega) hfit
      refine ⟨_, _, hr, ⟨by rw [hbl, hll, Nat.mul_one], .inr ⟨w.heap.size, _, _, by rw [hll], hB, heap_alloc_new w.drew _, by omega, hcm2, ?_, ?_⟩⟩, ⟨rfl, rfl, rfl, by simp, fun k hk => Below.heap_alloc w.drew _ k (by show k < w.heap.size; omega)⟩⟩
      · have hzc : (Value.int .u8 0).cells.size = 1 := rfl
        rw [Array.size_append, size_zeroCells, hzc, List.size_toArray, hcs, hbl]
        omega
      · rw [Array.toList_append, ← hcs]
        have hl2 : (L ++ M).length * 1 = (Lib.byteCells L ++ Lib.byteCells M).length := by rw [hcs, hbl, hll, Nat.mul_one]
        rw [hl2]
        exact List.take_left
theorem wpList_append_own_src {w : World} {ops : Array Oper} {rest : List Oper} {o : Oper} {a : Act} {Q : Exit → Act → World → Prop} (hgd : o.guard = none) (s x : Operand) (tx : TypeId)
    (hop : o.op = .call { callee := .builtin .append, args := #[s, x], argTypes := #[48, tx] }) (B : Nat) (v : Value) (L M : List UInt8) (hs : a.eval s = v) (ho : w.ownsRow B 5 1 v L.length (Lib.byteCells L)) (h0 : 1 ≤ L.length)
    (vx : Value) (hx : a.eval x = vx) (hsrc : Src Tryd.prog 1 tx vx M.length (Lib.byteCells M) w) (hlen : L.length + M.length ≤ 140737488355328) (hB : B ≤ w.heap.size)
    (h : ∀ v' w', w'.ownsRow B 5 1 v' (L ++ M).length (Lib.byteCells (L ++ M)) → Below B w w' → wpList Tryd.prog ops Q rest (a.put o.dst v') w') : wpList Tryd.prog ops Q (o :: rest) a w := by
  refine wpList_plain hgd fun K hK => ?_
  obtain ⟨v', w', hr, h2, h3⟩ := run_append_own_src w tx o.type B v L M ho h0 vx hsrc hlen hB
  unfold Oper.wp
  simp [execOp, hop, resolve, invoke, builtin, hs, hx, hr, Result.andThen]
  exact hK _ _ (h v' w' h2 h3)
theorem src_text (w : World) (s : ByteArray) : Src Tryd.prog 1 9 (.string s) s.data.toList.length (Lib.byteCells s.data.toList) w := by
  have h := Src.ofString (P := Tryd.prog) w Tryd.underlying9 s
  rwa [show s.size = s.data.toList.length by simp] at h

/-- One byte in a new block of its own. -/
theorem bs_new (w : World) (c : UInt8) (t : TypeId) (z : Nat × Nat) : Bs (w.alloc (.cells #[.int .u8 (c.toNat : Int)] t z)) (some ⟨w.heap.size, 0, none⟩) [c] := by
  refine fun _ => ⟨_, 0, rfl, fun j hj => ?_⟩
  rw [Nat.zero_add, cell_of_row _ _ j _ t z (heap_alloc_new w _)]
  simp only [List.length_cons, List.length_nil] at hj
  obtain rfl : j = 0 := by omega
  rfl
end Go.Proofs.YtfcigknalnmhcaaDoor
