/- Several texts in one: RtA, RtO. -/
import Derived.Test.YtindkpfmflcibaaGreatDoorRA
import Derived.Test.YtindkpfmflcibaaGreatDoorGE
import Derived.Deep.AppendLies
import Derived.Deep.Upon
import Derived.Deep.AppendSrc
import Derived.Laws.AppendOwnNone
import Derived.Lib.ItoaMem
import Derived.Deep.CutRange
import Derived.Deep.RegionWith
namespace Go.Proofs.YtindkpfmflcibaaGreatDoor
/- append of sessions onto a row of sessions of the call's own. -/
section
open Go.RowKit
set_option linter.unusedSimpArgs false

/-- Sessions lie where a slice begins. -/
def OM (w : World) (A : Option Addr) (M : List Se) : Prop := 0 < M.length → ∃ b off, A = some ⟨b, off, none⟩ ∧ b < w.heap.size ∧ ∀ j u, (ocl M)[j]? = some u → w.cell? ⟨b, off + j, none⟩ = some u
theorem OM.same {w w' : World} {A : Option Addr} {M : List Se} (h : OM w A M) (hb : ∀ b off, A = some ⟨b, off, none⟩ → b < w.heap.size → w'.heap[b]? = w.heap[b]?) (hs : w.heap.size ≤ w'.heap.size) : OM w' A M := fun h0 => by
  obtain ⟨b, off, rfl, hl, hc⟩ := h h0
  exact ⟨b, off, rfl, by omega, fun j u hu => (World.cell?_of_block (w := w) (a := ⟨b, off + j, none⟩) (hb b off rfl hl)).trans (hc j u hu)⟩
theorem OM.later {w w' : World} {A : Option Addr} {M : List Se} (h : OM w A M) (hb : Below w.heap.size w w') : OM w' A M := h.same (fun b _ _ hl => hb.block b hl) hb.size
/-- How an append of them ends. -/
structure AppT (w : World) (B : Nat) (v : Value) (L : List Se) (v' : Value) (w' : World) : Prop where
  row : w'.ownsRow B 56 8 v' L.length (ocl L)
  grown : w.grownBy w' v.ownBlock
  blk : v'.ownBlock = v.ownBlock ∨ v'.ownBlock = some w.heap.size
theorem run_app_t (w : World) (ty : TypeId) (B : Nat) (hB : B ≤ w.heap.size) (v : Value) (L M : List Se) (hown : w.ownsRow B 56 8 v L.length (ocl L)) (hl : L.length + M.length ≤ 1000) (A : Option Addr) (c : Nat) (hM : OM w A M) :
    ∃ v' w', (Builtin.append_ #[27, 27] ty #[v, .slice A M.length c]).run Tryz.prog w = .ok v' w' ∧ AppT w B v (L ++ M) v' w' := by
  obtain ⟨i0, hi, hz0, hz1, hz2⟩ := info_parts (show (Tryz.prog.info? 56).map (fun i => (i.zero, i.size, i.bytes)) = some (some (.agg #[.int .i64 0, .int .i64 0, .int .i64 0, .int .i64 0, .int .i64 0, .int .i64 0, .int .i64 0, .string ⟨#[]⟩]), 8, 72) by kernel_rfl)
  have ht := Tryz.underlying27
  rcases Nat.eq_zero_or_pos M.length with hm | hm
  · obtain rfl := List.length_eq_zero_iff.1 hm
    have hsrc : Src Tryz.prog i0.size 27 (.slice A 0 c) 0 [] w := by
      cases A with
      | none => exact Src.ofNil _ ht c
      | some ad => exact Src.ofSlice _ ht ad 0 c [] (by simp) (fun j u hu => by simp at hu) (fun u hu => by cases hu)
    have hg : w.grownBy w v.ownBlock := ⟨rfl, rfl, rfl, Nat.le_refl _, fun _ _ _ => rfl⟩
    rcases hown.2 with ⟨hv, hn⟩ | ⟨g2, cap, cur, hv, hb, hg2, hnc, hcm, hcs, htk⟩
    · refine ⟨v, w, ?_, by rw [List.append_nil]; exact hown, hg, .inl rfl⟩
      rw [hv]
      exact run_append_nothing w _ _ ty _ i0 ht hi none 0 0 (Nat.le_refl _) _ hsrc
    · refine ⟨v, w, ?_, by rw [List.append_nil]; exact hown, hg, .inl rfl⟩
      rw [hv]
      exact run_append_nothing w _ _ ty _ i0 ht hi (some ⟨g2, 0, none⟩) L.length cap hnc _ hsrc
  · obtain ⟨b, off, rfl, hlt, hc⟩ := hM hm
    obtain ⟨g, cap', w', hr, ho2, hgr, hor, hlt⟩ := run_append_lies (P := Tryz.prog) (w := w) 27 ty B 56 i0 _ 8 72 ht hi hz0 hz1 hz2 rfl (by decide) v L.length (ocl L) hown ⟨b, off, none⟩ M.length c (ocl M) (ocl_len M)
      (fun j u hu => by have := hc j u hu; rwa [Go.Lib.add_plain]) ocl_one hm (by unfold maxLen; omega) (by omega) hB w.heap.size rfl
    refine ⟨_, w', hr, ⟨by rw [List.length_append, ocl_app]; exact ho2, hgr, ?_⟩⟩
    rcases hor with h | h
    · exact .inl h.symm
    · exact .inr (by rw [h]; rfl)
theorem wpList_app_t {ops : Array Oper} {rest : List Oper} {o : Oper} {a : Act} {Q : Exit → Act → World → Prop} {w : World} (hgd : o.guard = none) (s x : Operand)
    (ho : o.op = .call { callee := .builtin .append, args := #[s, x], argTypes := #[27, 27] })
    (B : Nat) (hB : B ≤ w.heap.size) (v : Value) (L M : List Se) (hown : w.ownsRow B 56 8 v L.length (ocl L)) (hl : L.length + M.length ≤ 1000) (A : Option Addr) (m c : Nat) (hm : m = M.length) (hM : OM w A M) (hs : a.eval s = v) (hx : a.eval x = .slice A m c)
    (h : ∀ v' w', AppT w B v (L ++ M) v' w' → wpList Tryz.prog ops Q rest (a.put o.dst v') w') : wpList Tryz.prog ops Q (o :: rest) a w := by
  subst hm
  refine wpList_plain hgd fun K hK => ?_
  obtain ⟨v', w', hr, h2⟩ := run_app_t w o.type B hB v L M hown hl A c hM
  unfold Oper.wp execOp
  simp only [ho, resolve, invoke, builtin, Sem.run_bind, Sem.run_pure, Result.andThen_ok, List.map_toArray, List.map_cons, List.map_nil, hs, hx, hr]
  exact hK _ _ (h v' w' h2)
section
variable {w w' : World} {B Tw most : Nat} {v : Value} {L : List Se}
theorem RtTo.refl (h : RT w B Tw most v L) : RtTo w B Tw most v L w := ⟨v, h, But2.refl _ _ _, fun _ hk => .inl hk⟩
theorem RtTo.trans {L2 : List Se} {y : World} (h : RtTo w B Tw most v L w') (h2 : ∀ v1, RT w' B Tw most v1 L → RtTo w' B Tw most v1 L2 y) : RtTo w B Tw most v L2 y := by
  obtain ⟨v1, hR, hb, hf⟩ := h
  obtain ⟨v2, hR2, hb2, hf2⟩ := h2 v1 hR
  refine ⟨v2, hR2, ⟨hb2.os.trans hb.os, hb2.tape.trans hb.tape, hb2.output.trans hb.output, Nat.le_trans hb.size hb2.size, fun i hi h1 h3 => ?_⟩, fun k hk => ?_⟩
  · refine (hb2.block i (Nat.lt_of_lt_of_le hi hb.size) h1 ?_).trans (hb.block i hi h1 h3)
    cases hv : v1.ownBlock with
    | none => exact h1
    | some k =>
      show i ≠ k
      rcases hf k hv with h4 | h4
      · rw [h4] at h3; exact h3
      · omega
  · rcases hf2 k hk with h4 | h4
    · exact hf k h4
    · exact .inr (Nat.le_trans hb.size h4)
theorem RtTo.later {y : World} (h : RtTo w B Tw most v L w') (hb : Below w'.heap.size w' y) : RtTo w B Tw most v L y :=
  h.trans fun v1 h1 => ⟨v1, h1.later hb, But2.of hb, fun _ hk => .inl hk⟩
/-- The row itself, cut. -/
theorem RT.om (h : RT w B Tw most v L) : ∃ A cap, v = .slice A L.length cap ∧ L.length ≤ cap ∧ OM w A L ∧ (A = none → cap = 0) ∧ (∀ b off, A = some ⟨b, off, none⟩ → off = 0 ∧ v.ownBlock = some b) := by
  rcases h.row.2 with ⟨rfl, h0⟩ | ⟨g, cap, cur, rfl, _, _, hc, _⟩
  · exact ⟨none, 0, by rw [h0], by omega, fun h1 => by omega, fun _ => rfl, fun _ _ h => by cases h⟩
  · have hcs : ∀ b off, (some (⟨g, 0, none⟩ : Addr)) = some ⟨b, off, none⟩ → off = 0 ∧ (Value.slice (some ⟨g, 0, none⟩) L.length cap).ownBlock = some b := fun b off he => by
      injection he with he
      injection he with h1 h2
      exact ⟨h2.symm, by rw [← h1]; rfl⟩
    have hnn : (some (⟨g, 0, none⟩ : Addr)) = none → cap = 0 := fun h => by cases h
    refine ⟨some ⟨g, 0, none⟩, cap, rfl, hc, fun h0 => ⟨g, 0, rfl, (h.row.lt g rfl).2, fun j u hu => ?_⟩, hnn, hcs⟩
    have hj : j < L.length * 8 := by rw [← ocl_len]; exact (List.getElem?_eq_some_iff.1 hu).1
    rw [Nat.zero_add, h.row.cellAt j hj]; exact hu
theorem OM.take {A : Option Addr} (h : OM w A L) (k : Nat) (hk : k ≤ L.length) : OM w A (L.take k) := fun h0 => by
  obtain ⟨b, off, e, hl, hc⟩ := h (by rw [List.length_take] at h0; omega)
  refine ⟨b, off, e, hl, fun j u hu => hc j u ?_⟩
  rw [← ocl_take L k hk, List.getElem?_take] at hu
  split at hu
  · exact hu
  · cases hu
theorem OM.drop {g off : Nat} (h : OM w (some ⟨g, off, none⟩) L) (k : Nat) (hk : k ≤ L.length) : OM w (some ⟨g, off + k * 8, none⟩) (L.drop k) := fun h0 => by
  obtain ⟨b, off', e, hl, hc⟩ := h (by rw [List.length_drop] at h0; omega)
  injection e with e
  injection e with e1 e2
  subst e1 e2
  refine ⟨g, off + k * 8, rfl, hl, fun j u hu => ?_⟩
  rw [← ocl_drop L k hk, List.getElem?_drop] at hu
  rw [Nat.add_assoc]
  exact hc _ u hu
end
section
variable {P : Program} {md : Region.Mode} {l : List Oper} {Q : Exit → Act → World → Prop} {S : World → Prop} {fuel : Nat} {listed : Array Bool} {a : Act} {w : World} {i j : Nat} {o o2 : Oper}
/-- Two may come up: one that makes a value (in a new world), one that only reads. -/
theorem held_make_read {v v2 : Value} {w1 : World} (hr : Region.ready md l.toArray listed = [i, j]) (ho : l[i]? = some o) (ho2 : l[j]? = some o2)
    (hw : Region.wanted o (yielded l.toArray a.tmps) = true) (hw2 : Region.wanted o2 (yielded l.toArray a.tmps) = true) (hS : S w) (hS1 : S w1) (hy : (execOp a.eval o).run P w = .ok (.value v) w1) (hy2 : (execOp a.eval o2).run P w = .ok (.value v2) w)
    (h : wpAnyH P md l.toArray Q S fuel (listed.setIfInBounds i true) (a.put o.dst v) w1) (h2 : wpAnyH P md l.toArray Q S fuel (listed.setIfInBounds j true) (a.put o2.dst v2) w) : wpAnyH P md l.toArray Q S (fuel + 1) listed a w :=
  wpAnyH_ready hr (by simp) (AllReadyH.cons (by simpa using ho) (fun K hK => by
      rw [if_pos hw]
      unfold Oper.wp
      rw [hy]
      exact hK _ _ hS1 fun _ => h)
    (AllReadyH.cons (by simpa using ho2) (fun K hK => by
      rw [if_pos hw2]
      unfold Oper.wp
      rw [hy2]
      exact hK _ _ hS fun _ => h2) AllReadyH.nil))
theorem held_read_read2 {v v2 : Value} (hr : Region.ready md l.toArray listed = [i, j]) (ho : l[i]? = some o) (ho2 : l[j]? = some o2)
    (hw : Region.wanted o (yielded l.toArray a.tmps) = true) (hw2 : Region.wanted o2 (yielded l.toArray a.tmps) = true) (hS : S w) (hy : (execOp a.eval o).run P w = .ok (.value v) w) (hy2 : (execOp a.eval o2).run P w = .ok (.value v2) w)
    (h : wpAnyH P md l.toArray Q S fuel (listed.setIfInBounds i true) (a.put o.dst v) w) (h2 : wpAnyH P md l.toArray Q S fuel (listed.setIfInBounds j true) (a.put o2.dst v2) w) : wpAnyH P md l.toArray Q S (fuel + 1) listed a w :=
  held_make_read hr ho ho2 hw hw2 hS hS hy hy2 h h2
end
theorem run_op_app_t {w w' : World} {a : Act} {o : Oper} {v : Value} {t1 t2 : TypeId} (s x : Operand) (hop : o.op = .call { callee := .builtin .append, args := #[s, x], argTypes := #[t1, t2] })
    (hr : (Builtin.append_ #[t1, t2] o.type #[a.eval s, a.eval x]).run Tryz.prog w = .ok v w') : (execOp a.eval o).run Tryz.prog w = .ok (.value v) w' := by
  simp [execOp, hop, resolve, invoke, builtin, hr, Result.andThen]
end
/- The document's Open. Printed by gen/rtopen.py. -/
section
open Go.RowKit
set_option linter.unusedSimpArgs false

theorem used_at {L : List Se} {k : Nat} (hk : k < L.length) : usedAt L k = L[k].used := by unfold usedAt; rw [List.getElem?_eq_getElem hk]; rfl
theorem qk_yes {L : List Se} {k : Nat} (hk : k < L.length) (hq : qk L (k - 1) < L.length) (h : L[k].used < L[qk L (k - 1)].used) : qk L k = k := by
  cases k with
  | zero => exact absurd h (by show ¬ L[0].used < L[0].used; omega)
  | succ k =>
    show (if usedAt L (k + 1) < usedAt L (qk L k) then k + 1 else qk L k) = k + 1
    rw [used_at hk, used_at (k := qk L k) hq]
    exact if_pos h
theorem qk_no {L : List Se} {k : Nat} (hk : k < L.length) (hq : qk L (k - 1) < L.length) (h : ¬ L[k].used < L[qk L (k - 1)].used) : qk L k = qk L (k - 1) := by
  cases k with
  | zero => rfl
  | succ k =>
    show (if usedAt L (k + 1) < usedAt L (qk L k) then k + 1 else qk L k) = qk L k
    rw [used_at hk, used_at (k := qk L k) hq]
    exact if_neg h
theorem mayS_no {i : Int} {L : List Se} (most : Nat) (h : mayS i L = false) : openS most i L = ((0, false), L) := by unfold openS; rw [h]; rfl
section
variable {w x : World} {B Tw most : Nat} {v v2 : Value} {L L2 : List Se}
/-- Another row is laid under the table. -/
theorem RT.turn (h : RT x B Tw most v L) (hrow : x.ownsRow B 56 8 v2 L2.length (ocl L2)) : RT (x.setCell ⟨Tw, 0, none⟩ v2) B Tw most v2 L2 ∧ Only Tw x (x.setCell ⟨Tw, 0, none⟩ v2) := by
  have ho : Only Tw x (x.setCell ⟨Tw, 0, none⟩ v2) := Only.one x Tw 0 v2
  refine ⟨⟨h.blk.set 0 v2, Ss.own_stay hrow fun k hk => ho.block k (fun e => ?_), h.ge⟩, ho⟩
  obtain ⟨c, fz, hc⟩ := Go.Lib.ownsRow_kind hrow k hk
  rw [e] at hc
  have := h.blk
  unfold Blk at this
  rw [hc] at this
  injection this with this
  injection this with _ this
  exact absurd this (by decide)
theorem RtTo.new (hb : Below w.heap.size w x) (h : RT x B Tw most v L) (hrow : x.ownsRow B 56 8 v2 L2.length (ocl L2)) (hnew : ∀ k, v2.ownBlock = some k → w.heap.size ≤ k) : RtTo w B Tw most v L2 (x.setCell ⟨Tw, 0, none⟩ v2) := by
  obtain ⟨h1, h2⟩ := h.turn hrow
  exact ⟨v2, h1, ⟨h2.os.trans hb.os, h2.tape.trans hb.tape, h2.output.trans hb.output, Nat.le_trans hb.size (Nat.le_of_eq h2.size.symm), fun k hk h3 _ => (h2.block k h3).trans (hb.block k hk)⟩, fun k hk => .inr (hnew k hk)⟩
theorem grown_below {B : Nat} {r : Option Nat} {w w' : World} (h : w.grownBy w' r) (hr : ∀ k, r = some k → B ≤ k) (hB : B ≤ w.heap.size) : Below B w w' := (Below.refl B w).grown h hB hr
end
theorem wpList_app_tt {ops : Array Oper} {rest : List Oper} {o : Oper} {a : Act} {Q : Exit → Act → World → Prop} {w : World} (hgd : o.guard = none) (s x : Operand)
    (ho : o.op = .call { callee := .builtin .append, args := #[s, x], argTypes := #[27, 27] })
    (B Tw most : Nat) (v0 : Value) (hblk : Blk w Tw 29 #[v0, .int .i64 (most : Int)]) (hB : B ≤ w.heap.size) (v : Value) (L M : List Se) (hown : w.ownsRow B 56 8 v L.length (ocl L)) (hl : L.length + M.length ≤ 1000) (A : Option Addr) (m c : Nat) (hm : m = M.length) (hM : OM w A M) (hs : a.eval s = v) (hx : a.eval x = .slice A m c)
    (h : ∀ A' n' c' w', AppT w B v (L ++ M) (.slice A' n' c') w' → Blk w' Tw 29 #[v0, .int .i64 (most : Int)] → w'.cell? ⟨Tw, 0, none⟩ = some v0 → w'.frozen? ⟨Tw, 0, none⟩ = false → Tw < w'.heap.size → wpList Tryz.prog ops Q rest (a.put o.dst (.slice A' n' c')) w') : wpList Tryz.prog ops Q (o :: rest) a w := by
  refine wpList_app_t hgd s x ho B hB v L M hown hl A m c hm hM hs hx fun v' w' h1 => ?_
  have hne : some Tw ≠ v.ownBlock := fun e => by
    obtain ⟨c, fz, hc⟩ := Go.Lib.ownsRow_kind hown Tw e.symm
    have := hblk
    unfold Blk at this
    rw [hc] at this
    injection this with this
    injection this with _ this
    exact absurd this (by decide)
  have hb : Blk w' Tw 29 #[v0, .int .i64 (most : Int)] := (h1.grown.block Tw hblk.lt hne).trans hblk
  have hform : ∃ A3 n3 c3, v' = .slice A3 n3 c3 := by
    rcases h1.row.2 with ⟨h, _⟩ | ⟨_, _, _, h, _⟩ <;> exact ⟨_, _, _, h⟩
  obtain ⟨A3, n3, c3, rfl⟩ := hform
  exact h A3 n3 c3 w' h1 hb (by rw [hb.cell]; rfl) (hb.thaw 0) hb.lt
theorem om_cut {w : World} {A : Option Addr} {L : List Se} {n cap k : Nat} (h : OM w A L) (hn : L.length = n) (hc : n ≤ cap) (hk : k ≤ n) (hA : A = none → cap = 0) (hoff : ∀ b off, A = some ⟨b, off, none⟩ → off = 0) : OM w (if cap = k then A else A.map (·.add (k * 8))) (L.drop k) := by
  by_cases hck : cap = k
  · intro h0
    rw [List.length_drop] at h0; omega
  · rw [if_neg hck]
    intro h0
    have h0' := h0
    rw [List.length_drop] at h0'
    obtain ⟨b, off, rfl, -⟩ := h (by omega)
    obtain rfl := hoff b off rfl
    have := h.drop k (by omega) h0
    try rw [if_neg hck]
    rw [Nat.zero_add] at this
    simp only [Option.map_some, Go.Lib.add_plain, Nat.zero_add]
    exact this
theorem om_new (w : World) (i : Int) : OM (w.alloc (.cells #[.int .i64 i, .int .i64 i, .int .i64 0, .int .i64 0, .int .i64 0, .int .i64 0, .int .i64 0, .string ⟨#[]⟩] 56)) (some ⟨w.heap.size, 0, none⟩) [newS i] := fun _ => by
  refine ⟨w.heap.size, 0, rfl, by simp, fun j u hu => ?_⟩
  rw [Nat.zero_add, cell_of_row _ _ j _ _ _ (heap_alloc_new w _)]
  have e : (#[.int .i64 i, .int .i64 i, .int .i64 0, .int .i64 0, .int .i64 0, .int .i64 0, .int .i64 0, .string ⟨#[]⟩] : Array Value).toList = ocl [newS i] := rfl
  rw [← hu, ← e, Array.getElem?_toList]
theorem app_below {w x w' : World} {B : Nat} {v v' : Value} {L : List Se} (h : AppT x B v L v' w') (hb : Below w.heap.size w x) (hv : ∀ k, v.ownBlock = some k → w.heap.size ≤ k) : Below w.heap.size w w' ∧ ∀ k, v'.ownBlock = some k → w.heap.size ≤ k :=
  ⟨hb.trans (grown_below h.grown hv hb.size), fun k hk => by
    rcases h.blk with h1 | h1
    · rw [h1] at hk; exact hv k hk
    · rw [h1] at hk; injection hk with hk; have := hb.size; omega⟩
theorem ins_at {L : List Se} {i : Int} {k : Nat} (hu : L.Pairwise fun a b => a.id < b.id) (hn : ∀ s ∈ L, s.id ≠ i) (hk : k ≤ L.length) (hhi : ∀ j (hj : j < L.length), k ≤ j → i < L[j].id) (hlo : ∀ j (hj : j < L.length), j + 1 = k → L[j].id ≤ i) : insS (newS i) L = L.take k ++ [newS i] ++ L.drop k := by
  have e : L = L.take k ++ L.drop k := (List.take_append_drop k L).symm
  conv => lhs; rw [e]
  rw [insS_split, List.append_assoc]; rfl
  · intro a ha
    obtain ⟨j, hj, rfl⟩ := List.getElem_of_mem ha
    have hjk : j < k := by rw [List.length_take] at hj; omega
    have hjl : j < L.length := by omega
    rw [List.getElem_take]
    show L[j].id < i
    have h1 := hlo (k - 1) (by omega) (by omega)
    have h2 := hn L[j] (List.getElem_mem hjl)
    rcases Nat.lt_or_ge j (k - 1) with h3 | h3
    · have := List.pairwise_iff_getElem.1 hu j (k - 1) hjl (by omega) h3; omega
    · have h4 : k - 1 = j := by omega
      simp only [h4] at h1
      omega
  · intro b hb
    obtain ⟨j, hj, rfl⟩ := List.getElem_of_mem hb
    rw [List.length_drop] at hj
    rw [List.getElem_drop]
    exact hhi (k + j) (by omega) (by omega)
set_option maxHeartbeats 8000000 in
set_option maxRecDepth 100000 in
theorem rtopen_any (B Tw most : Nat) (v : Value) (L : List Se) (i : Int) (w : World) (h : RT w B Tw most v L) (ht : Tb most L) (hi0 : -9223372036854775808 ≤ i) (hi1 : i ≤ 9223372036854775807) :
    Calls Tryz.prog 14 #[.pointer (some ⟨Tw, 0, none⟩), .int .i64 i] w fun e w' => e = .returned (.tuple #[.int .i64 (openS most i L).1.1, .bool (openS most i L).1.2]) ∧ RtTo w B Tw most v (openS most i L).2 w' := by
  have cF := rtfind_any B Tw most v L i w h (Nat.le_trans ht.len ht.hi)
  obtain ⟨hTl, c0, c1, f0⟩ := h.cells
  obtain ⟨A, cap, hv, hcap, hOM, hAn, hAb⟩ := h.om
  have H := Lib.hid h
  have HU := Lib.hid ht
  have HV := Lib.hid hv
  have HAB := Lib.hid hAb
  have hm1 := ht.lo
  have hm2 := ht.hi
  have hlm := ht.len
  rw [hv] at c0
  obtain ⟨n, hn⟩ : ∃ n, L.length = n := ⟨_, rfl⟩
  have HN := Lib.hid hn
  rw [hn] at c0 hcap hlm
  have HNO : Hid (mayS i L = false → (Ending.returned (.tuple #[.int .i64 0, .bool false]) = .returned (.tuple #[.int .i64 (openS most i L).1.1, .bool (openS most i L).1.2]) ∧ RtTo w B Tw most v (openS most i L).2 w)) := Lib.hid fun hm => by
    rw [mayS_no most hm]
    exact ⟨rfl, RtTo.refl h⟩
  have HOM := Lib.hid hOM
  clear h ht hn hv hOM hAb
  by_cases hi2 : i < 1
  · have HM : Hid (mayS i L = false) := Lib.hid (by rw [Bool.eq_false_iff]; intro h; have := (mayS_iff.1 h).1; omega)
    clear cF
    go_enter Tryz.func14, Tryz.ntmps14
    go_wp2_with fail
    go_ret2
    exact HNO.out HM.out
  · by_cases hi3 : 1099511627776 < i
    · have HM : Hid (mayS i L = false) := Lib.hid (by rw [Bool.eq_false_iff]; intro h; have := (mayS_iff.1 h).1; omega)
      clear cF
      go_enter Tryz.func14, Tryz.ntmps14
      go_wp2_with fail
      go_ret2
      exact HNO.out HM.out
    · go_enter Tryz.func14, Tryz.ntmps14
      go_wp2_with fail
      refine cF.mono ?_
      rintro e w1 ⟨⟨z, rfl, hz⟩, rfl⟩
      rcases hz.find HU.out.up with ⟨rfl, hf⟩ | ⟨k, hk, rfl, he, hf⟩
      rotate_left
      · have HM : Hid (mayS i L = false) := Lib.hid (by unfold mayS; rw [hf]; simp)
        have hk0 : (0 : Int) ≤ (k : Int) := by omega
        clear cF hz hf he
        go_wp2_with fail
        go_ret2
        exact HNO.out HM.out
      · have HNI := Lib.hid (findS_none.1 hf)
        have HM : Hid (mayS i L = true) := Lib.hid (by unfold mayS; rw [hf, wi_iff.2 ⟨by omega, by omega⟩]; rfl)
        obtain ⟨gz, L1, hgl⟩ : ∃ gz L1, (if L.length < most then ((0 : Int), L) else (goneS L, remS (goneS L) L)) = (gz, L1) := ⟨_, _, rfl⟩
        have HOP : Hid (openS most i L = ((gz, true), insS (newS i) L1)) := Lib.hid (by
          unfold openS
          rw [HM.out, if_pos rfl]
          by_cases hlt : L.length < most
          · rw [if_pos hlt] at hgl ⊢
            injection hgl with a b
            rw [← a, ← b]
          · rw [if_neg hlt] at hgl ⊢
            injection hgl with a b
            rw [← a, ← b])
        have HL1 : Hid (Tb most L1 ∧ L1.length < most ∧ ∀ s ∈ L1, s.id ≠ i) := Lib.hid (by
          split at hgl
          · rename_i hlt
            injection hgl with a b; subst a b
            exact ⟨HU.out, hlt, HNI.out⟩
          · rename_i hge
            injection hgl with a b; subst a b
            have hpos : 0 < L.length := by have := HN.out; omega
            refine ⟨HU.out.sub (by unfold remS; exact List.filter_sublist), ?_, fun s hs => HNI.out s (remS_mem.1 hs).1⟩
            rw [rem_len HU.out.up hpos]
            have := HN.out
            omega)
        have HGL := Lib.hid hgl
        clear cF hz hf hgl HNO
        go_wp2_with fail
        go_region
        go_upto_if 32 with fail
        go_cut [6, 7, 8] from 11 to 86 (fun s6 _ _ wx => s6 = .int .i64 gz ∧ Hid (RtTo w B Tw most v L1 wx))
        case first =>
          have hgl := HGL.out
          by_cases hfull : n < most
          · rw [if_pos (by rw [HN.out]; exact hfull)] at hgl
            injection hgl with a b
            subst a b
            have hd : decide (most ≤ n) = false := decide_eq_false (by omega)
            rw [hd]
            have HR : Hid (RtTo w B Tw most v L w.drew) := Lib.hid ((RtTo.refl H.out).later (Below.refl _ _).drew)
            go_wp2_with fail
            go_meet
            exact ⟨rfl, HR⟩
          · rw [if_neg (by rw [HN.out]; exact hfull)] at hgl
            injection hgl with a b
            have HD0 := Lib.hid a
            have HGLL := Lib.hid b
            clear a b
            have hd : decide (most ≤ n) = true := decide_eq_true (by omega)
            rw [hd]
            clear hd
            have hn0 : 0 < n := by omega
            have HLL := Lib.hid (show 0 < L.length by rw [HN.out]; exact hn0)
            clear c0 c1 f0 hTl
            go_wp2_with fail
            go_loopg [7, 8] (n) (fun m s7 s8 wr => ∃ k : Nat, k + m = n ∧ s8 = .int .i64 (k : Int) ∧ s7 = .int .i64 ((qk L (k - 1) : Nat) : Int) ∧ Hid (Below w.heap.size w wr))
            case atStart => exact ⟨0, by omega, rfl, rfl, Lib.hid (Below.refl _ _).drew⟩
            case round =>
              obtain ⟨k, hkm, rfl, rfl, HW⟩ := hrel
              have HKM := Lib.hid hkm
              have HR := Lib.hid (H.out.later HW.out)
              obtain ⟨hTl, c0, -, -⟩ := HR.out.cells
              rw [HV.out, HN.out] at c0
              by_cases hk : k < n
              · have hkz : (k : Int) < (n : Int) := by omega
                have hkl : k < L.length := by rw [HN.out]; exact hk
                have hql : qk L (k - 1) < L.length := qk_lt (by omega)
                obtain ⟨g, cp, hA⟩ := HR.out.at hkl
                obtain ⟨hv, -, hlt, -, x1, -, -, -, -, -, -, -⟩ := hA
                rw [HV.out, HN.out] at hv
                injection hv with hA _ hc
                subst hA hc
                obtain ⟨g', cp', hA⟩ := HR.out.at hql
                obtain ⟨hv, -, -, -, y1, -, -, -, -, -, -, -⟩ := hA
                rw [HV.out, HN.out] at hv
                injection hv with hA _ hc
                injection hA with hA
                injection hA with hA
                subst hA hc
                have hYES := Lib.hid (fun hu => qk_yes hkl hql hu)
                have hNOT := Lib.hid (fun hu => qk_no hkl hql hu)
                obtain ⟨ua, hua⟩ : ∃ u, L[k].used = u := ⟨_, rfl⟩
                obtain ⟨ub, hub⟩ : ∃ u, L[qk L (k - 1)].used = u := ⟨_, rfl⟩
                rw [hua, hub] at hYES hNOT
                rw [hua] at x1
                rw [hub] at y1
                have hqn : qk L (k - 1) < n := by rw [← HN.out]; exact hql
                obtain ⟨kq, hkq⟩ : ∃ kq, qk L (k - 1) = kq := ⟨_, rfl⟩
                rw [hkq] at y1 hqn hNOT ⊢
                have hqz : (kq : Int) < (n : Int) := by omega
                clear hua hub hkq hql hkm
                have HWd := Lib.hid (HW.out.trans ((Below.refl wr.heap.size wr).drew.mono HW.out.size))
                by_cases hu : ua < ub
                · have HQ := Lib.hid (hYES.out hu)
                  clear hYES hNOT
                  go_wp2_with fail
                  go_region
                  go_wp2_with fail
                  go_roundg (n - (k + 1))
                  case measure => have := HKM.out; omega
                  case rel => exact ⟨k + 1, by have := HKM.out; omega, by go_num, by rw [Nat.add_sub_cancel, HQ.out], HWd⟩
                · have HQ := Lib.hid (hNOT.out hu)
                  clear hYES hNOT
                  go_wp2_with fail
                  go_region
                  go_wp2_with fail
                  go_roundg (n - (k + 1))
                  case measure => have := HKM.out; omega
                  case rel => exact ⟨k + 1, by have := HKM.out; omega, by go_num, by rw [Nat.add_sub_cancel, HQ.out], HWd⟩
              · have hkz : ¬ (k : Int) < (n : Int) := by omega
                obtain ⟨kq, hkq, e1, e2⟩ := gone_at HLL.out
                have e3 : qk L (k - 1) = kq := by rw [e1]; congr 1; have := HN.out; omega
                rw [e3]
                have HREM : Hid (remS (goneS L) L = L.take kq ++ L.drop (kq + 1)) := Lib.hid (by rw [e2]; exact remS_at HU.out.up hkq)
                obtain ⟨g, cp, hA⟩ := HR.out.at hkq
                obtain ⟨hv, hgT, hlt, x0, -, -, -, -, -, -, -, -⟩ := hA
                rw [HV.out, HN.out] at hv
                injection hv with hA _ hc
                subst hA hc
                rw [← e2] at x0
                rw [HD0.out] at x0
                have HD := HD0
                have hqn : kq < n := by rw [← HN.out]; exact hkq
                have hqz : (kq : Int) < (n : Int) := by omega
                have hn64 : n ≤ 64 := by omega
                have HQ := Lib.hid (And.intro hkq (And.intro hqn hn64))
                have hwr : IntKind.i64.wrap ((kq : Int) + 1) = (kq : Int) + 1 := by rw [IntKind.wrap_i64]; omega
                clear e1 e2 e3 hkm hk
                go_wp2_with fail
                clear x0
                have bd : Below w.heap.size w wr.drew := HW.out.drew
                have HRd := Lib.hid (H.out.later bd)
                have HBd := Lib.hid bd
                have HOd := Lib.hid (HOM.out.later bd)
                have hlk : (L.take kq).length = kq := by rw [List.length_take]; have := HQ.out; omega
                have hld : (L.drop (kq + 1)).length = n - (kq + 1) := by rw [List.length_drop, HN.out]
                have hgw : g < wr.drew.heap.size := hlt
                obtain ⟨-, c0d, -, -⟩ := HRd.out.cells
                rw [HV.out, HN.out] at c0d
                have hBd : B ≤ wr.drew.heap.size := by have h1 := HRd.out.ge; have h2 := HRd.out.blk.lt; omega
                -- the first append
                obtain ⟨v1, wA, hr7, hA7⟩ := run_app_t wr.drew 27 B hBd (.slice none 0 0) [] (L.take kq) (World.ownsRow_nil _ _ _ _) (by rw [hlk]; show 0 + kq ≤ _; omega) (some ⟨g, 0, none⟩) cap (HOd.out.take kq (by have := HQ.out; omega))
                rw [hlk] at hr7
                rw [List.nil_append] at hA7
                have bA : Below wr.drew.heap.size wr.drew wA := grown_below hA7.grown (fun k h => by cases h) (Nat.le_refl _)
                have HRA := Lib.hid (HRd.out.later bA)
                obtain ⟨hTlA, c0A, -, -⟩ := HRA.out.cells
                rw [HV.out, HN.out] at c0A
                have hTld : Tw < wr.drew.heap.size := HRd.out.blk.lt
                have HA7 := Lib.hid hA7
                have HBA := Lib.hid bA
                clear bd bA hA7
                have hkc : kq ≤ cap := by omega
                have hk1 : (0 : Int) ≤ (kq : Int) + 1 := by omega
                have hk2 : (kq : Int) + 1 ≤ (n : Int) := by omega
                have hO2 : OM wA (if cap = kq + 1 then some ⟨g, 0, none⟩ else some ⟨g, (kq + 1) * 8, none⟩) (L.drop (kq + 1)) := by
                  by_cases hc : cap = kq + 1
                  · rw [if_pos hc]
                    intro h0
                    rw [hld] at h0; omega
                  · rw [if_neg hc]
                    have := (HOd.out.later HBA.out).drop (kq + 1) (by have := HQ.out; omega)
                    rwa [Nat.zero_add] at this
                obtain ⟨v2, wB, hr15, hA15⟩ := run_app_t wA 27 B (by have := HBA.out.size; omega) v1 (L.take kq) (L.drop (kq + 1)) HA7.out.row (by rw [hlk, hld]; omega) _ (cap - (kq + 1)) hO2
                rw [hld] at hr15
                have bB : Below wr.drew.heap.size wA wB := grown_below hA15.grown (fun k hk => by
                  rcases HA7.out.blk with h | h
                  · rw [h] at hk; cases hk
                  · rw [h] at hk; injection hk with hk; omega) HBA.out.size
                have HB := Lib.hid (HBA.out.trans bB)
                have HRB := Lib.hid (HRd.out.later HB.out)
                obtain ⟨hTlB, c0B, -, f0B⟩ := HRB.out.cells
                rw [HV.out, HN.out] at c0B
                have HL2 : Hid (L.take kq ++ L.drop (kq + 1) = L1) := Lib.hid (by rw [← HREM.out]; exact HGLL.out)
                have hrow := hA15.row
                have hform : ∃ A3 n3 c3, v2 = .slice A3 n3 c3 := by
                  rcases hrow.2 with ⟨h, _⟩ | ⟨_, _, _, h, _⟩ <;> exact ⟨_, _, _, h⟩
                have hnew : ∀ k, v2.ownBlock = some k → w.heap.size ≤ k := fun k hk => by
                  rcases hA15.blk with h | h
                  · rcases HA7.out.blk with h2 | h2
                    · rw [h, h2] at hk; cases hk
                    · rw [h, h2] at hk; injection hk with hk; have := HBd.out.size; omega
                  · rw [h] at hk; injection hk with hk; have := HBd.out.size; have := HBA.out.size; omega
                obtain ⟨A3, n3, c3, rfl⟩ := hform
                rw [HL2.out] at hrow
                have HEND := Lib.hid (RtTo.new (HBd.out.trans (HB.out.mono HBd.out.size)) HRB.out hrow hnew)
                clear bB hA15 hrow hnew hO2 hld hlk
                refine wp_region_held_drew (S := fun _ => True) (by kernel_rfl) (trivial) (fun hHeld => ?_)
                refine held_take (i := 0) (v := ?_) rfl (by kernel_rfl) (by kernel_rfl) (by kernel_rfl) (fun _ _ _ h => h) (by rfl) hHeld ?_ ?_
                rotate_left
                · intro wz hSz; go_simp; try with_reducible rfl
                simp only [Act.put, List.setIfInBounds_toArray, List.set_cons_zero, List.set_cons_succ]
                refine held_take (i := 1) (v := ?_) rfl (by kernel_rfl) (by kernel_rfl) (by kernel_rfl) (fun _ _ _ h => h) (by rfl) hHeld ?_ ?_
                rotate_left
                · intro wz hSz; go_simp; try with_reducible rfl
                simp only [Act.put, List.setIfInBounds_toArray, List.set_cons_zero, List.set_cons_succ]
                refine held_take (i := 2) (v := ?_) rfl (by kernel_rfl) (by kernel_rfl) (by kernel_rfl) (fun _ _ _ h => h) (by rfl) hHeld ?_ ?_
                rotate_left
                · intro wz hSz; go_simp; try with_reducible rfl
                simp only [Act.put, List.setIfInBounds_toArray, List.set_cons_zero, List.set_cons_succ]
                refine held_take (i := 3) (v := ?_) rfl (by kernel_rfl) (by kernel_rfl) (by kernel_rfl) (fun _ _ _ h => h) (by rfl) hHeld ?_ ?_
                rotate_left
                · intro wz hSz; go_simp; try with_reducible rfl
                simp only [Act.put, List.setIfInBounds_toArray, List.set_cons_zero, List.set_cons_succ]
                refine held_take (i := 5) (v := ?_) rfl (by kernel_rfl) (by kernel_rfl) (by kernel_rfl) (fun _ _ _ h => h) (by rfl) hHeld ?_ ?_
                rotate_left
                · intro wz hSz; go_simp; try with_reducible rfl
                simp only [Act.put, List.setIfInBounds_toArray, List.set_cons_zero, List.set_cons_succ]
                refine held_take (i := 8) (v := ?_) rfl (by kernel_rfl) (by kernel_rfl) (by kernel_rfl) (fun _ _ _ h => h) (by rfl) hHeld ?_ ?_
                rotate_left
                · intro wz hSz; go_simp; try with_reducible rfl
                simp only [Act.put, List.setIfInBounds_toArray, List.set_cons_zero, List.set_cons_succ]
                refine held_take (i := 9) (v := ?_) rfl (by kernel_rfl) (by kernel_rfl) (by kernel_rfl) (fun _ _ _ h => h) (by rfl) hHeld ?_ ?_
                rotate_left
                · intro wz hSz; go_simp; try with_reducible rfl
                simp only [Act.put, List.setIfInBounds_toArray, List.set_cons_zero, List.set_cons_succ]
                refine held_take (i := 10) (v := ?_) rfl (by kernel_rfl) (by kernel_rfl) (by kernel_rfl) (fun _ _ _ h => h) (by rfl) hHeld ?_ ?_
                rotate_left
                · intro wz hSz; go_simp; try with_reducible rfl
                simp only [Act.put, List.setIfInBounds_toArray, List.set_cons_zero, List.set_cons_succ]
                refine held_take (i := 12) (v := ?_) rfl (by kernel_rfl) (by kernel_rfl) (by kernel_rfl) (fun _ _ _ h => h) (by rfl) hHeld ?_ ?_
                rotate_left
                · intro wz hSz; go_simp; try with_reducible rfl
                simp only [Act.put, List.setIfInBounds_toArray, List.set_cons_zero, List.set_cons_succ]
                refine held_take (i := 13) (v := ?_) rfl (by kernel_rfl) (by kernel_rfl) (by kernel_rfl) (fun _ _ _ h => h) (by rfl) hHeld ?_ ?_
                rotate_left
                · intro wz hSz; go_simp; try with_reducible rfl
                simp only [Act.put, List.setIfInBounds_toArray, List.set_cons_zero, List.set_cons_succ]
                refine held_read_read2 (i := 4) (j := 11) (v := .slice (some ⟨g, 0, none⟩) n cap) (v2 := .slice (some ⟨g, 0, none⟩) n cap) (by kernel_rfl) rfl rfl (by rfl) (by rfl) trivial (by go_simp; try with_reducible rfl) (by go_simp; try with_reducible rfl) ?_ ?_
                · simp only [Act.put, List.setIfInBounds_toArray, List.set_cons_zero, List.set_cons_succ]
                  refine held_take (i := 6) (v := ?_) rfl (by kernel_rfl) (by kernel_rfl) (by kernel_rfl) (fun _ _ _ h => h) (by rfl) hHeld ?_ ?_
                  rotate_left
                  · intro wz hSz; go_simp; try with_reducible rfl
                  simp only [Act.put, List.setIfInBounds_toArray, List.set_cons_zero, List.set_cons_succ]
                  refine held_make_read (i := 7) (j := 11) (v := v1) (v2 := .slice (some ⟨g, 0, none⟩) n cap) (w1 := wA) (by kernel_rfl) rfl rfl (by rfl) (by rfl) trivial trivial (run_op_app_t (.const (.slice none 0 0)) (.tmp 74) rfl hr7) (by go_simp; try with_reducible rfl) ?_ ?_
                  · simp only [Act.put, List.setIfInBounds_toArray, List.set_cons_zero, List.set_cons_succ]
                    refine held_read (i := 11) (v := ?_) (by kernel_rfl) rfl (by rfl) hHeld ?_ ?_
                    rotate_left
                    · go_simp; try with_reducible rfl
                    simp only [Act.put, List.setIfInBounds_toArray, List.set_cons_zero, List.set_cons_succ]
                    refine held_take (i := 14) (v := ?_) rfl (by kernel_rfl) (by kernel_rfl) (by kernel_rfl) (fun _ _ _ h => h) (by rfl) hHeld ?_ ?_
                    rotate_left
                    · intro wz hSz; go_simp; try with_reducible rfl
                    simp only [Act.put, List.setIfInBounds_toArray, List.set_cons_zero, List.set_cons_succ]
                    refine held_make (i := 15) (v := .slice A3 n3 c3) (w' := wB) (by kernel_rfl) rfl (by rfl) (run_op_app_t (.tmp 75) (.tmp 82) rfl hr15) trivial ?_
                    simp only [Act.put, List.setIfInBounds_toArray, List.set_cons_zero, List.set_cons_succ]
                    refine held_take (i := 16) (v := ?_) rfl (by kernel_rfl) (by kernel_rfl) (by kernel_rfl) (fun _ _ _ h => h) (by rfl) hHeld ?_ ?_
                    rotate_left
                    · intro wz hSz; go_simp; try with_reducible rfl
                    simp only [Act.put, List.setIfInBounds_toArray, List.set_cons_zero, List.set_cons_succ]
                    refine held_take (i := 17) (v := ?_) rfl (by kernel_rfl) (by kernel_rfl) (by kernel_rfl) (fun _ _ _ h => h) (by rfl) hHeld ?_ ?_
                    rotate_left
                    · intro wz hSz; go_simp; try with_reducible rfl
                    simp only [Act.put, List.setIfInBounds_toArray, List.set_cons_zero, List.set_cons_succ]
                    refine held_one (i := 18) (by kernel_rfl) rfl (by rfl) (fun K hK => ?_)
                    go_simp
                    refine hK _ _ trivial ?_
                    clear hK
                    refine wpAnyH_done (by kernel_rfl) ?_ _
                    go_wp2_with fail
                    all_goals
                      go_meet
                      exact ⟨rfl, HEND⟩
                  · simp only [Act.put, List.setIfInBounds_toArray, List.set_cons_zero, List.set_cons_succ]
                    refine held_take (i := 14) (v := ?_) rfl (by kernel_rfl) (by kernel_rfl) (by kernel_rfl) (fun _ _ _ h => h) (by rfl) hHeld ?_ ?_
                    rotate_left
                    · intro wz hSz; go_simp; try with_reducible rfl
                    simp only [Act.put, List.setIfInBounds_toArray, List.set_cons_zero, List.set_cons_succ]
                    refine held_make (i := 7) (v := v1) (w' := wA) (by kernel_rfl) rfl (by rfl) (run_op_app_t (.const (.slice none 0 0)) (.tmp 74) rfl hr7) trivial ?_
                    simp only [Act.put, List.setIfInBounds_toArray, List.set_cons_zero, List.set_cons_succ]
                    refine held_make (i := 15) (v := .slice A3 n3 c3) (w' := wB) (by kernel_rfl) rfl (by rfl) (run_op_app_t (.tmp 75) (.tmp 82) rfl hr15) trivial ?_
                    simp only [Act.put, List.setIfInBounds_toArray, List.set_cons_zero, List.set_cons_succ]
                    refine held_take (i := 16) (v := ?_) rfl (by kernel_rfl) (by kernel_rfl) (by kernel_rfl) (fun _ _ _ h => h) (by rfl) hHeld ?_ ?_
                    rotate_left
                    · intro wz hSz; go_simp; try with_reducible rfl
                    simp only [Act.put, List.setIfInBounds_toArray, List.set_cons_zero, List.set_cons_succ]
                    refine held_take (i := 17) (v := ?_) rfl (by kernel_rfl) (by kernel_rfl) (by kernel_rfl) (fun _ _ _ h => h) (by rfl) hHeld ?_ ?_
                    rotate_left
                    · intro wz hSz; go_simp; try with_reducible rfl
                    simp only [Act.put, List.setIfInBounds_toArray, List.set_cons_zero, List.set_cons_succ]
                    refine held_one (i := 18) (by kernel_rfl) rfl (by rfl) (fun K hK => ?_)
                    go_simp
                    refine hK _ _ trivial ?_
                    clear hK
                    refine wpAnyH_done (by kernel_rfl) ?_ _
                    go_wp2_with fail
                    all_goals
                      go_meet
                      exact ⟨rfl, HEND⟩
                · simp only [Act.put, List.setIfInBounds_toArray, List.set_cons_zero, List.set_cons_succ]
                  refine held_take (i := 14) (v := ?_) rfl (by kernel_rfl) (by kernel_rfl) (by kernel_rfl) (fun _ _ _ h => h) (by rfl) hHeld ?_ ?_
                  rotate_left
                  · intro wz hSz; go_simp; try with_reducible rfl
                  simp only [Act.put, List.setIfInBounds_toArray, List.set_cons_zero, List.set_cons_succ]
                  refine held_read (i := 4) (v := ?_) (by kernel_rfl) rfl (by rfl) hHeld ?_ ?_
                  rotate_left
                  · go_simp; try with_reducible rfl
                  simp only [Act.put, List.setIfInBounds_toArray, List.set_cons_zero, List.set_cons_succ]
                  refine held_take (i := 6) (v := ?_) rfl (by kernel_rfl) (by kernel_rfl) (by kernel_rfl) (fun _ _ _ h => h) (by rfl) hHeld ?_ ?_
                  rotate_left
                  · intro wz hSz; go_simp; try with_reducible rfl
                  simp only [Act.put, List.setIfInBounds_toArray, List.set_cons_zero, List.set_cons_succ]
                  refine held_make (i := 7) (v := v1) (w' := wA) (by kernel_rfl) rfl (by rfl) (run_op_app_t (.const (.slice none 0 0)) (.tmp 74) rfl hr7) trivial ?_
                  simp only [Act.put, List.setIfInBounds_toArray, List.set_cons_zero, List.set_cons_succ]
                  refine held_make (i := 15) (v := .slice A3 n3 c3) (w' := wB) (by kernel_rfl) rfl (by rfl) (run_op_app_t (.tmp 75) (.tmp 82) rfl hr15) trivial ?_
                  simp only [Act.put, List.setIfInBounds_toArray, List.set_cons_zero, List.set_cons_succ]
                  refine held_take (i := 16) (v := ?_) rfl (by kernel_rfl) (by kernel_rfl) (by kernel_rfl) (fun _ _ _ h => h) (by rfl) hHeld ?_ ?_
                  rotate_left
                  · intro wz hSz; go_simp; try with_reducible rfl
                  simp only [Act.put, List.setIfInBounds_toArray, List.set_cons_zero, List.set_cons_succ]
                  refine held_take (i := 17) (v := ?_) rfl (by kernel_rfl) (by kernel_rfl) (by kernel_rfl) (fun _ _ _ h => h) (by rfl) hHeld ?_ ?_
                  rotate_left
                  · intro wz hSz; go_simp; try with_reducible rfl
                  simp only [Act.put, List.setIfInBounds_toArray, List.set_cons_zero, List.set_cons_succ]
                  refine held_one (i := 18) (by kernel_rfl) rfl (by rfl) (fun K hK => ?_)
                  go_simp
                  refine hK _ _ trivial ?_
                  clear hK
                  refine wpAnyH_done (by kernel_rfl) ?_ _
                  go_wp2_with fail
                  all_goals
                    go_meet
                    exact ⟨rfl, HEND⟩
        case rest =>
          obtain ⟨rfl, HT⟩ := hcut
          obtain ⟨v1, hR1, hb1, hf1⟩ := HT.out
          obtain ⟨A1, cap1, hv1, hcap1, hO1, hAn1, hAb1⟩ := hR1.om
          have HAN := Lib.hid hAn1
          have HAB1 : Hid (∀ b off, A1 = some ⟨b, off, none⟩ → off = 0) := Lib.hid fun b off h => (hAb1 b off h).1
          have H1 := Lib.hid hR1
          have HO1 := Lib.hid hO1
          have HV1 := Lib.hid hv1
          have hlt1 := HL1.out.2.1
          have hTc : Tw < wc.heap.size := hR1.blk.lt
          obtain ⟨-, e0, -, -⟩ := hR1.cells
          rw [hv1] at e0
          obtain ⟨n1, hn1⟩ : ∃ n1, L1.length = n1 := ⟨_, rfl⟩
          have HN1 := Lib.hid hn1
          rw [hn1] at e0 hcap1 hlt1
          have hn164 : n1 ≤ 64 := by omega
          have hBc : B ≤ wc.heap.size := by have h1 := hR1.ge; omega
          have HBK : Hid (Blk wc Tw 29 #[.slice A1 n1 cap1, .int .i64 (most : Int)]) := Lib.hid (by have := hR1.blk; rwa [hv1, hn1] at this)
          clear hn1 hv1 hR1 hO1 hb1 hf1 c0 c1 f0 hTl hAn1 hAb1
          go_wp2_with fail
          go_loopg [9] (n1) (fun m s9 wr => wr = wc ∧ m ≤ n1 ∧ s9 = .int .i64 (m : Int) ∧ Hid (∀ j (hj : j < L1.length), m ≤ j → i < L1[j].id))
          case atStart => exact ⟨rfl, Nat.le_refl _, rfl, Lib.hid fun j hj h => by have := HN1.out; omega⟩
          case round =>
            obtain ⟨rfl, hgk, rfl, HJ⟩ := hrel
            have HGK := Lib.hid hgk
            by_cases hg0 : 0 < gk
            · have hkl : gk - 1 < L1.length := by rw [HN1.out]; omega
              obtain ⟨g, cp, hA⟩ := H1.out.at hkl
              obtain ⟨hv, -, hlt, x0, -, -, -, -, -, -, -, -⟩ := hA
              rw [HV1.out, HN1.out] at hv
              injection hv with hA _ hc
              subst hA hc
              obtain ⟨d, hd⟩ : ∃ d, L1[gk - 1].id = d := ⟨_, rfl⟩
              rw [hd] at x0
              have HD := Lib.hid hd
              obtain ⟨k1, hk1⟩ : ∃ k1, gk = k1 + 1 := ⟨gk - 1, by omega⟩
              subst hk1
              rw [Nat.add_sub_cancel] at x0
              have hz0 : (0 : Int) < ((k1 + 1 : Nat) : Int) := by omega
              have hz1 : ((k1 + 1 : Nat) : Int) - 1 = (k1 : Int) := by omega
              have hkn : (k1 : Int) < (n1 : Int) := by omega
              have hkn2 : k1 < n1 := by omega
              clear hd hgk
              by_cases hid : i < d
              · go_wp2_with fail
                go_roundg (k1)
                case measure => omega
                case rel => exact ⟨rfl, by omega, by go_num, Lib.hid fun j hj h => by
                  rcases Nat.lt_or_ge k1 j with h1 | h1
                  · exact HJ.out j hj (by omega)
                  · obtain rfl : j = k1 := by omega
                    have := HD.out
                    simp only [Nat.add_sub_cancel] at this
                    rw [this]; exact hid⟩
              · have HLO : ∀ j (hj : j < L1.length), j + 1 = k1 + 1 → L1[j].id ≤ i := fun j hj h => by
                  obtain rfl : j = k1 := by omega
                  have := HD.out
                  simp only [Nat.add_sub_cancel] at this
                  rw [this]; omega
                have hins : insS (newS i) L1 = L1.take (k1 + 1) ++ [newS i] ++ L1.drop (k1 + 1) := ins_at HL1.out.1.up HL1.out.2.2 (by rw [HN1.out]; omega) HJ.out HLO
                have HINS := Lib.hid hins
                have hkn3 : k1 + 1 ≤ n1 := by omega
                have hkc3 : k1 + 1 ≤ cap1 := by omega
                have htk : (L1.take (k1 + 1)).length = k1 + 1 := by rw [List.length_take, HN1.out]; omega
                have hdk : (L1.drop (k1 + 1)).length = n1 - (k1 + 1) := by rw [List.length_drop, HN1.out]
                have HLN := Lib.hid (And.intro htk hdk)
                clear hins HJ HLO htk hdk
                go_upto_region 17 with fail
                go_upto_region 18 with (at_builtin; go_loud (refine wpList_app_tt rfl (.tmp 108) (.tmp 114) rfl B Tw most (.slice (some ⟨g, 0, none⟩) n1 cap1) HBK.out hBc (.slice none 0 0) [] (L1.take (k1 + 1)) (World.ownsRow_nil _ _ _ _) (by rw [HLN.out.1]; show 0 + _ ≤ _; omega) (some ⟨g, 0, none⟩) (k1 + 1) cap1 HLN.out.1.symm (HO1.out.take (k1 + 1) (by rw [HN1.out]; omega)) rfl rfl ?_); intro A2 n2 c2 w2 h2 b2 x2 y2 z2)
                rw [List.nil_append] at h2
                obtain ⟨e2, f2⟩ := app_below (w := wr) h2 (Below.refl _ _) (fun k h => by cases h)
                have b3 := Ss.below_alloc w2 (.cells #[.int .i64 i, .int .i64 i, .int .i64 0, .int .i64 0, .int .i64 0, .int .i64 0, .int .i64 0, .string ⟨#[]⟩] 56)
                have H2 := Lib.hid (Ss.own_later h2.row b3)
                have HB2 := Lib.hid (b2.later b3)
                have HE2 := Lib.hid (e2.trans (b3.mono e2.size))
                have HF2 := Lib.hid f2
                have HOM3 := Lib.hid (om_new w2 i)
                clear h2 e2 f2 b3 x2 y2 e0
                go_upto_region 19 with (at_builtin; refine wpList_app_tt rfl (.tmp 116) (.tmp 120) rfl B Tw most (.slice (some ⟨g, 0, none⟩) n1 cap1) HB2.out (Nat.le_trans hBc HE2.out.size) (.slice A2 n2 c2) (L1.take (k1 + 1)) [newS i] H2.out (by rw [HLN.out.1]; show _ + 1 ≤ _; omega) (some ⟨w2.heap.size, 0, none⟩) 1 1 rfl HOM3.out rfl rfl ?_; intro A3 n3 c3 w3 h3 b3 x3 y3 z3)
                obtain ⟨e3, f3⟩ := app_below (w := wr) h3 HE2.out HF2.out
                have HOM4 : Hid (OM w3 (if cap1 = k1 + 1 then some ⟨g, 0, none⟩ else some ⟨g, (k1 + 1) * 8, none⟩) (L1.drop (k1 + 1))) := Lib.hid (by
                  have := om_cut (HO1.out.later e3) HN1.out hcap1 hkn3 HAN.out HAB1.out
                  simp only [Option.map_some, Go.Lib.add_plain, Nat.zero_add] at this
                  exact this)
                have H3 := Lib.hid h3.row
                have HB3 := Lib.hid b3
                have HE3 := Lib.hid e3
                have HF3 := Lib.hid f3
                have x3' := x3
                clear h3 e3 f3 H2 HB2 HE2 HF2 HOM3
                have hI0 : (0 : Int) ≤ (k1 : Int) + 1 := by omega
                have hI1 : (k1 : Int) + 1 ≤ (n1 : Int) := by omega
                go_upto_region 20 with (at_builtin; go_loud (refine wpList_app_tt rfl (.tmp 123) (.tmp 129) rfl B Tw most _ HB3.out (Nat.le_trans hBc HE3.out.size) (.slice A3 n3 c3) (L1.take (k1 + 1) ++ [newS i]) (L1.drop (k1 + 1)) H3.out (by rw [List.length_append, HLN.out.1, HLN.out.2]; show _ + 1 + _ ≤ _; omega) (if cap1 = k1 + 1 then some ⟨g, 0, none⟩ else some ⟨g, (k1 + 1) * 8, none⟩) (n1 - (k1 + 1)) (cap1 - (k1 + 1)) HLN.out.2.symm HOM4.out rfl rfl ?_); intro A4 n4 c4 w4 h4 b4 x4 y4 z4)
                have hrow := h4.row
                rw [← HINS.out] at hrow
                obtain ⟨e4, f4⟩ := app_below (w := wr) h4 HE3.out HF3.out
                have HEND := Lib.hid (HT.out.trans fun v' hR' => RtTo.new e4 (hR'.later e4) hrow f4)
                clear hrow e4 f4 h4 b4 x4 y4 z4
                go_wp2_with fail
                all_goals
                  go_ret2
                  rw [HOP.out]
                  exact ⟨rfl, HEND.out⟩
            · have hgz : ¬ (0 : Int) < (gk : Int) := by omega
              have HLO : ∀ j (hj : j < L1.length), j + 1 = gk → L1[j].id ≤ i := fun j hj h => by omega
              have hins : insS (newS i) L1 = L1.take (gk) ++ [newS i] ++ L1.drop (gk) := ins_at HL1.out.1.up HL1.out.2.2 (by rw [HN1.out]; omega) HJ.out HLO
              have HINS := Lib.hid hins
              have hkn3 : gk ≤ n1 := by omega
              have hkc3 : gk ≤ cap1 := by omega
              have htk : (L1.take (gk)).length = gk := by rw [List.length_take, HN1.out]; omega
              have hdk : (L1.drop (gk)).length = n1 - (gk) := by rw [List.length_drop, HN1.out]
              have HLN := Lib.hid (And.intro htk hdk)
              clear hins HJ HLO htk hdk
              go_upto_region 17 with fail
              go_upto_region 18 with (at_builtin; go_loud (refine wpList_app_tt rfl (.tmp 108) (.tmp 114) rfl B Tw most (.slice A1 n1 cap1) HBK.out hBc (.slice none 0 0) [] (L1.take (gk)) (World.ownsRow_nil _ _ _ _) (by rw [HLN.out.1]; show 0 + _ ≤ _; omega) A1 (gk) cap1 HLN.out.1.symm (HO1.out.take (gk) (by rw [HN1.out]; omega)) rfl rfl ?_); intro A2 n2 c2 w2 h2 b2 x2 y2 z2)
              rw [List.nil_append] at h2
              obtain ⟨e2, f2⟩ := app_below (w := wr) h2 (Below.refl _ _) (fun k h => by cases h)
              have b3 := Ss.below_alloc w2 (.cells #[.int .i64 i, .int .i64 i, .int .i64 0, .int .i64 0, .int .i64 0, .int .i64 0, .int .i64 0, .string ⟨#[]⟩] 56)
              have H2 := Lib.hid (Ss.own_later h2.row b3)
              have HB2 := Lib.hid (b2.later b3)
              have HE2 := Lib.hid (e2.trans (b3.mono e2.size))
              have HF2 := Lib.hid f2
              have HOM3 := Lib.hid (om_new w2 i)
              clear h2 e2 f2 b3 x2 y2 e0
              go_upto_region 19 with (at_builtin; refine wpList_app_tt rfl (.tmp 116) (.tmp 120) rfl B Tw most (.slice A1 n1 cap1) HB2.out (Nat.le_trans hBc HE2.out.size) (.slice A2 n2 c2) (L1.take (gk)) [newS i] H2.out (by rw [HLN.out.1]; show _ + 1 ≤ _; omega) (some ⟨w2.heap.size, 0, none⟩) 1 1 rfl HOM3.out rfl rfl ?_; intro A3 n3 c3 w3 h3 b3 x3 y3 z3)
              obtain ⟨e3, f3⟩ := app_below (w := wr) h3 HE2.out HF2.out
              have HOM4 : Hid (OM w3 (if cap1 = gk then A1 else A1.map (·.add ((gk) * 8))) (L1.drop (gk))) := Lib.hid (om_cut (HO1.out.later e3) HN1.out hcap1 hkn3 HAN.out HAB1.out)
              have H3 := Lib.hid h3.row
              have HB3 := Lib.hid b3
              have HE3 := Lib.hid e3
              have HF3 := Lib.hid f3
              have x3' := x3
              clear h3 e3 f3 H2 HB2 HE2 HF2 HOM3
              have hI0 : (0 : Int) ≤ (gk : Int) := by omega
              have hI1 : (gk : Int) ≤ (n1 : Int) := by omega
              go_upto_region 20 with (at_builtin; go_loud (refine wpList_app_tt rfl (.tmp 123) (.tmp 129) rfl B Tw most _ HB3.out (Nat.le_trans hBc HE3.out.size) (.slice A3 n3 c3) (L1.take (gk) ++ [newS i]) (L1.drop (gk)) H3.out (by rw [List.length_append, HLN.out.1, HLN.out.2]; show _ + 1 + _ ≤ _; omega) (if cap1 = gk then A1 else A1.map (·.add (gk * 8))) (n1 - (gk)) (cap1 - (gk)) HLN.out.2.symm HOM4.out rfl rfl ?_); intro A4 n4 c4 w4 h4 b4 x4 y4 z4)
              have hrow := h4.row
              rw [← HINS.out] at hrow
              obtain ⟨e4, f4⟩ := app_below (w := wr) h4 HE3.out HF3.out
              have HEND := Lib.hid (HT.out.trans fun v' hR' => RtTo.new e4 (hR'.later e4) hrow f4)
              clear hrow e4 f4 h4 b4 x4 y4 z4
              go_wp2_with fail
              all_goals
                go_ret2
                rw [HOP.out]
                exact ⟨rfl, HEND.out⟩
end
end Go.Proofs.YtindkpfmflcibaaGreatDoor
