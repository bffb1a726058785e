/- Several texts in one: RegUse, SsV. -/
import Derived.Test.YtindkpfmflcibaaGreatDoorMRegInv
import Derived.Test.YtindkpfmflcibaaGreatDoorMSsB
import Derived.Deep.AppendLies
import Derived.Deep.Upon
import Derived.Deep.AppendSrc
import Derived.Laws.AppendOwn
import Derived.Laws.AppendOwnNone
namespace Go.Proofs.YtindkpfmflcibaaGreatDoor
/- A drawn region, by what each operation leaves; an operation may use up what another one left (an append within the room of its row). Nothing of the program. -/
section
open Go.RowKit
section
variable {P : Program} {ops : Array Oper} {Q : Exit → Act → World → Prop}
/-- What is asked of an operation; 'use i j': it uses up what j left. -/
def LeavesU (P : Program) (Q : Exit → Act → World → Prop) (a0 : Act) (w0 : World) (D : List Nat) (d : Nat → Nat) (use : Nat → Nat → Bool) (N : Nat) (Φ : Nat → Value → World → Prop) (i : Nat) (o : Oper) : Prop :=
  ∀ a w, Frm a0 D a → Below w0.heap.size w0 w → (∀ j, ((o.after.any fun e => e.on == j && Region.binds .any e) && (List.range N).all fun k => !use k j || decide (k = i)) = true → Φ j (slot a (d j)) w) →
    ∀ K : Act → World → Prop, Hid (∀ v w', Below w0.heap.size w0 w' → (∀ j u, j ≠ i → use i j = false → Φ j u w → Φ j u w') → Φ i v w' → K (a.put o.dst v) w') → o.wp P a w K Q
theorem wpAny_use (a0 : Act) (w0 : World) (D : List Nat) (d : Nat → Nat) (use : Nat → Nat → Bool) (Φ : Nat → Value → World → Prop) (hord : ∀ (i : Nat) o, ops[i]? = some o → ∀ e ∈ o.after, Region.binds .any e = true → e.on < i) (hgd : ∀ (i : Nat) o, ops[i]? = some o → o.guard = none) (hdst : ∀ (i : Nat) o, ops[i]? = some o → o.dst = some (d i) ∧ d i ∈ D) (hne : ∀ i j, i < ops.size → j < ops.size → i ≠ j → d i ≠ d j) (hD : ∀ t ∈ D, t < a0.tmps.size)
    (hul : ∀ k j, use k j = true → k < ops.size)
    (step : ∀ (i : Nat) o, ops[i]? = some o → LeavesU P Q a0 w0 D d use ops.size Φ i o)
    (done : ∀ a w, Frm a0 D a → Below w0.heap.size w0 w → (∀ j, j < ops.size → (∀ k, use k j = false) → Φ j (slot a (d j)) w) → Q .normal a w) :
    ∀ (fuel : Nat) (listed : Array Bool) (a : Act) (w : World), listed.size = ops.size → left listed ≤ fuel → Frm a0 D a → Below w0.heap.size w0 w → (∀ j, j < ops.size → listed.getD j false = true → (∀ k, listed.getD k false = true → use k j = false) → Φ j (slot a (d j)) w) → wpAny P .any ops Q fuel listed a w := by
  have hfin : ∀ (listed : Array Bool) (a : Act) (w : World), listed.size = ops.size → Frm a0 D a → Below w0.heap.size w0 w → (∀ j, j < ops.size → listed.getD j false = true → (∀ k, listed.getD k false = true → use k j = false) → Φ j (slot a (d j)) w) → Region.ready .any ops listed = [] → Q .normal a w := by
    intro listed a w hs hF hB hI hr
    have hall := ready_all hs hord hr
    exact done a w hF hB (fun j hj hk => hI j hj (hall j hj) (fun k _ => hk k))
  intro fuel
  induction fuel with
  | zero =>
    intro listed a w hs hl hF hB hI
    have hr : Region.ready .any ops listed = [] := by
      refine List.eq_nil_iff_forall_not_mem.2 fun i hi => ?_
      have := left_set (mem_ready.1 hi).1
      omega
    exact ⟨hr, hfin listed a w hs hF hB hI hr⟩
  | succ fuel ih =>
    intro listed a w hs hl hF hB hI
    refine ⟨hfin listed a w hs hF hB hI, fun i hi => ?_⟩
    obtain ⟨hun, o, ho, hdep⟩ := mem_ready.1 hi
    have hio : i < ops.size := (Array.getElem?_eq_some_iff.1 ho).1
    have hls := left_set hun
    have hunf : listed.getD i false = false := by
      rw [Array.getD_eq_getD_getElem?] at hun ⊢
      rw [Array.getElem?_eq_getElem (by omega)] at hun ⊢
      exact hun
    have hgs : ∀ j, (listed.setIfInBounds i true).getD j false = if j = i then true else listed.getD j false := fun j => by
      rw [Array.getD_eq_getD_getElem?, Array.getD_eq_getD_getElem?, Array.getElem?_setIfInBounds]
      by_cases hj : i = j
      · subst hj; simp [show i < listed.size by omega]
      · rw [if_neg hj, if_neg (Ne.symm hj)]
    obtain ⟨hd1, hd2⟩ := hdst i o ho
    refine wpOp_of ho (hgd i o ho) (step i o ho a w hF hB (fun j hj => ?_) _ (fun v w' hb hst hv => ?_))
    · rw [Bool.and_eq_true] at hj
      obtain ⟨hj, hfree⟩ := hj
      obtain ⟨k, hk, hj⟩ := Array.any_eq_true.1 hj
      simp only [Bool.and_eq_true, beq_iff_eq] at hj
      obtain ⟨rfl, hb⟩ := hj
      simp only [List.all_eq_true, List.mem_range, Bool.or_eq_true, Bool.not_eq_true', decide_eq_true_eq] at hfree
      have he := Array.getElem_mem hk
      refine hI _ (by have := hord i o ho _ he hb; omega) (hdep _ he hb) (fun q hq => ?_)
      cases hu : use q (o.after[k]).on with
      | false => rfl
      | true =>
        rcases hfree q (hul q _ hu) with h | h
        · rw [hu] at h; cases h
        · subst h
          rw [hunf] at hq
          cases hq
    rw [hd1]
    have hFa := hF.put (some (d i)) v (fun t ht => by injection ht with ht; exact ht ▸ hd2)
    refine ih _ _ _ (by simpa using hs) (by omega) hFa hb (fun j hj hlj hjk => ?_)
    rw [hgs] at hlj
    by_cases hji : j = i
    · subst hji
      rw [slot_same a v (by rw [hF.size]; exact hD _ hd2)]
      exact hv
    · rw [if_neg hji] at hlj
      rw [slot_ne a v (hne j i hj hio hji)]
      refine hst j _ hji (hjk i (by rw [hgs, if_pos rfl])) (hI j hj hlj (fun k hk => hjk k ?_))
      rw [hgs]
      split
      · rfl
      · exact hk
/-- What must be seen of the region's text. -/
def regOkU (l : List Oper) (n : Nat) (D : List Nat) : Bool :=
  (List.range l.length).all (fun i => match l[i]? with
    | none => true
    | some o => (o.after.all fun e => decide (e.on < i) || !Region.binds .any e) && o.guard.isNone && o.dst.isSome) &&
  (D.all fun t => decide (t < n)) &&
  ((List.range l.length).all fun i => D.contains (dOf l i) && (List.range l.length).all fun j => decide (i = j) || decide (dOf l i ≠ dOf l j))
theorem wp_region_use {l : List Oper} {id : Nat} {a0 : Act} {w0 : World} (n : Nat) (D : List Nat) (use : Nat → Nat → Bool) (Φ : Nat → Value → World → Prop) (hm : P.follows .mixedOrders = true) (hn : a0.tmps.size = n) (hck : regOkU l n D = true)
    (hul : ∀ k j, use k j = true → k < l.length)
    (step : AllL (LeavesU P Q a0 w0 D (dOf l) use l.length Φ) 0 l)
    (done : ∀ a w, Frm a0 D a → Below w0.heap.size w0 w → (∀ j, j < l.length → (∀ k, use k j = false) → Φ j (slot a (dOf l j)) w) → Q .normal a w) :
    (Code.region id l.toArray true).wp P Q a0 w0 := by
  unfold regOkU at hck
  simp only [Bool.and_eq_true, List.all_eq_true, List.mem_range, decide_eq_true_eq, Bool.or_eq_true] at hck
  obtain ⟨⟨h1, h4⟩, h5⟩ := hck
  have h1' : ∀ (i : Nat) o, l[i]? = some o → (∀ e ∈ o.after, Region.binds .any e = true → e.on < i) ∧ o.guard = none ∧ o.dst.isSome = true := fun i o ho => by
    have := h1 i (List.getElem?_eq_some_iff.1 ho).1
    rw [ho] at this
    simp only [Bool.and_eq_true, Bool.or_eq_true, decide_eq_true_eq, Array.all_eq_true, Option.isNone_iff_eq_none, Bool.not_eq_true'] at this
    refine ⟨fun e he hb => ?_, this.1.2, this.2⟩
    obtain ⟨k, hk, rfl⟩ := Array.mem_iff_getElem.1 he
    exact (this.1.1 k hk).resolve_right (by rw [hb]; decide)
  refine wp_region_any hm (wpAny_use a0 w0 D (dOf l) use Φ (fun i o ho e he hb => (h1' i o (by simpa using ho)).1 e he hb) (fun i o ho => (h1' i o (by simpa using ho)).2.1) (fun i o ho => ?_) (fun i j hi hj hij => ?_) (fun t ht => by rw [hn]; exact h4 t ht) (fun k j h => by simpa using hul k j h) (fun i o ho => ?_) (fun a w hF hB hI => done a w hF hB (fun j hj => hI j (by simpa using hj))) _ _ a0 _ (by simp) ?_ (Frm.refl _ _) (Below.refl _ _).drew (fun j _ hj => ?_))
  · have ho' : l[i]? = some o := by simpa using ho
    obtain ⟨t, ht⟩ := Option.isSome_iff_exists.1 (h1' i o ho').2.2
    have hd : dOf l i = t := by unfold dOf; rw [ho']; simp [ht]
    have hc := (h5 i (List.getElem?_eq_some_iff.1 ho').1).1
    rw [hd] at hc ⊢
    exact ⟨ht, by simpa using hc⟩
  · rcases (h5 i (by simpa using hi)).2 j (by simpa using hj) with h | h
    · exact absurd h hij
    · exact h
  · have ho' : l[i]? = some o := by simpa using ho
    have := AllL.at (i := i) step ho'
    rw [Nat.zero_add] at this
    simpa using this
  · unfold left
    refine Nat.le_trans (List.countP_le_length) ?_
    simp
  · simp [Array.getD_eq_getD_getElem?, Array.getElem?_replicate] at hj
    split at hj <;> simp at hj
end
end
/- append of a list onto a row of numbers of the call's own: of what there was at most that row has turned, and that only if it has two cells or more. -/
section
namespace Ss
open Go.RowKit

structure Upd (w w' : World) (B : Nat) (e : TypeId) : Prop where
  os : w'.os = w.os
  tape : w'.tape = w.tape
  output : w'.output = w.output
  size : w.heap.size ≤ w'.heap.size
  block : ∀ k, k < w.heap.size → w'.heap[k]? = w.heap[k]? ∨ (B ≤ k ∧ ∃ cur, w.heap[k]? = some (.cells cur e (0, 0)) ∧ 2 ≤ cur.size)
theorem Upd.of {w w' : World} (B : Nat) (e : TypeId) (h : Below w.heap.size w w') : Upd w w' B e := ⟨h.os, h.tape, h.output, h.size, fun k hk => .inl (h.block k hk)⟩
theorem Upd.below {w0 w w' : World} {e : TypeId} (h : Upd w w' w0.heap.size e) (hb : Below w0.heap.size w0 w) : Below w0.heap.size w0 w' :=
  ⟨h.os.trans hb.os, h.tape.trans hb.tape, h.output.trans hb.output, Nat.le_trans hb.size h.size, fun k hk => by
    rcases h.block k (Nat.lt_of_lt_of_le hk hb.size) with h' | ⟨h', -⟩
    · exact h'.trans (hb.block k hk)
    · omega⟩
theorem Upd.one {w w' : World} {B g : Nat} {e e' : TypeId} {x : Value} (h : Upd w w' B e) (hg : w.heap[g]? = some (.cells #[x] e' (0, 0))) : w'.heap[g]? = some (.cells #[x] e' (0, 0)) := by
  rcases h.block g (Array.getElem?_eq_some_iff.1 hg).1 with h' | ⟨-, cur, hc, h2⟩
  · rw [h', hg]
  · rw [hg] at hc
    injection hc with hc
    injection hc with hc
    rw [← hc] at h2
    simp at h2
theorem below_grow {w : World} (o : Obj) : Below w.heap.size w (w.drew.alloc o) := by
  have h1 := (Below.refl w.heap.size w).drew
  exact h1.alloc (Nat.le_refl _) o
section
variable {P : Program} {o : Oper} {a : Act} {K : Act → World → Prop} {Q : Exit → Act → World → Prop} {w : World}
/-- What is left of an append. -/
def AppEnd (w : World) (B : Nat) (e : TypeId) (L0 L : List Int) (v : Value) (w' : World) : Prop :=
  Upd w w' B e ∧ w'.ownsRow B e 1 v L.length (zs L) ∧ (L = [] → v = .slice none 0 0) ∧ (L0 = [] → Below w.heap.size w w')
theorem zs_append (L M : List Int) : zs (L ++ M) = zs L ++ zs M := by simp [zs]
theorem wp_app_src (s x : Operand) (t e : TypeId) (ho : o.op = .call { callee := .builtin .append, args := #[s, x], argTypes := #[t, t] }) (i : TypeInfo) (ht : P.underlying t = some (.slice e)) (hi : P.info? e = some i) (hz : i.zero = some (.int .i64 0)) (hsize : i.size = 1) (hby : i.bytes = 8)
    (L M : List Int) (hL : L.length + M.length ≤ 1000) (B : Nat) (hB : B ≤ w.heap.size) (v : Value) (hown : w.ownsRow B e 1 v L.length (zs L)) (hnil : L = [] → v = .slice none 0 0) (hs : a.eval s = v) (A : Option Addr) (c : Nat) (hE : Is w A M) (hx : a.eval x = .slice A M.length c)
    (h : ∀ v' w', AppEnd w B e L (L ++ M) v' w' → K (a.put o.dst v') w') : o.wp P a w K Q := by
  rcases Nat.eq_zero_or_pos M.length with hm | hm
  · obtain rfl := List.length_eq_zero_iff.1 hm
    have hK := h v w ⟨.of B e (Below.refl _ _), by rw [List.append_nil]; exact hown, by rw [List.append_nil]; exact hnil, fun _ => Below.refl _ _⟩
    have hsrc : Src P i.size t (.slice A 0 c) 0 [] w := by
      cases A with
      | none => exact Src.ofNil _ ht c
      | some ad => exact Src.ofSlice _ ht ad 0 c [] (by simp) (fun j u hu => by simp at hu) (fun u hu => by cases hu)
    unfold Oper.wp execOp
    rcases hown.2 with ⟨hv, hn⟩ | ⟨g2, cap, cur, hv, hb, hg2, hnc, hcm, hcs, htk⟩
    · subst hv
      have hr : (Builtin.append_ #[t, t] o.type #[.slice none 0 0, .slice A 0 c]).run P w = .ok (.slice none 0 0) w := by
        exact run_append_nothing w t t o.type e i ht hi none 0 0 (Nat.le_refl _) _ hsrc
      simp only [List.length_nil] at hx
      simp only [ho, resolve, invoke, builtin, Sem.run_bind, Sem.run_pure, Result.andThen_ok, List.map_toArray, List.map_cons, List.map_nil, hs, hx, hr]
      exact hK
    · subst hv
      have hr : (Builtin.append_ #[t, t] o.type #[.slice (some ⟨g2, 0, none⟩) L.length cap, .slice A 0 c]).run P w = .ok (.slice (some ⟨g2, 0, none⟩) L.length cap) w := by
        exact run_append_nothing w t t o.type e i ht hi (some ⟨g2, 0, none⟩) L.length cap hnc _ hsrc
      simp only [List.length_nil] at hx
      simp only [ho, resolve, invoke, builtin, Sem.run_bind, Sem.run_pure, Result.andThen_ok, List.map_toArray, List.map_cons, List.map_nil, hs, hx, hr]
      exact hK
  · obtain ⟨b, off, rfl, hc⟩ := hE hm
    have hnews : ∀ j u, (zs M)[j]? = some u → w.cell? ((⟨b, off, none⟩ : Addr).add j) = some u := els_cells (f := fun z => Value.int .i64 z) (d := (0 : Int)) hE
    have h1 : ∀ u ∈ zs M, u.oneCell' = true := fun u hu => by obtain ⟨z, _, rfl⟩ := List.mem_map.1 hu; rfl
    have hl : (zs M).length = M.length * 1 := by simp [zs]
    obtain ⟨g, cap', w', hr, ho2, hgr, hor, hlt⟩ := run_append_lies (P := P) (w := w) t o.type B e i (.int .i64 0) 1 8 ht hi hz hsize hby rfl (by decide) v L.length (zs L) hown ⟨b, off, none⟩ M.length c (zs M) hl hnews h1 hm (by unfold maxLen; omega) (by omega) hB w.heap.size rfl
    have hU : Upd w w' B e := by
      rcases hown.2 with ⟨hv, hn⟩ | ⟨g2, cap, cur, hv, hb, hg2, hnc, hcm, hcs, htk⟩
      · subst hv
        exact ⟨hgr.os, hgr.tape, hgr.output, hgr.size, fun k hk => .inl (hgr.block k hk (by simp [Value.ownBlock]))⟩
      · subst hv
        rw [Nat.mul_one] at hcs
        have hL0 : 0 < L.length := by
          rcases Nat.eq_zero_or_pos L.length with h0 | h0
          · have := hnil (List.length_eq_zero_iff.1 h0)
            cases this
          · exact h0
        by_cases hroom : L.length + M.length ≤ cap
        · refine ⟨hgr.os, hgr.tape, hgr.output, hgr.size, fun k hk => ?_⟩
          by_cases hkg : k = g2
          · subst hkg
            exact .inr ⟨hb, cur, hg2, by omega⟩
          · exact .inl (hgr.block k hk (by simp only [Value.ownBlock, ne_eq, Option.some.injEq]; omega))
        · have hfit : Builtin.nextslicecap (L.length + M.length) cap * i.bytes ≤ 281474976710656 := growslice_fits (by omega) (by
            rw [hby]; omega)
          have hr2 := run_append_grow (P := P) (w := w) t o.type e i (.int .i64 0) ht hi hz ⟨g2, 0, none⟩ L.length cap (zs L) (by rw [hsize]; simp [zs]) (hown.cells (g := g2) rfl) ⟨b, off, none⟩ M.length c (zs M) (by rw [hsize]; simp [zs]) hnews (by omega) (by omega) hfit
          rw [hr] at hr2
          injection hr2 with _ hw
          rw [hw]
          exact .of B e (below_grow _)
    unfold Oper.wp execOp
    simp only [ho, resolve, invoke, builtin, Sem.run_bind, Sem.run_pure, Result.andThen_ok, List.map_toArray, List.map_cons, List.map_nil, hs, hx, hr]
    refine h _ _ ⟨hU, by rw [zs_append, List.length_append]; exact ho2, fun e => ?_, fun e => ?_⟩
    · have := congrArg List.length e
      rw [List.length_append, List.length_nil] at this
      omega
    · have hv := hnil e
      subst hv
      exact ⟨hgr.os, hgr.tape, hgr.output, hgr.size, fun k hk => hgr.block k hk (by simp [Value.ownBlock])⟩
theorem wpList_app_src {ops : Array Oper} {rest : List Oper} (hgd : o.guard = none) (s x : Operand) (t e : TypeId) (ho : o.op = .call { callee := .builtin .append, args := #[s, x], argTypes := #[t, t] }) (i : TypeInfo) (ht : P.underlying t = some (.slice e)) (hi : P.info? e = some i) (hz : i.zero = some (.int .i64 0)) (hsize : i.size = 1) (hby : i.bytes = 8)
    (L M : List Int) (hL : L.length + M.length ≤ 1000) (B : Nat) (hB : B ≤ w.heap.size) (v : Value) (hown : w.ownsRow B e 1 v L.length (zs L)) (hnil : L = [] → v = .slice none 0 0) (hs : a.eval s = v) (A : Option Addr) (m c : Nat) (hx : a.eval x = .slice A m c) (hm : m = M.length) (hE : Is w A M)
    (h : ∀ v' w', AppEnd w B e L (L ++ M) v' w' → wpList P ops Q rest (a.put o.dst v') w') : wpList P ops Q (o :: rest) a w :=
  wpList_plain hgd fun _ hK => wp_app_src s x t e ho i ht hi hz hsize hby L M hL B hB v hown hnil hs A c hE (hm ▸ hx) fun v' w' h' => hK _ _ (h v' w' h')
theorem is_take {A : Option Addr} {L : List Int} (h : Is w A L) (k : Nat) : Is w A (L.take k) := fun h0 => by
  rw [List.length_take] at h0
  obtain ⟨b, off, e, hc⟩ := h (by omega)
  refine ⟨b, off, e, fun j hj => ?_⟩
  rw [List.length_take] at hj
  rw [hc j (by omega), List.getD_eq_getElem?_getD, List.getD_eq_getElem?_getD, List.getElem?_take_of_lt (by omega)]
theorem is_drop {A : Option Addr} {L : List Int} (h : Is w A L) (k cap : Nat) (hk : L.length ≤ cap) : Is w (if cap = k then A else A.map (·.add k)) (L.drop k) := fun h0 => by
  rw [List.length_drop] at h0
  obtain ⟨b, off, rfl, hc⟩ := h (by omega)
  rw [if_neg (by omega)]
  refine ⟨b, off + k, ?_, fun j hj => ?_⟩
  · show some (Addr.add ⟨b, off, none⟩ k) = _
    have e2 : (⟨b, off, none⟩ : Addr).add k = ⟨b, off + k, none⟩ := by unfold Addr.add; split <;> simp_all
    rw [e2]
  · rw [List.length_drop] at hj
    rw [Nat.add_assoc, hc (k + j) (by omega), List.getD_eq_getElem?_getD, List.getD_eq_getElem?_getD, List.getElem?_drop]
/-- A row of the call's own that holds a list, as a value. -/
def OwnV (w : World) (B : Nat) (L : List Int) (v : Value) : Prop := w.ownsRow B 3 1 v L.length (zs L) ∧ (L = [] → v = .slice none 0 0)
theorem OwnV.later {w w' : World} {B : Nat} {L : List Int} {v : Value} (h : OwnV w B L v) (hb : Below w.heap.size w w') : OwnV w' B L v := ⟨own_later h.1 hb, h.2⟩
theorem OwnV.slice {w : World} {B : Nat} {L : List Int} {v : Value} (h : OwnV w B L v) (h0 : 0 < L.length) : ∃ g cap, v = .slice (some ⟨g, 0, none⟩) L.length cap ∧ L.length ≤ cap ∧ B ≤ g ∧ g < w.heap.size ∧ Is w (some ⟨g, 0, none⟩) L := by
  have h1 := h.1
  rcases h1.2 with ⟨hv, hn⟩ | ⟨g, cap, cur, hv, hb, hg, hnc, hcm, hcs, htk⟩
  · omega
  · obtain ⟨A', cap', e, h3, h4, h5⟩ := els_own (f := fun z => Value.int .i64 z) (d := (0 : Int)) h1
    rw [hv] at e
    injection e with e1 e2 e3
    rw [← e1] at h4
    exact ⟨g, cap, hv, hnc, hb, (Array.getElem?_eq_some_iff.1 hg).1, h4⟩
end
end Ss
end
end Go.Proofs.YtindkpfmflcibaaGreatDoor
