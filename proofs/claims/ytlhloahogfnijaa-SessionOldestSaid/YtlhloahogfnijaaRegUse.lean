/- A drawn region, by what each operation leaves; an operation may use up what another one left (an append within the room of its row). Nothing of the program. -/
import Derived.Test.YtlhloahogfnijaaRegInv
namespace Go.Proofs.Ytlhloahogfnijaa
open Go.RowKit
section
variable {P : Program} {ops : Array Oper} {Q : Exit → Act → World → Prop}
/-- What is asked of an operation; 'use i j': it uses up what j left. -/
def LeavesU (P : Program) (Q : Exit → Act → World → Prop) (a0 : Act) (w0 : World) (D : List Nat) (d : Nat → Nat) (use : Nat → Nat → Bool) (N : Nat) (Φ : Nat → Value → World → Prop) (i : Nat) (o : Oper) : Prop :=
  ∀ a w, Frm a0 D a → Below w0.heap.size w0 w → (∀ j, ((o.after.any fun e => e.on == j && Region.binds .any e) && (List.range N).all fun k => !use k j || decide (k = i)) = true → Φ j (slot a (d j)) w) →
    ∀ K : Act → World → Prop, Hid (∀ v w', Below w0.heap.size w0 w' → (∀ j u, j ≠ i → use i j = false → Φ j u w → Φ j u w') → Φ i v w' → K (a.put o.dst v) w') → o.wp P a w K Q
theorem wpAny_use (a0 : Act) (w0 : World) (D : List Nat) (d : Nat → Nat) (use : Nat → Nat → Bool) (Φ : Nat → Value → World → Prop) (hord : ∀ (i : Nat) o, ops[i]? = some o → ∀ e ∈ o.after, Region.binds .any e = true → e.on < i) (hgd : ∀ (i : Nat) o, ops[i]? = some o → o.guard = none) (hdst : ∀ (i : Nat) o, ops[i]? = some o → o.dst = some (d i) ∧ d i ∈ D) (hne : ∀ i j, i < ops.size → j < ops.size → i ≠ j → d i ≠ d j) (hD : ∀ t ∈ D, t < a0.tmps.size)
    (hul : ∀ k j, use k j = true → k < ops.size)
    (step : ∀ (i : Nat) o, ops[i]? = some o → LeavesU P Q a0 w0 D d use ops.size Φ i o)
    (done : ∀ a w, Frm a0 D a → Below w0.heap.size w0 w → (∀ j, j < ops.size → (∀ k, use k j = false) → Φ j (slot a (d j)) w) → Q .normal a w) :
    ∀ (fuel : Nat) (listed : Array Bool) (a : Act) (w : World), listed.size = ops.size → left listed ≤ fuel → Frm a0 D a → Below w0.heap.size w0 w → (∀ j, j < ops.size → listed.getD j false = true → (∀ k, listed.getD k false = true → use k j = false) → Φ j (slot a (d j)) w) → wpAny P .any ops Q fuel listed a w := by
  have hfin : ∀ (listed : Array Bool) (a : Act) (w : World), listed.size = ops.size → Frm a0 D a → Below w0.heap.size w0 w → (∀ j, j < ops.size → listed.getD j false = true → (∀ k, listed.getD k false = true → use k j = false) → Φ j (slot a (d j)) w) → Region.ready .any ops listed = [] → Q .normal a w := by
    intro listed a w hs hF hB hI hr
    have hall := ready_all hs hord hr
    exact done a w hF hB (fun j hj hk => hI j hj (hall j hj) (fun k _ => hk k))
  intro fuel
  induction fuel with
  | zero =>
    intro listed a w hs hl hF hB hI
    have hr : Region.ready .any ops listed = [] := by
      refine List.eq_nil_iff_forall_not_mem.2 fun i hi => ?_
      have := left_set (mem_ready.1 hi).1
      omega
    exact ⟨hr, hfin listed a w hs hF hB hI hr⟩
  | succ fuel ih =>
    intro listed a w hs hl hF hB hI
    refine ⟨hfin listed a w hs hF hB hI, fun i hi => ?_⟩
    obtain ⟨hun, o, ho, hdep⟩ := mem_ready.1 hi
    have hio : i < ops.size := (Array.getElem?_eq_some_iff.1 ho).1
    have hls := left_set hun
    have hunf : listed.getD i false = false := by
      rw [Array.getD_eq_getD_getElem?] at hun ⊢
      rw [Array.getElem?_eq_getElem (by omega)] at hun ⊢
      exact hun
    have hgs : ∀ j, (listed.setIfInBounds i true).getD j false = if j = i then true else listed.getD j false := fun j => by
      rw [Array.getD_eq_getD_getElem?, Array.getD_eq_getD_getElem?, Array.getElem?_setIfInBounds]
      by_cases hj : i = j
      · subst hj; simp [show i < listed.size by omega]
      · rw [if_neg hj, if_neg (Ne.symm hj)]
    obtain ⟨hd1, hd2⟩ := hdst i o ho
    refine wpOp_of ho (hgd i o ho) (step i o ho a w hF hB (fun j hj => ?_) _ (fun v w' hb hst hv => ?_))
    · rw [Bool.and_eq_true] at hj
      obtain ⟨hj, hfree⟩ := hj
      obtain ⟨k, hk, hj⟩ := Array.any_eq_true.1 hj
      simp only [Bool.and_eq_true, beq_iff_eq] at hj
      obtain ⟨rfl, hb⟩ := hj
      simp only [List.all_eq_true, List.mem_range, Bool.or_eq_true, Bool.not_eq_true', decide_eq_true_eq] at hfree
      have he := Array.getElem_mem hk
      refine hI _ (by have := hord i o ho _ he hb; omega) (hdep _ he hb) (fun q hq => ?_)
      cases hu : use q (o.after[k]).on with
      | false => rfl
      | true =>
        rcases hfree q (hul q _ hu) with h | h
        · rw [hu] at h; cases h
        · subst h
          rw [hunf] at hq
          cases hq
    rw [hd1]
    have hFa := hF.put (some (d i)) v (fun t ht => by injection ht with ht; exact ht ▸ hd2)
    refine ih _ _ _ (by simpa using hs) (by omega) hFa hb (fun j hj hlj hjk => ?_)
    rw [hgs] at hlj
    by_cases hji : j = i
    · subst hji
      rw [slot_same a v (by rw [hF.size]; exact hD _ hd2)]
      exact hv
    · rw [if_neg hji] at hlj
      rw [slot_ne a v (hne j i hj hio hji)]
      refine hst j _ hji (hjk i (by rw [hgs, if_pos rfl])) (hI j hj hlj (fun k hk => hjk k ?_))
      rw [hgs]
      split
      · rfl
      · exact hk
/-- What must be seen of the region's text. -/
def regOkU (l : List Oper) (n : Nat) (D : List Nat) : Bool :=
  (List.range l.length).all (fun i => match l[i]? with
    | none => true
    | some o => (o.after.all fun e => decide (e.on < i) || !Region.binds .any e) && o.guard.isNone && o.dst.isSome) &&
  (D.all fun t => decide (t < n)) &&
  ((List.range l.length).all fun i => D.contains (dOf l i) && (List.range l.length).all fun j => decide (i = j) || decide (dOf l i ≠ dOf l j))
theorem wp_region_use {l : List Oper} {id : Nat} {a0 : Act} {w0 : World} (n : Nat) (D : List Nat) (use : Nat → Nat → Bool) (Φ : Nat → Value → World → Prop) (hm : P.follows .mixedOrders = true) (hn : a0.tmps.size = n) (hck : regOkU l n D = true)
    (hul : ∀ k j, use k j = true → k < l.length)
    (step : AllL (LeavesU P Q a0 w0 D (dOf l) use l.length Φ) 0 l)
    (done : ∀ a w, Frm a0 D a → Below w0.heap.size w0 w → (∀ j, j < l.length → (∀ k, use k j = false) → Φ j (slot a (dOf l j)) w) → Q .normal a w) :
    (Code.region id l.toArray true).wp P Q a0 w0 := by
  unfold regOkU at hck
  simp only [Bool.and_eq_true, List.all_eq_true, List.mem_range, decide_eq_true_eq, Bool.or_eq_true] at hck
  obtain ⟨⟨h1, h4⟩, h5⟩ := hck
  have h1' : ∀ (i : Nat) o, l[i]? = some o → (∀ e ∈ o.after, Region.binds .any e = true → e.on < i) ∧ o.guard = none ∧ o.dst.isSome = true := fun i o ho => by
    have := h1 i (List.getElem?_eq_some_iff.1 ho).1
    rw [ho] at this
    simp only [Bool.and_eq_true, Bool.or_eq_true, decide_eq_true_eq, Array.all_eq_true, Option.isNone_iff_eq_none, Bool.not_eq_true'] at this
    refine ⟨fun e he hb => ?_, this.1.2, this.2⟩
    obtain ⟨k, hk, rfl⟩ := Array.mem_iff_getElem.1 he
    exact (this.1.1 k hk).resolve_right (by rw [hb]; decide)
  refine wp_region_any hm (wpAny_use a0 w0 D (dOf l) use Φ (fun i o ho e he hb => (h1' i o (by simpa using ho)).1 e he hb) (fun i o ho => (h1' i o (by simpa using ho)).2.1) (fun i o ho => ?_) (fun i j hi hj hij => ?_) (fun t ht => by rw [hn]; exact h4 t ht) (fun k j h => by simpa using hul k j h) (fun i o ho => ?_) (fun a w hF hB hI => done a w hF hB (fun j hj => hI j (by simpa using hj))) _ _ a0 _ (by simp) ?_ (Frm.refl _ _) (Below.refl _ _).drew (fun j _ hj => ?_))
  · have ho' : l[i]? = some o := by simpa using ho
    obtain ⟨t, ht⟩ := Option.isSome_iff_exists.1 (h1' i o ho').2.2
    have hd : dOf l i = t := by unfold dOf; rw [ho']; simp [ht]
    have hc := (h5 i (List.getElem?_eq_some_iff.1 ho').1).1
    rw [hd] at hc ⊢
    exact ⟨ht, by simpa using hc⟩
  · rcases (h5 i (by simpa using hi)).2 j (by simpa using hj) with h | h
    · exact absurd h hij
    · exact h
  · have ho' : l[i]? = some o := by simpa using ho
    have := AllL.at (i := i) step ho'
    rw [Nat.zero_add] at this
    simpa using this
  · unfold left
    refine Nat.le_trans (List.countP_le_length) ?_
    simp
  · simp [Array.getD_eq_getD_getElem?, Array.getElem?_replicate] at hj
    split at hj <;> simp at hj
end
end Go.Proofs.Ytlhloahogfnijaa
