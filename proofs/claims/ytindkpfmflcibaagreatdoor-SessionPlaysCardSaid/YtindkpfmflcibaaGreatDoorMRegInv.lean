/- A drawn region, by what each operation leaves: one obligation an operation, whatever order is drawn. Nothing of the program. -/
import Derived.Test.YtindkpfmflcibaaGreatDoorGB
import Derived.Orders
namespace Go.Proofs.YtindkpfmflcibaaGreatDoor
open Go.RowKit
/-- What a slot holds. -/
abbrev slot (a : Act) (t : Nat) : Value := a.tmps.getD t undef
section
variable {P : Program} {ops : Array Oper} {Q : Exit → Act → World → Prop}
theorem slot_same (a : Act) {d : Nat} (v : Value) (h : d < a.tmps.size) : slot (a.put (some d) v) d = v := by
  unfold slot Act.put
  simp [Array.getD_eq_getD_getElem?, h]
theorem slot_ne (a : Act) {d t : Nat} (v : Value) (h : t ≠ d) : slot (a.put (some d) v) t = slot a t := by
  unfold slot Act.put
  simp [Array.getD_eq_getD_getElem?, Ne.symm h]
theorem put_size (a : Act) (d : Option Tmp) (v : Value) : (a.put d v).tmps.size = a.tmps.size := by
  cases d <;> simp [Act.put]
theorem put_defers (a : Act) (d : Option Tmp) (v : Value) : (a.put d v).defers = a.defers := by
  cases d <;> rfl
/-- Outside these slots all is as it was. -/
structure Frm (a0 : Act) (D : List Nat) (a : Act) : Prop where
  size : a.tmps.size = a0.tmps.size
  defers : a.defers = a0.defers
  slots : ∀ t, t ∉ D → slot a t = slot a0 t
theorem slot_opt (a : Act) (t : Nat) : a.tmps[t]?.getD undef = slot a t := by
  unfold slot
  rw [Array.getD_eq_getD_getElem?]
theorem Frm.at {a0 a : Act} {D : List Nat} (h : Frm a0 D a) (t : Nat) (ht : t ∉ D) : a.tmps[t]?.getD undef = slot a0 t := (slot_opt a t).trans (h.slots t ht)
theorem Frm.refl (a0 : Act) (D : List Nat) : Frm a0 D a0 := ⟨rfl, rfl, fun _ _ => rfl⟩
theorem Frm.put {a0 a : Act} {D : List Nat} (h : Frm a0 D a) (o : Option Nat) (v : Value) (ho : ∀ d, o = some d → d ∈ D) : Frm a0 D (a.put o v) := by
  refine ⟨(put_size a o v).trans h.size, (put_defers a o v).trans h.defers, fun t ht => ?_⟩
  cases o with
  | none => exact h.slots t ht
  | some d => rw [slot_ne a v (fun e => ht (by rw [e]; exact ho d rfl))]; exact h.slots t ht
/-- The slots written out. -/
def lay (T : Array Value) (D : List Nat) (σ : Nat → Value) : Array Value := D.foldl (fun T t => T.setIfInBounds t (σ t)) T
theorem lay_size (σ : Nat → Value) : ∀ (D : List Nat) (T : Array Value), (lay T D σ).size = T.size
  | [], _ => rfl
  | d :: D, T => by
    unfold lay
    rw [List.foldl_cons]
    exact (lay_size σ D _).trans (by simp)
theorem lay_at (σ : Nat → Value) : ∀ (D : List Nat) (T : Array Value) (t : Nat), t < T.size → (lay T D σ)[t]? = if t ∈ D then some (σ t) else T[t]?
  | [], T, t, _ => by simp [lay]
  | d :: D, T, t, ht => by
    unfold lay
    rw [List.foldl_cons]
    have := lay_at σ D (T.setIfInBounds d (σ d)) t (by simpa using ht)
    unfold lay at this
    rw [this]
    by_cases h1 : t ∈ D
    · rw [if_pos h1, if_pos (List.mem_cons_of_mem _ h1)]
    · rw [if_neg h1]
      by_cases h2 : t = d
      · subst h2
        rw [if_pos (List.mem_cons_self ..)]
        simp [ht]
      · rw [if_neg (by simp [h1, h2]), Array.getElem?_setIfInBounds, if_neg (Ne.symm h2)]
theorem Frm.lit {a0 a : Act} {D : List Nat} (h : Frm a0 D a) : a = { a0 with tmps := lay a0.tmps D (slot a) } := by
  obtain ⟨T, df⟩ := a
  obtain ⟨hs, hd, hl⟩ := h
  dsimp only at hs hd
  subst hd
  congr 1
  apply Array.ext_getElem?
  intro t
  by_cases ht : t < a0.tmps.size
  · rw [lay_at _ D _ t ht]
    by_cases hD : t ∈ D
    · rw [if_pos hD]
      unfold slot
      dsimp only
      rw [Array.getD_eq_getD_getElem?, Array.getElem?_eq_getElem (by omega)]
      rfl
    · rw [if_neg hD]
      have := hl t hD
      unfold slot at this
      dsimp only at this
      rw [Array.getD_eq_getD_getElem?, Array.getD_eq_getD_getElem?, Array.getElem?_eq_getElem (by omega), Array.getElem?_eq_getElem ht] at this
      rw [Array.getElem?_eq_getElem (by omega), Array.getElem?_eq_getElem ht]
      exact congrArg some this
  · rw [Array.getElem?_eq_none (by omega), Array.getElem?_eq_none (by rw [lay_size]; omega)]
theorem wpOp_of {i : Nat} {o : Oper} {K : Act → World → Prop} {a : Act} {w : World} (ho : ops[i]? = some o) (hg : o.guard = none) (h : o.wp P a w K Q) : wpOp P ops Q i K a w := by
  unfold wpOp
  rw [ho]
  dsimp only
  rw [if_pos (by unfold Region.wanted; rw [hg])]
  exact .inl h
theorem ready_all {listed : Array Bool} (hsz : listed.size = ops.size) (hord : ∀ (i : Nat) o, ops[i]? = some o → ∀ e ∈ o.after, Region.binds .any e = true → e.on < i) (h : Region.ready .any ops listed = []) : ∀ i, i < ops.size → listed.getD i false = true := by
  intro i
  induction i using Nat.strongRecOn with
  | ind i ih =>
    intro hi
    have hls : i < listed.size := by omega
    cases hl : listed[i] with
    | true => simp [Array.getD_eq_getD_getElem?, Array.getElem?_eq_getElem hls, hl]
    | false =>
      exfalso
      have : i ∈ Region.ready .any ops listed := mem_ready.2 ⟨by simp [Array.getD_eq_getD_getElem?, Array.getElem?_eq_getElem hls, hl], ops[i], Array.getElem?_eq_getElem hi, fun e he hb => ih e.on (hord i _ (Array.getElem?_eq_getElem hi) e he hb) (by have := hord i _ (Array.getElem?_eq_getElem hi) e he hb; omega)⟩
      rw [h] at this
      cases this
/-- How many have not come up. -/
def left (listed : Array Bool) : Nat := listed.toList.countP (fun b => !b)
theorem left_set {listed : Array Bool} {i : Nat} (h : listed.getD i true = false) : left (listed.setIfInBounds i true) + 1 = left listed := by
  have hi : i < listed.size := by
    rcases Nat.lt_or_ge i listed.size with h' | h'
    · exact h'
    · simp [Array.getD_eq_getD_getElem?, Array.getElem?_eq_none h'] at h
  have hv : listed.toList[i]'(by simpa using hi) = false := by
    simpa [Array.getD_eq_getD_getElem?, Array.getElem?_eq_getElem hi] using h
  have hp : 0 < listed.toList.countP (fun b => !b) := List.countP_pos_iff.2 ⟨false, by rw [← hv]; exact List.getElem_mem _, rfl⟩
  have h1 := List.countP_set (p := fun b : Bool => !b) (l := listed.toList) (i := i) (a := true) (by simpa using hi)
  rw [hv] at h1
  simp only [Bool.not_false, Bool.not_true, if_true] at h1
  unfold left
  rw [Array.toList_setIfInBounds, h1]
  simp only [Bool.false_eq_true, if_false]
  omega
section
variable {m : Nat} (a0 : Act) (w0 : World) (D : List Nat) (d : Nat → Nat) (Φ : Nat → Value → World → Prop)
/-- What is asked of an operation: its own value and world, out of what it hangs on. -/
def Leaves (P : Program) (Q : Exit → Act → World → Prop) (a0 : Act) (w0 : World) (D : List Nat) (d : Nat → Nat) (Φ : Nat → Value → World → Prop) (i : Nat) (o : Oper) : Prop :=
  ∀ a w, Frm a0 D a → Below w0.heap.size w0 w → (∀ j, (o.after.any fun e => e.on == j && Region.binds .any e) = true → Φ j (slot a (d j)) w) →
    ∀ K : Act → World → Prop, Hid (∀ v w', Below w.heap.size w w' → Φ i v w' → K (a.put o.dst v) w') → o.wp P a w K Q
theorem wpAny_inv (hord : ∀ (i : Nat) o, ops[i]? = some o → ∀ e ∈ o.after, Region.binds .any e = true → e.on < i) (hgd : ∀ (i : Nat) o, ops[i]? = some o → o.guard = none) (hdst : ∀ (i : Nat) o, ops[i]? = some o → i < m → o.dst = some (d i) ∧ d i ∈ D) (hne : ∀ i j, i < m → j < m → i ≠ j → d i ≠ d j) (hD : ∀ t ∈ D, t < a0.tmps.size)
    (hΦ : ∀ j v w w', Below w.heap.size w w' → Φ j v w → Φ j v w')
    (hm : m ≤ ops.size) (hm1 : ops.size ≤ m + 1) (hlast : ∀ o, ops[m]? = some o → ∀ j, j < m → ∃ e ∈ o.after, e.on = j ∧ Region.binds .any e = true)
    (step : ∀ (i : Nat) o, ops[i]? = some o → i < m → Leaves P Q a0 w0 D d Φ i o)
    (last : ∀ o, ops[m]? = some o → ∀ a w, Frm a0 D a → Below w0.heap.size w0 w → (∀ j, j < m → Φ j (slot a (d j)) w) → o.wp P a w (fun a' w' => Q .normal a' w') Q)
    (done : ops.size = m → ∀ a w, Frm a0 D a → Below w0.heap.size w0 w → (∀ j, j < m → Φ j (slot a (d j)) w) → Q .normal a w) :
    ∀ (fuel : Nat) (listed : Array Bool) (a : Act) (w : World), listed.size = ops.size → left listed ≤ fuel → Frm a0 D a → Below w0.heap.size w0 w → listed.getD m false = false → (∀ j, j < m → listed.getD j false = true → Φ j (slot a (d j)) w) → wpAny P .any ops Q fuel listed a w := by
  have hfin : ∀ (listed : Array Bool) (a : Act) (w : World), listed.size = ops.size → Frm a0 D a → Below w0.heap.size w0 w → listed.getD m false = false → (∀ j, j < m → listed.getD j false = true → Φ j (slot a (d j)) w) → Region.ready .any ops listed = [] → Q .normal a w := by
    intro listed a w hs hF hB hmm hI hr
    have hall := ready_all hs hord hr
    by_cases hz : ops.size = m
    · exact done hz a w hF hB (fun j hj => hI j hj (hall j (by omega)))
    · have := hall m (by omega)
      rw [hmm] at this
      cases this
  intro fuel
  induction fuel with
  | zero =>
    intro listed a w hs hl hF hB hmm hI
    have hr : Region.ready .any ops listed = [] := by
      refine List.eq_nil_iff_forall_not_mem.2 fun i hi => ?_
      have := left_set (mem_ready.1 hi).1
      omega
    exact ⟨hr, hfin listed a w hs hF hB hmm hI hr⟩
  | succ fuel ih =>
    intro listed a w hs hl hF hB hmm hI
    refine ⟨hfin listed a w hs hF hB hmm hI, fun i hi => ?_⟩
    obtain ⟨hun, o, ho, hdep⟩ := mem_ready.1 hi
    have hio : i < ops.size := (Array.getElem?_eq_some_iff.1 ho).1
    have hls := left_set hun
    have hgs : ∀ j, (listed.setIfInBounds i true).getD j false = if j = i then true else listed.getD j false := fun j => by
      rw [Array.getD_eq_getD_getElem?, Array.getD_eq_getD_getElem?, Array.getElem?_setIfInBounds]
      by_cases hj : i = j
      · subst hj; simp [show i < listed.size by omega]
      · rw [if_neg hj, if_neg (Ne.symm hj)]
    by_cases him : i < m
    · obtain ⟨hd1, hd2⟩ := hdst i o ho him
      refine wpOp_of ho (hgd i o ho) (step i o ho him a w hF hB (fun j hj => ?_) _ (fun v w' hb hv => ?_))
      · obtain ⟨k, hk, hj⟩ := Array.any_eq_true.1 hj
        simp only [Bool.and_eq_true, beq_iff_eq] at hj
        obtain ⟨rfl, hb⟩ := hj
        have he := Array.getElem_mem hk
        exact hI _ (by have := hord i o ho _ he hb; omega) (hdep _ he hb)
      rw [hd1]
      have hFa := hF.put (some (d i)) v (fun t ht => by injection ht with ht; exact ht ▸ hd2)
      refine ih _ _ _ (by simpa using hs) (by omega) hFa (below_to hB hb) (by rw [hgs, if_neg (by omega)]; exact hmm) (fun j hj hlj => ?_)
      rw [hgs] at hlj
      by_cases hji : j = i
      · subst hji
        rw [slot_same a v (by rw [hF.size]; exact hD _ hd2)]
        exact hv
      · rw [if_neg hji] at hlj
        rw [slot_ne a v (hne j i hj him hji)]
        exact hΦ j _ _ _ hb (hI j hj hlj)
    · obtain rfl : i = m := by omega
      have hall : ∀ j, j < i → listed.getD j false = true := fun j hj => by
        obtain ⟨e, he, rfl, hb⟩ := hlast o ho j hj
        exact hdep e he hb
      refine wpOp_of ho (hgd i o ho) (Oper.wp_mono (fun a' w' h => ?_) (last o ho a w hF hB (fun j hj => hI j hj (hall j hj))))
      have hr : Region.ready .any ops (listed.setIfInBounds i true) = [] := by
        refine List.eq_nil_iff_forall_not_mem.2 fun j hj => ?_
        obtain ⟨h1, o2, ho2, -⟩ := mem_ready.1 hj
        have hj2 : j < ops.size := (Array.getElem?_eq_some_iff.1 ho2).1
        have h3 : (listed.setIfInBounds i true).getD j false = true := by
          rw [hgs]
          by_cases hji : j = i
          · rw [if_pos hji]
          · rw [if_neg hji]; exact hall j (by omega)
        have hjs : j < (listed.setIfInBounds i true).size := by simp; omega
        rw [Array.getD_eq_getD_getElem?, Array.getElem?_eq_getElem hjs] at h1 h3
        simp at h1 h3
        rw [h1] at h3
        cases h3
      cases fuel with
      | zero => exact ⟨hr, h⟩
      | succ fuel => exact ⟨fun _ => h, by rw [hr]; simp⟩
end
/-- One after the other. -/
def AllL (F : Nat → Oper → Prop) : Nat → List Oper → Prop
  | _, [] => True
  | i, o :: l => F i o ∧ AllL F (i + 1) l
theorem AllL.at {F : Nat → Oper → Prop} : ∀ {l : List Oper} {i k : Nat} {o : Oper}, AllL F k l → l[i]? = some o → F (k + i) o
  | [], _, _, _, _, h => by simp at h
  | x :: l, 0, k, o, ha, h => by
    obtain rfl : x = o := by simpa using h
    exact ha.1
  | x :: l, i + 1, k, o, ha, h => by
    have := AllL.at (l := l) (i := i) ha.2 (by simpa using h)
    rwa [show k + 1 + i = k + (i + 1) by omega] at this
/-- The slot that an operation writes. -/
def dOf (l : List Oper) (i : Nat) : Nat := ((l[i]?).bind (·.dst)).getD 0
/-- What must be seen of the region's text. -/
def regOk (l : List Oper) (m n : Nat) (D : List Nat) : Bool :=
  (List.range l.length).all (fun i => match l[i]? with
    | none => true
    | some o => (o.after.all fun e => decide (e.on < i) || !Region.binds .any e) && o.guard.isNone && (decide (m ≤ i) || o.dst.isSome)) &&
  (decide (m ≤ l.length) && decide (l.length ≤ m + 1)) && (D.all fun t => decide (t < n)) &&
  ((List.range m).all fun i => D.contains (dOf l i) && (List.range m).all fun j => decide (i = j) || decide (dOf l i ≠ dOf l j)) &&
  (match l[m]? with
    | none => true
    | some o => (List.range m).all fun j => o.after.any fun e => e.on == j && Region.binds .any e)
theorem wp_region_inv {l : List Oper} {id : Nat} {a0 : Act} {w0 : World} (m n : Nat) (D : List Nat) (Φ : Nat → Value → World → Prop) (hm : P.follows .mixedOrders = true) (hn : a0.tmps.size = n) (hck : regOk l m n D = true)
    (hΦ : ∀ j v w w', Below w.heap.size w w' → Φ j v w → Φ j v w')
    (step : AllL (Leaves P Q a0 w0 D (dOf l) Φ) 0 (l.take m))
    (last : ∀ o, l[m]? = some o → ∀ a w, Frm a0 D a → Below w0.heap.size w0 w → (∀ j, j < m → Φ j (slot a (dOf l j)) w) → o.wp P a w (fun a' w' => Q .normal a' w') Q)
    (done : l.length = m → ∀ a w, Frm a0 D a → Below w0.heap.size w0 w → (∀ j, j < m → Φ j (slot a (dOf l j)) w) → Q .normal a w) :
    (Code.region id l.toArray true).wp P Q a0 w0 := by
  unfold regOk at hck
  simp only [Bool.and_eq_true, List.all_eq_true, List.mem_range, decide_eq_true_eq, Bool.or_eq_true] at hck
  obtain ⟨⟨⟨⟨h1, h2, h3⟩, h4⟩, h5⟩, h6⟩ := hck
  have h1' : ∀ (i : Nat) o, l[i]? = some o → (∀ e ∈ o.after, Region.binds .any e = true → e.on < i) ∧ o.guard = none ∧ (m ≤ i ∨ o.dst.isSome = true) := fun i o ho => by
    have := h1 i (List.getElem?_eq_some_iff.1 ho).1
    rw [ho] at this
    simp only [Bool.and_eq_true, Bool.or_eq_true, decide_eq_true_eq, Array.all_eq_true, Option.isNone_iff_eq_none, Bool.not_eq_true'] at this
    refine ⟨fun e he hb => ?_, this.1.2, this.2⟩
    obtain ⟨k, hk, rfl⟩ := Array.mem_iff_getElem.1 he
    rcases this.1.1 k hk with h | h
    · exact h
    · rw [hb] at h; cases h
  refine wp_region_any hm (wpAny_inv (m := m) a0 w0 D (dOf l) Φ (fun i o ho => (h1' i o (by simpa using ho)).1) (fun i o ho => (h1' i o (by simpa using ho)).2.1) (fun i o ho him => ?_) (fun i j hi hj hij => ?_) (fun t ht => by rw [hn]; exact h4 t ht) hΦ (by simpa using h2) (by simpa using h3) (fun o ho j hj => ?_) (fun i o ho him => ?_) (fun o ho => last o (by simpa using ho)) (fun h => done (by simpa using h)) _ _ a0 _ (by simp) ?_ (Frm.refl _ _) (Below.refl _ _).drew ?_ (fun j _ hj => ?_))
  · have ho' : l[i]? = some o := by simpa using ho
    rcases (h1' i o ho').2.2 with h | h
    · omega
    · obtain ⟨t, ht⟩ := Option.isSome_iff_exists.1 h
      have hd : dOf l i = t := by unfold dOf; rw [ho']; simp [ht]
      have hc := (h5 i him).1
      rw [hd] at hc ⊢
      exact ⟨ht, by simpa using hc⟩
  · rcases (h5 i hi).2 j hj with h | h
    · exact absurd h hij
    · exact h
  · have ho' : l[m]? = some o := by simpa using ho
    rw [ho'] at h6
    simp only [List.all_eq_true, List.mem_range] at h6
    obtain ⟨k, hk, he⟩ := Array.any_eq_true.1 (h6 j hj)
    simp only [Bool.and_eq_true, beq_iff_eq] at he
    exact ⟨_, Array.getElem_mem hk, he.1, he.2⟩
  · have ho' : l[i]? = some o := by simpa using ho
    have := AllL.at (i := i) step (by rw [List.getElem?_take, if_pos him]; exact ho')
    rwa [Nat.zero_add] at this
  · unfold left
    refine Nat.le_trans (List.countP_le_length) ?_
    simp
  · simp [Array.getD_eq_getD_getElem?, Array.getElem?_replicate]
    split <;> rfl
  · simp [Array.getD_eq_getD_getElem?, Array.getElem?_replicate] at hj
    split at hj <;> simp at hj
end
end Go.Proofs.YtindkpfmflcibaaGreatDoor
