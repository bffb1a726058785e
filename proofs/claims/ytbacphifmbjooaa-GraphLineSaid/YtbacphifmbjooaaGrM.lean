/- Plain mathematics of what needs what: the order that is told, who is reached. No program stands in this text. -/
import Derived.Lib.Hide
namespace Go.Proofs.Ytbacphifmbjooaa

/-- One of n numbers. -/
def inn (n : Nat) (x : Int) : Bool := decide (0 ≤ x ∧ x < (n : Int))
theorem inn_iff {n : Nat} {x : Int} : inn n x = true ↔ 0 ≤ x ∧ x < (n : Int) := by unfold inn; simp
theorem inn_lt {n : Nat} {x : Int} (h : inn n x = true) : x.toNat < n ∧ ((x.toNat : Nat) : Int) = x := by rw [inn_iff] at h; omega
theorem inn_nat {n k : Nat} (h : k < n) : inn n (k : Int) = true := by rw [inn_iff]; omega
/-- All that is needed is done. -/
def freeB (n : Nat) (r : List Int) (D : Nat → Bool) : Bool := r.all fun x => !inn n x || D x.toNat
theorem freeB_iff {n : Nat} {r : List Int} {D : Nat → Bool} : freeB n r D = true ↔ ∀ x ∈ r, inn n x = true → D x.toNat = true := by
  unfold freeB
  rw [List.all_eq_true]
  constructor
  · intro h x hx hi
    have := h x hx
    rw [hi] at this
    simpa using this
  · intro h x hx
    cases hi : inn n x with
    | false => rfl
    | true => simp [h x hx hi]
theorem freeB_app {n : Nat} {p q : List Int} {D : Nat → Bool} (hp : ∀ x ∈ p, inn n x = true → D x.toNat = true) : freeB n (p ++ q) D = freeB n q D := by
  have e : freeB n p D = true := freeB_iff.2 hp
  unfold freeB at e ⊢
  rw [List.all_append, e, Bool.true_and]
theorem freeB_not {n : Nat} {r : List Int} {D : Nat → Bool} {x : Int} (hx : x ∈ r) (hi : inn n x = true) (hd : D x.toNat = false) : freeB n r D = false := by
  cases h : freeB n r D with
  | false => rfl
  | true => have := freeB_iff.1 h x hx hi; rw [hd] at this; cases this
abbrev rowL (L : List (List Int)) (k : Nat) : List Int := L.getD k []
theorem rowL_out {L : List (List Int)} {k : Nat} (h : L.length ≤ k) : rowL L k = [] := by
  unfold rowL; rw [List.getD_eq_getElem?_getD, List.getElem?_eq_none h]; rfl
theorem rowL_in {L : List (List Int)} {k : Nat} (h : k < L.length) : rowL L k = L[k] := by
  unfold rowL; rw [List.getD_eq_getElem?_getD, List.getElem?_eq_getElem h]; rfl
/-- It can be told. -/
def can (n : Nat) (L : List (List Int)) (D : Nat → Bool) (k : Nat) : Bool := !D k && freeB n (rowL L k) D
def upd (D : Nat → Bool) (k : Nat) : Nat → Bool := fun j => if j = k then true else D j
theorem upd_at (D : Nat → Bool) (k j : Nat) : upd D k j = true ↔ j = k ∨ D j = true := by
  unfold upd; split <;> simp_all
theorem upd_mono {D : Nat → Bool} {k j : Nat} (h : D j = true) : upd D k j = true := (upd_at D k j).2 (.inr h)
theorem upd_self (D : Nat → Bool) (k : Nat) : upd D k k = true := (upd_at D k k).2 (.inl rfl)
/-- How many are not done. -/
def cnt : Nat → (Nat → Bool) → Nat
  | 0, _ => 0
  | n + 1, D => cnt n D + (if D n then 0 else 1)
theorem cnt_le : ∀ (n : Nat) (D : Nat → Bool), cnt n D ≤ n
  | 0, _ => Nat.le_refl _
  | n + 1, D => by have := cnt_le n D; unfold cnt; split <;> omega
theorem cnt_off (D : Nat → Bool) (k : Nat) : ∀ n, n ≤ k → cnt n (upd D k) = cnt n D
  | 0, _ => rfl
  | n + 1, h => by
    have e : upd D k n = D n := by unfold upd; rw [if_neg (by omega)]
    unfold cnt
    rw [cnt_off D k n (by omega), e]
theorem cnt_upd {D : Nat → Bool} {k : Nat} (hd : D k = false) : ∀ n, k < n → cnt n (upd D k) + 1 = cnt n D
  | 0, h => by omega
  | n + 1, h => by
    unfold cnt
    by_cases e : n = k
    · subst e
      rw [cnt_off D n n (Nat.le_refl _), upd_self, hd]
      simp
    · have e2 : upd D k n = D n := by unfold upd; rw [if_neg e]
      have := cnt_upd hd n (by omega)
      rw [e2]
      omega
theorem cnt_zero : ∀ (n : Nat), cnt n (fun _ => false) = n
  | 0 => rfl
  | n + 1 => by unfold cnt; rw [cnt_zero n]; simp
theorem cnt_all {D : Nat → Bool} : ∀ n, cnt n D = 0 ↔ ∀ k, k < n → D k = true
  | 0 => ⟨fun _ k h => by omega, fun _ => rfl⟩
  | n + 1 => by
    unfold cnt
    constructor
    · intro h k hk
      cases hd : D n with
      | false => rw [hd] at h; simp at h
      | true =>
        rw [hd] at h
        by_cases e : k = n
        · rw [e]; exact hd
        · exact (cnt_all n).1 (by simpa using h) k (by omega)
    · intro h
      rw [(cnt_all n).2 (fun k hk => h k (by omega)), h n (by omega)]
      rfl
/-- What was told up to here. -/
structure Inv (n : Nat) (L : List (List Int)) (D : Nat → Bool) (O : List Nat) : Prop where
  len : O.length + cnt n D = n
  lt : ∀ k ∈ O, k < n
  done : ∀ k, D k = true ↔ k ∈ O
  nd : O.Nodup
  ahead : ∀ p k, O[p]? = some k → ∀ x ∈ rowL L k, inn n x = true → x.toNat ∈ O.take p
theorem Inv.zero (n : Nat) (L : List (List Int)) : Inv n L (fun _ => false) [] := ⟨by rw [cnt_zero]; simp, by simp, by simp, List.nodup_nil, by simp⟩
theorem Inv.step {n : Nat} {L : List (List Int)} {D : Nat → Bool} {O : List Nat} (h : Inv n L D O) {k : Nat} (hk : k < n) (hc : can n L D k = true) : Inv n L (upd D k) (O ++ [k]) := by
  unfold can at hc
  obtain ⟨h1, h2⟩ := Bool.and_eq_true_iff.1 hc
  have hd : D k = false := by simpa using h1
  have hko : k ∉ O := fun hm => by have := (h.done k).2 hm; rw [hd] at this; cases this
  refine ⟨?_, ?_, ?_, ?_, ?_⟩
  · have := cnt_upd hd n hk
    have := h.len
    rw [List.length_append, List.length_singleton]
    omega
  · intro j hj
    rcases List.mem_append.1 hj with hj | hj
    · exact h.lt j hj
    · rw [List.mem_singleton.1 hj]; exact hk
  · intro j
    rw [upd_at, List.mem_append, List.mem_singleton, h.done j]
    exact Or.comm
  · rw [List.nodup_append]
    exact ⟨h.nd, by simp, fun a ha b hb => by rw [List.mem_singleton.1 hb]; intro e; subst e; exact hko ha⟩
  · intro p j hp x hx hi
    by_cases hpl : p < O.length
    · rw [List.getElem?_append_left hpl] at hp
      rw [List.take_append_of_le_length (by omega)]
      exact h.ahead p j hp x hx hi
    · rw [List.getElem?_append_right (by omega)] at hp
      have hp0 : p - O.length = 0 := by
        rcases Nat.eq_zero_or_pos (p - O.length) with e | e
        · exact e
        · rw [List.getElem?_eq_none (by simp; omega)] at hp; cases hp
      rw [hp0] at hp
      obtain rfl : k = j := by simpa using hp
      have := freeB_iff.1 h2 x hx hi
      rw [show p = O.length by omega, List.take_append_of_le_length (Nat.le_refl _), List.take_length]
      exact (h.done _).1 this
/-- The least that can be told, again and again. -/
def told (n : Nat) (L : List (List Int)) : Nat → (Nat → Bool) → List Nat → List Nat × (Nat → Bool)
  | 0, D, O => (O, D)
  | f + 1, D, O => match (List.range n).find? (can n L D) with
    | none => (O, D)
    | some k => told n L f (upd D k) (O ++ [k])
def toldT (n : Nat) (L : List (List Int)) : List Nat × (Nat → Bool) := told n L (n + 1) (fun _ => false) []
theorem find_none {n : Nat} {p : Nat → Bool} (h : ∀ j, j < n → p j = false) : (List.range n).find? p = none := by
  rw [List.find?_eq_none]
  intro x hx
  rw [h x (List.mem_range.1 hx)]
  simp
theorem find_some {p : Nat → Bool} {k : Nat} (hp : p k = true) (h : ∀ j, j < k → p j = false) : ∀ {n : Nat}, k < n → (List.range n).find? p = some k
  | 0, hk => by omega
  | n + 1, hk => by
    rw [List.range_succ, List.find?_append]
    by_cases e : k = n
    · subst e
      rw [find_none h]
      simp [hp]
    · rw [find_some hp h (by omega : k < n)]
      rfl
theorem told_inv (n : Nat) (L : List (List Int)) : ∀ (f : Nat) (D : Nat → Bool) (O : List Nat), Inv n L D O → n + 1 ≤ f + O.length →
    Inv n L (told n L f D O).2 (told n L f D O).1 ∧ ∀ k, k < n → can n L (told n L f D O).2 k = false
  | 0, D, O, h, hf => by have := h.len; omega
  | f + 1, D, O, h, hf => by
    unfold told
    cases e : (List.range n).find? (can n L D) with
    | none =>
      refine ⟨h, fun k hk => ?_⟩
      have := List.find?_eq_none.1 e k (List.mem_range.2 hk)
      simpa using this
    | some k =>
      have hc := List.find?_some e
      have hk := List.mem_range.1 (List.mem_of_find?_eq_some e)
      exact told_inv n L f (upd D k) (O ++ [k]) (h.step hk hc) (by rw [List.length_append, List.length_singleton]; omega)
theorem toldT_inv (n : Nat) (L : List (List Int)) : Inv n L (toldT n L).2 (toldT n L).1 ∧ ∀ k, k < n → can n L (toldT n L).2 k = false :=
  told_inv n L (n + 1) _ _ (Inv.zero n L) (by simp)
/-- Up to here, on the way to all that is told. -/
structure Way (n : Nat) (L : List (List Int)) (D : Nat → Bool) (O : List Nat) : Prop where
  inv : Inv n L D O
  goes : told n L (n + 1 - O.length) D O = toldT n L
theorem Way.zero (n : Nat) (L : List (List Int)) : Way n L (fun _ => false) [] := ⟨Inv.zero n L, rfl⟩
theorem Way.step {n : Nat} {L : List (List Int)} {D : Nat → Bool} {O : List Nat} (h : Way n L D O) {k : Nat} (hk : k < n) (hc : can n L D k = true) (hl : ∀ j, j < k → can n L D j = false) : Way n L (upd D k) (O ++ [k]) := by
  refine ⟨h.inv.step hk hc, ?_⟩
  rw [← h.goes]
  have := h.inv.len
  rw [List.length_append, List.length_singleton, show n + 1 - O.length = (n + 1 - (O.length + 1)) + 1 by omega]
  conv => rhs; unfold told
  rw [find_some hc hl hk]
theorem Way.stop {n : Nat} {L : List (List Int)} {D : Nat → Bool} {O : List Nat} (h : Way n L D O) (hl : ∀ j, j < n → can n L D j = false) : toldT n L = (O, D) := by
  rw [← h.goes]
  have := h.inv.len
  rw [show n + 1 - O.length = (n - O.length) + 1 by omega]
  unfold told
  rw [find_none hl]
theorem can_done {n : Nat} {L : List (List Int)} {D : Nat → Bool} {k : Nat} (h : D k = true) : can n L D k = false := by unfold can; rw [h]; rfl
theorem can_held {n : Nat} {L : List (List Int)} {D : Nat → Bool} {k : Nat} (h : freeB n (rowL L k) D = false) : can n L D k = false := by unfold can; rw [h, Bool.and_false]
theorem can_yes {n : Nat} {L : List (List Int)} {D : Nat → Bool} {k : Nat} (h : D k = false) (h2 : freeB n (rowL L k) D = true) : can n L D k = true := by unfold can; rw [h, h2]; rfl
/-- Those of n of which D says c, rising. -/
def those (n : Nat) (D : Nat → Bool) (c : Bool) : List Nat := (List.range n).filter fun i => D i == c
theorem those_succ (n : Nat) (D : Nat → Bool) (c : Bool) : those (n + 1) D c = those n D c ++ (if D n == c then [n] else []) := by
  unfold those
  rw [List.range_succ, List.filter_append]
  congr 1
  cases h : D n == c <;> simp [List.filter, h]
theorem mem_those {n : Nat} {D : Nat → Bool} {c : Bool} {k : Nat} : k ∈ those n D c ↔ k < n ∧ D k = c := by
  unfold those; rw [List.mem_filter, List.mem_range]; simp
theorem those_len (D : Nat → Bool) : ∀ n, (those n D false).length = cnt n D
  | 0 => rfl
  | n + 1 => by
    rw [those_succ, List.length_append, those_len D n, cnt]
    cases D n <;> simp
theorem those_le (D : Nat → Bool) (c : Bool) (n : Nat) : (those n D c).length ≤ n := by
  unfold those
  have := List.length_filter_le (fun i => D i == c) (List.range n)
  rwa [List.length_range] at this
theorem those_same {D E : Nat → Bool} {n : Nat} (h : ∀ k, k < n → D k = E k) (c : Bool) : those n D c = those n E c := by
  unfold those
  apply List.filter_congr
  intro x hx
  rw [h x (List.mem_range.1 hx)]
/-- What is told as numbers. -/
def iz (O : List Nat) : List Int := O.map fun k : Nat => (k : Int)
theorem iz_len (O : List Nat) : (iz O).length = O.length := by unfold iz; rw [List.length_map]
theorem iz_inj {O Q : List Nat} : iz O = iz Q ↔ O = Q := by
  constructor
  · intro h
    have e : ∀ O : List Nat, (iz O).map Int.toNat = O := fun O => by
      unfold iz
      rw [List.map_map]
      conv => rhs; rw [← List.map_id O]
      exact List.map_congr_left fun k _ => by simp
    rw [← e O, h, e Q]
  · rintro rfl; rfl
/-- Order's answer. -/
def ordZ (n : Nat) (L : List (List Int)) : List Int := if (toldT n L).1.length < n then [] else iz (toldT n L).1
def ordB (n : Nat) (L : List (List Int)) : Bool := !decide ((toldT n L).1.length < n)
/-- Stuck's answer. -/
def stuckZ (n : Nat) (L : List (List Int)) : List Int := iz (those n (toldT n L).2 false)

/-! Who is reached -/
inductive Rch (n : Nat) (L : List (List Int)) (F : List Int) : Nat → Prop
  | one {x : Int} : inn n x = true → x ∈ F → Rch n L F x.toNat
  | more {i : Nat} {x : Int} : i < n → x ∈ rowL L i → inn n x = true → Rch n L F x.toNat → Rch n L F i
theorem Rch.lt {n : Nat} {L : List (List Int)} {F : List Int} {i : Nat} (h : Rch n L F i) : i < n := by
  cases h with
  | one h _ => exact (inn_lt h).1
  | more h _ _ _ => exact h
/-- A set that holds just those. -/
def Right (n : Nat) (L : List (List Int)) (F : List Int) (D : Nat → Bool) : Prop := ∀ i, i < n → (D i = true ↔ Rch n L F i)
theorem Right.of {n : Nat} {L : List (List Int)} {F : List Int} {D : Nat → Bool} (h1 : ∀ i, i < n → D i = true → Rch n L F i) (h2 : ∀ x ∈ F, inn n x = true → D x.toNat = true)
    (h3 : ∀ i, i < n → ∀ x ∈ rowL L i, inn n x = true → D x.toNat = true → D i = true) : Right n L F D := by
  intro i hi
  refine ⟨h1 i hi, fun h => ?_⟩
  clear hi
  induction h with
  | one ha hb => exact h2 _ hb ha
  | more ha hb hc _ ih => exact h3 _ ha _ hb hc ih
theorem Right.same {n : Nat} {L : List (List Int)} {F : List Int} {D E : Nat → Bool} (h : Right n L F D) (k : Right n L F E) : ∀ i, i < n → D i = E i := by
  intro i hi
  have a := h i hi
  have b := k i hi
  cases hd : D i with
  | true =>
    have := b.2 (a.1 hd)
    rw [this]
  | false =>
    cases he : E i with
    | false => rfl
    | true => have := a.2 (b.1 he); rw [hd] at this; cases this
open Classical in
/-- The one that holds just those. -/
noncomputable def rchB (n : Nat) (L : List (List Int)) (F : List Int) : Nat → Bool := fun i => decide (Rch n L F i)
theorem rchB_right (n : Nat) (L : List (List Int)) (F : List Int) : Right n L F (rchB n L F) := fun i _ => by unfold rchB; simp
/-- Reach's answer. -/
noncomputable def reachZ (n : Nat) (L : List (List Int)) (F : List Int) : List Int := iz (those n (rchB n L F) true)
theorem reachZ_of {n : Nat} {L : List (List Int)} {F : List Int} {D : Nat → Bool} (h : Right n L F D) : iz (those n D true) = reachZ n L F := by
  unfold reachZ
  rw [those_same (h.same (rchB_right n L F)) true]
theorem mem_reachZ {n : Nat} {L : List (List Int)} {F : List Int} {x : Int} : x ∈ reachZ n L F ↔ inn n x = true ∧ Rch n L F x.toNat := by
  unfold reachZ iz
  rw [List.mem_map]
  constructor
  · rintro ⟨k, hk, rfl⟩
    obtain ⟨h1, h2⟩ := mem_those.1 hk
    exact ⟨inn_nat h1, by simpa using (rchB_right n L F k h1).1 h2⟩
  · rintro ⟨h1, h2⟩
    obtain ⟨h3, h4⟩ := inn_lt h1
    exact ⟨x.toNat, mem_those.2 ⟨h3, (rchB_right n L F _ h3).2 h2⟩, h4⟩
theorem Rch.mono {n : Nat} {L : List (List Int)} {F G : List Int} (h : ∀ x ∈ F, inn n x = true → Rch n L G x.toNat) {i : Nat} (hr : Rch n L F i) : Rch n L G i := by
  induction hr with
  | one ha hb => exact h _ hb ha
  | more ha hb hc _ ih => exact .more ha hb hc ih
theorem Rch.app {n : Nat} {L : List (List Int)} {F G : List Int} {i : Nat} : Rch n L (F ++ G) i ↔ Rch n L F i ∨ Rch n L G i := by
  constructor
  · intro h
    induction h with
    | one ha hb =>
      rcases List.mem_append.1 hb with hb | hb
      · exact .inl (.one ha hb)
      · exact .inr (.one ha hb)
    | more ha hb hc _ ih =>
      rcases ih with ih | ih
      · exact .inl (.more ha hb hc ih)
      · exact .inr (.more ha hb hc ih)
  · rintro (h | h)
    · exact h.mono fun x hx hi => .one hi (List.mem_append_left _ hx)
    · exact h.mono fun x hx hi => .one hi (List.mem_append_right _ hx)
theorem Rch.again {n : Nat} {L : List (List Int)} {F : List Int} {i : Nat} : Rch n L (reachZ n L F) i ↔ Rch n L F i := by
  constructor
  · exact fun h => h.mono fun x hx _ => (mem_reachZ.1 hx).2
  · intro h
    have h2 : ((i : Int)).toNat = i := by simp
    have := Rch.one (L := L) (F := reachZ n L F) (inn_nat h.lt) (mem_reachZ.2 ⟨inn_nat h.lt, by rw [h2]; exact h⟩)
    rwa [h2] at this
end Go.Proofs.Ytbacphifmbjooaa
