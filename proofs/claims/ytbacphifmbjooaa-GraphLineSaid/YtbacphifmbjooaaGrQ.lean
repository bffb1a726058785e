/- Plain mathematics of a line of needs, written down in any order. -/
import Derived.Test.YtbacphifmbjooaaGrO
import Derived.Test.YtbacphifmbjooaaGrR
namespace Go.Proofs.Ytbacphifmbjooaa

theorem line_pre : ((List.range 32).all fun k => (List.range k).all fun b => (k < 2 || Nat.gcd b k != 1) || ((List.range k).all fun j => (List.range k).any fun i => i * b % k == j) && ((List.range k).all fun i => (List.range k).all fun j => i * b % k != j * b % k || i == j)) = true := by decide +kernel
/-- The places of a line: i * b % k. -/
structure Lin (k b : Nat) : Prop where
  k2 : 2 ≤ k
  k31 : k ≤ 31
  b1 : 1 ≤ b
  bk : b < k
  sur : ∀ j, j < k → ∃ i, i < k ∧ i * b % k = j
  inj : ∀ i j, i < k → j < k → i * b % k = j * b % k → i = j
theorem lin {k b : Nat} (h2 : 2 ≤ k) (h31 : k ≤ 31) (h1 : 1 ≤ b) (hb : b < k) (hg : Nat.gcd b k = 1) : Lin k b := by
  have h := List.all_eq_true.1 line_pre k (List.mem_range.2 (by omega))
  have h := List.all_eq_true.1 h b (List.mem_range.2 hb)
  rw [hg, show decide (k < 2) = false from decide_eq_false (by omega)] at h
  simp only [bne_self_eq_false, Bool.or_false, Bool.false_or, Bool.and_eq_true] at h
  obtain ⟨hs, hi⟩ := h
  refine ⟨h2, h31, h1, hb, fun j hj => ?_, fun i j hik hjk e => ?_⟩
  · obtain ⟨i, hik, hij⟩ := List.any_eq_true.1 (List.all_eq_true.1 hs j (List.mem_range.2 hj))
    exact ⟨i, List.mem_range.1 hik, by simpa using hij⟩
  · have := List.all_eq_true.1 (List.all_eq_true.1 hi i (List.mem_range.2 hik)) j (List.mem_range.2 hjk)
    rw [e] at this
    simpa using this
/-- The line, and the ring. -/
structure IsLine (k b : Nat) (ring : Bool) (L : List (List Int)) : Prop where
  lin : Lin k b
  row : ∀ i, i + 1 < k → rowL L (i * b % k) = [(((i + 1) * b % k : Nat) : Int)]
  last : rowL L ((k - 1) * b % k) = if ring then [0] else []
theorem those_two (D : Nat → Bool) : ∀ n, (those n D true).length + cnt n D = n
  | 0 => rfl
  | n + 1 => by
    have := those_two D n
    rw [those_succ, List.length_append, cnt]
    cases D n <;> simp <;> omega
section
variable {k b : Nat} {L : List (List Int)}
theorem lin_lt (h : Lin k b) (i : Nat) : i * b % k < k := Nat.mod_lt _ (by have := h.k2; omega)
theorem IsLine.can_no {ring : Bool} (h : IsLine k b ring L) {D : Nat → Bool} {i : Nat} (hi : i + 1 < k) (hd : D ((i + 1) * b % k) = false) : can k L D (i * b % k) = false :=
  can_held (by rw [h.row i hi]; exact freeB_not (List.mem_singleton.2 rfl) (inn_nat (lin_lt h.lin _)) (by rw [Int.toNat_natCast]; exact hd))
/-- What is told after r rounds. -/
def lineO (k b r : Nat) : List Nat := (List.range r).map fun i => (k - 1 - i) * b % k
theorem mem_lineO {r j : Nat} : j ∈ lineO k b r ↔ ∃ i, i < r ∧ (k - 1 - i) * b % k = j := by
  unfold lineO
  rw [List.mem_map]
  constructor
  · rintro ⟨i, hi, e⟩; exact ⟨i, List.mem_range.1 hi, e⟩
  · rintro ⟨i, hi, e⟩; exact ⟨i, List.mem_range.2 hi, e⟩
theorem IsLine.way (h : IsLine k b false L) : ∀ r, r ≤ k → ∃ D, Way k L D (lineO k b r)
  | 0, _ => ⟨_, Way.zero k L⟩
  | r + 1, hr => by
    obtain ⟨D, hw⟩ := IsLine.way h r (by omega)
    have hk2 := h.lin.k2
    have hdone : ∀ i, i < k → (D (i * b % k) = true ↔ k - r ≤ i) := fun i hi => by
      rw [hw.inv.done, mem_lineO]
      constructor
      · rintro ⟨q, hq, e⟩
        have := h.lin.inj _ _ (by omega) hi e
        omega
      · intro hle
        exact ⟨k - 1 - i, by omega, by rw [show k - 1 - (k - 1 - i) = i by omega]⟩
    have hd : ∀ i, i < k → i < k - r → D (i * b % k) = false := fun i hi hlt => by
      cases e : D (i * b % k) with
      | false => rfl
      | true => have := (hdone i hi).1 e; omega
    have hfree : freeB k (rowL L ((k - 1 - r) * b % k)) D = true := by
      rcases Nat.eq_zero_or_pos r with rfl | hr0
      · rw [Nat.sub_zero, h.last]; rfl
      · rw [h.row (k - 1 - r) (by omega)]
        refine freeB_iff.2 fun x hx _ => ?_
        rw [List.mem_singleton.1 hx, Int.toNat_natCast]
        exact (hdone _ (by omega)).2 (by omega)
    have hcan := can_yes (hd (k - 1 - r) (by omega) (by omega)) hfree
    refine ⟨_, by
      have := hw.step (lin_lt h.lin _) hcan fun j hj => ?_
      · unfold lineO
        rw [List.range_succ, List.map_append]
        exact this
      · obtain ⟨i, hi, rfl⟩ := h.lin.sur j (by have := lin_lt h.lin (k - 1 - r); omega)
        by_cases hir : k - r ≤ i
        · exact can_done ((hdone i hi).2 hir)
        · by_cases hie : i = k - 1 - r
          · subst hie; omega
          · exact h.can_no (by omega) (hd (i + 1) (by omega) (by omega))⟩
theorem IsLine.told (h : IsLine k b false L) : (toldT k L).1 = lineO k b k := by
  obtain ⟨D, hw⟩ := h.way k (Nat.le_refl _)
  rw [hw.stop fun j hj => can_done ((hw.inv.done j).2 (mem_lineO.2 (by
    obtain ⟨i, hi, rfl⟩ := h.lin.sur j hj
    exact ⟨k - 1 - i, by omega, by rw [show k - 1 - (k - 1 - i) = i by omega]⟩)))]
theorem IsLine.ord (h : IsLine k b false L) : ordI (k : Int) L = iz (lineO k b k) ∧ ordIB (k : Int) L = true := by
  have hm : mayB (k : Int) = true := decide_eq_true (by have := h.lin.k31; omega)
  unfold ordI ordIB
  rw [hm]
  simp only [if_true, Int.toNat_natCast, Bool.true_and]
  unfold ordZ ordB
  rw [h.told]
  have hl : (lineO k b k).length = k := by unfold lineO; rw [List.length_map, List.length_range]
  rw [hl, if_neg (Nat.lt_irrefl _), decide_eq_false (Nat.lt_irrefl _)]
  exact ⟨rfl, rfl⟩
theorem IsLine.stuck (h : IsLine k b true L) : ordIB (k : Int) L = false ∧ (stuckI (k : Int) L).length = k := by
  have hk2 := h.lin.k2
  have hm : mayB (k : Int) = true := decide_eq_true (by have := h.lin.k31; omega)
  have ht : toldT k L = ([], fun _ => false) := (Way.zero k L).stop fun j hj => by
    obtain ⟨i, hi, rfl⟩ := h.lin.sur j hj
    by_cases hik : i + 1 < k
    · exact h.can_no hik rfl
    · obtain rfl : i = k - 1 := by omega
      exact can_held (by rw [h.last]; exact freeB_not (x := 0) (List.mem_singleton.2 rfl) (inn_nat (k := 0) (by omega)) rfl)
  unfold ordIB stuckI
  rw [hm]
  simp only [if_true, Int.toNat_natCast, Bool.true_and]
  unfold ordB stuckZ
  rw [ht, iz_len, those_len, cnt_zero]
  exact ⟨by rw [decide_eq_true (by simp; omega)]; rfl, rfl⟩
theorem IsLine.all (h : IsLine k b false L) {F : List Int} (hF : (((k - 1) * b % k : Nat) : Int) ∈ F) : (reachI (k : Int) L F).length = k := by
  have hk2 := h.lin.k2
  have hm : mayB (k : Int) = true := decide_eq_true (by have := h.lin.k31; omega)
  unfold reachI
  rw [hm]
  simp only [if_true, Int.toNat_natCast]
  have hr : ∀ q, q < k → Rch k L F ((k - 1 - q) * b % k) := fun q => by
    induction q with
    | zero =>
      intro _
      have := Rch.one (L := L) (inn_nat (lin_lt h.lin (k - 1))) hF
      rwa [Int.toNat_natCast] at this
    | succ q ih =>
      intro hq
      refine .more (x := (((k - 1 - (q + 1) + 1) * b % k : Nat) : Int)) (lin_lt h.lin _) (by rw [h.row _ (by omega)]; exact List.mem_singleton.2 rfl) (inn_nat (lin_lt h.lin _)) ?_
      rw [Int.toNat_natCast, show k - 1 - (q + 1) + 1 = k - 1 - q by omega]
      exact ih (by omega)
  unfold reachZ
  rw [iz_len]
  have h0 : cnt k (rchB k L F) = 0 := (cnt_all k).2 fun j hj => by
    obtain ⟨i, hi, rfl⟩ := h.lin.sur j hj
    have := hr (k - 1 - i) (by omega)
    rw [show k - 1 - (k - 1 - i) = i by omega] at this
    exact (rchB_right k L F _ hj).2 this
  have := those_two (rchB k L F) k
  omega
theorem IsLine.one (h : IsLine k b false L) : (reachI (k : Int) L [0]).length = 1 := by
  have hk2 := h.lin.k2
  have hm : mayB (k : Int) = true := decide_eq_true (by have := h.lin.k31; omega)
  unfold reachI
  rw [hm]
  simp only [if_true, Int.toNat_natCast]
  have hr : ∀ i, Rch k L [0] i → i = 0 := fun i hi => by
    induction hi with
    | one ha hb => rw [List.mem_singleton.1 hb]; rfl
    | @more j x hj hx hxi _ ih =>
      obtain ⟨q, hq, rfl⟩ := h.lin.sur j hj
      by_cases hqk : q + 1 < k
      · rw [h.row q hqk] at hx
        rw [List.mem_singleton.1 hx, Int.toNat_natCast] at ih
        have := h.lin.inj (q + 1) 0 hqk (by omega) (by rw [ih]; simp)
        omega
      · obtain rfl : q = k - 1 := by omega
        rw [h.last] at hx
        cases hx
  have hR : Right k L [0] (upd (fun _ => false) 0) := fun i hi => by
    rw [upd_at]
    constructor
    · rintro (rfl | h0)
      · exact .one (x := 0) (inn_nat (k := 0) (by omega)) (List.mem_singleton.2 rfl)
      · cases h0
    · exact fun hh => .inl (hr i hh)
  rw [← reachZ_of hR, iz_len]
  have h1 := those_two (upd (fun _ => false) 0) k
  have h2 := cnt_upd (D := fun _ => false) (k := 0) rfl k (by omega)
  rw [cnt_zero] at h2
  omega
end
end Go.Proofs.Ytbacphifmbjooaa
