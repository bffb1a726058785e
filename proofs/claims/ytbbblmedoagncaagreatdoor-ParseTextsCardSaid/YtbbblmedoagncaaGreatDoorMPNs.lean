/- Texts in rising order, each once: such a list is told by what stands in it. -/
import Derived.Laws.IdiomCopy
import Derived.Lib.SlicesCompact
import Derived.Sort.KeysCollected
namespace Go.Proofs.YtbbblmedoagncaaGreatDoor


theorem bt_tri : ∀ l m : List UInt8, l < m ∨ l = m ∨ m < l
  | [], [] => .inr (.inl rfl)
  | [], b :: m => .inl (List.nil_lt_cons _ _)
  | a :: l, [] => .inr (.inr (List.nil_lt_cons _ _))
  | a :: l, b :: m => by
    rw [List.cons_lt_cons_iff, List.cons_lt_cons_iff]
    rcases Nat.lt_trichotomy a.toNat b.toNat with h | h | h
    · exact .inl (.inl h)
    · obtain rfl := UInt8.toNat_inj.1 h
      rcases bt_tri l m with h | rfl | h
      · exact .inl (.inr ⟨rfl, h⟩)
      · exact .inr (.inl rfl)
      · exact .inr (.inr (.inr ⟨rfl, h⟩))
    · exact .inr (.inr (.inl h))
theorem bt_irr : ∀ l : List UInt8, ¬ l < l
  | [] => List.not_lt_nil _
  | a :: l => by
    rw [List.cons_lt_cons_iff]
    rintro (h | ⟨_, h⟩)
    · exact Nat.lt_irrefl _ (show a.toNat < a.toNat from h)
    · exact bt_irr l h
theorem bt_trans : ∀ {a b c : List UInt8}, a < b → b < c → a < c
  | [], _, [], _, h => absurd h (List.not_lt_nil _)
  | [], _, c :: cs, _, _ => List.nil_lt_cons _ _
  | a :: as_, [], c, h, _ => absurd h (List.not_lt_nil _)
  | a :: as_, b :: bs, [], _, h => absurd h (List.not_lt_nil _)
  | a :: as_, b :: bs, c :: cs, h, k => by
    rw [List.cons_lt_cons_iff] at h k ⊢
    rcases h with h | ⟨rfl, h⟩
    · rcases k with k | ⟨rfl, k⟩
      · exact .inl (show a.toNat < c.toNat from Nat.lt_trans (show a.toNat < b.toNat from h) (show b.toNat < c.toNat from k))
      · exact .inl h
    · rcases k with k | ⟨rfl, k⟩
      · exact .inl k
      · exact .inr ⟨rfl, bt_trans h k⟩
/-- Rising, each once. -/
def Rise (L : List (List UInt8)) : Prop := L.Pairwise (· < ·)
theorem Rise.ext : ∀ {L M : List (List UInt8)}, Rise L → Rise M → (∀ x, x ∈ L ↔ x ∈ M) → L = M
  | [], [], _, _, _ => rfl
  | [], b :: M, _, _, h => by have := (h b).2 (.head _); cases this
  | a :: L, [], _, _, h => by have := (h a).1 (.head _); cases this
  | a :: L, b :: M, hL, hM, h => by
    have hL' := List.pairwise_cons.1 hL
    have hM' := List.pairwise_cons.1 hM
    have hab : a = b := by
      rcases bt_tri a b with hl | e | hl
      · rcases List.mem_cons.1 ((h a).1 (.head _)) with e | e
        · exact e
        · exact absurd (bt_trans hl (hM'.1 a e)) (bt_irr a)
      · exact e
      · rcases List.mem_cons.1 ((h b).2 (.head _)) with e | e
        · exact e.symm
        · exact absurd (bt_trans hl (hL'.1 b e)) (bt_irr b)
    subst hab
    rw [Rise.ext hL'.2 hM'.2 fun x => ?_]
    constructor
    · intro hx
      rcases List.mem_cons.1 ((h x).1 (.tail _ hx)) with e | e
      · rw [e] at hx; exact absurd (hL'.1 _ hx) (bt_irr _)
      · exact e
    · intro hx
      rcases List.mem_cons.1 ((h x).2 (.tail _ hx)) with e | e
      · rw [e] at hx; exact absurd (hM'.1 _ hx) (bt_irr _)
      · exact e
section
variable {α : Type} [Inhabited α] [DecidableEq α]
theorem upto_mem (d : Array α) : ∀ (m : Nat) (x : α), x ∈ Lib.compactUpTo d m ↔ ∃ j, j < m ∧ d[j]! = x
  | 0, x => by simp [Lib.compactUpTo]
  | m + 1, x => by
    rw [Lib.compactUpTo_succ, List.mem_append, upto_mem d m x]
    constructor
    · rintro (⟨j, h1, h2⟩ | h)
      · exact ⟨j, by omega, h2⟩
      · split at h
        · exact ⟨m, by omega, (List.mem_singleton.1 h).symm⟩
        · cases h
    · rintro ⟨j, h1, h2⟩
      by_cases hj : j < m
      · exact .inl ⟨j, hj, h2⟩
      · obtain rfl : j = m := by omega
        by_cases hk : Lib.keeps d j = true
        · exact .inr (by rw [if_pos hk, ← h2]; exact List.mem_singleton.2 rfl)
        · have hk2 : ¬ (j = 0 ∨ d[j]! ≠ d[j - 1]!) := fun h => hk (decide_eq_true h)
          have h0 : j ≠ 0 := fun e => hk2 (.inl e)
          have he : d[j]! = d[j - 1]! := Classical.byContradiction fun h => hk2 (.inr h)
          exact .inl ⟨j - 1, by omega, he.symm.trans h2⟩
theorem compact_mem (zs : List α) (x : α) : x ∈ Lib.compact zs ↔ x ∈ zs := by
  unfold Lib.compact
  rw [upto_mem]
  constructor
  · rintro ⟨j, h1, rfl⟩
    rw [getElem!_pos zs.toArray j (by simpa using h1)]
    simp
  · intro h
    obtain ⟨j, h1, rfl⟩ := List.mem_iff_getElem.1 h
    exact ⟨j, h1, by rw [getElem!_pos zs.toArray j (by simpa using h1)]; simp⟩
end
theorem upto_rise (d : Array (List UInt8)) (hd : ∀ i j, i ≤ j → j < d.size → d[i]! < d[j]! ∨ d[i]! = d[j]!) : ∀ m, m ≤ d.size → Rise (Lib.compactUpTo d m)
  | 0, _ => by simp [Lib.compactUpTo, Rise]
  | m + 1, h => by
    unfold Rise
    rw [Lib.compactUpTo_succ, List.pairwise_append]
    refine ⟨upto_rise d hd m (by omega), by split <;> simp, fun x hx y hy => ?_⟩
    split at hy
    · rename_i hk
      rw [List.mem_singleton.1 hy]
      obtain ⟨j, hj, rfl⟩ := (upto_mem d m x).1 hx
      have hk2 : m = 0 ∨ d[m]! ≠ d[m - 1]! := of_decide_eq_true hk
      have hne : d[m]! ≠ d[m - 1]! := hk2.resolve_left (by omega)
      have hlt : d[m - 1]! < d[m]! := (hd (m - 1) m (by omega) (by omega)).resolve_right fun e => hne e.symm
      rcases hd j (m - 1) (by omega) (by omega) with h1 | h1
      · exact bt_trans h1 hlt
      · rw [h1]; exact hlt
    · cases hy
/-- Sorted, and each once. -/
theorem sorted_rise (zs : List (List UInt8)) : Rise (Lib.compact (zs.mergeSort fun x y => decide (x ≤ y))) := by
  have hle : ∀ a b : List UInt8, decide (a ≤ b) = true ↔ a < b ∨ a = b := fun a b => by
    rw [decide_eq_true_iff]
    constructor
    · intro h
      rcases bt_tri a b with h1 | h1 | h1
      · exact .inl h1
      · exact .inr h1
      · exact absurd h1 (by simpa using h)
    · intro h
      show ¬ b < a
      rcases h with h | rfl
      · exact fun k => bt_irr _ (bt_trans h k)
      · exact bt_irr _
  have hp : (zs.mergeSort fun x y => decide (x ≤ y)).Pairwise fun a b => decide (a ≤ b) = true := by
    refine List.pairwise_mergeSort (fun a b c h1 h2 => ?_) (fun a b => ?_) zs
    · rw [hle] at h1 h2 ⊢
      rcases h1 with h1 | rfl
      · rcases h2 with h2 | rfl
        · exact .inl (bt_trans h1 h2)
        · exact .inl h1
      · exact h2
    · rw [Bool.or_eq_true, hle, hle]
      rcases bt_tri a b with h | h | h
      · exact .inl (.inl h)
      · exact .inl (.inr h)
      · exact .inr (.inl h)
  generalize (zs.mergeSort fun x y => decide (x ≤ y)) = ms at hp
  refine upto_rise ms.toArray (fun i j hij hj => ?_) _ (by simp)
  have hj2 : j < ms.length := by simpa using hj
  rw [getElem!_pos ms.toArray i (by simp; omega), getElem!_pos ms.toArray j hj]
  simp only [List.getElem_toArray]
  by_cases e : i = j
  · subst e; exact .inr rfl
  · exact (hle _ _).1 (List.pairwise_iff_getElem.1 hp i j (by omega) hj2 (by omega))
theorem sorted_mem (zs : List (List UInt8)) (x : List UInt8) : x ∈ Lib.compact (zs.mergeSort fun x y => decide (x ≤ y)) ↔ x ∈ zs := by
  rw [compact_mem, List.mem_mergeSort]
/-- Texts in rising order, each once. -/
def RiseB (L : List ByteArray) : Prop := Rise (L.map fun s => s.data.toList)
end Go.Proofs.YtbbblmedoagncaaGreatDoor
