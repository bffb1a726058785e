/- Plain mathematics of a table in which some are opened one behind the other. -/
import Derived.Test.YtlhloahogfnijaaDoorMSsM
namespace Go.Proofs.YtlhloahogfnijaaDoor

theorem findS_some {i : Int} {L : List Se} : (findS i L).isSome = true ↔ ∃ s ∈ L, s.id = i := by
  cases h : findS i L with
  | none => simpa using findS_none.1 h
  | some s => simpa using ⟨s, (findS_mem h).1, (findS_mem h).2⟩
/-- All of some are opened. -/
def oT (Z : List Int) : List Se := Z.foldl (fun L i => (openS 64 i L).2) []
theorem oT_snoc (Z : List Int) (i : Int) : oT (Z ++ [i]) = (openS 64 i (oT Z)).2 := by unfold oT; rw [List.foldl_append]; rfl
theorem oT_take {Z : List Int} {k : Nat} {x : Int} (h : Z[k]? = some x) : oT (Z.take (k + 1)) = (openS 64 x (oT (Z.take k))).2 := by
  rw [List.take_add_one, h]; exact oT_snoc _ _
structure NoneI (k : Nat) (Z : List Int) (L : List Se) : Prop where
  len : L.length ≤ k
  new : ∀ s ∈ L, s = newS s.id
  has : ∀ i, (findS i L).isSome = true ↔ (i ∈ Z ∧ 1 ≤ i ∧ i ≤ 1099511627776)
theorem NoneI.start : NoneI 0 [] [] := ⟨Nat.le_refl _, by simp, fun i => by simp [findS]⟩
theorem NoneI.step {k : Nat} {Z : List Int} {L : List Se} (h : NoneI k Z L) (hk : k < 64) (x : Int) : NoneI (k + 1) (Z ++ [x]) (openS 64 x L).2 := by
  have hl := h.len
  unfold openS
  by_cases hm : mayS x L = true
  · rw [if_pos hm, if_pos (by omega)]
    obtain ⟨hx, hn⟩ := mayS_iff.1 hm
    refine ⟨by rw [insS_len]; omega, fun s hs => ?_, fun i => ?_⟩
    · rcases insS_mem.1 hs with rfl | hs
      · rfl
      · exact h.new s hs
    · rw [findS_some]
      constructor
      · rintro ⟨s, hs, rfl⟩
        rcases insS_mem.1 hs with rfl | hs
        · exact ⟨List.mem_append.2 (.inr (.head _)), hx⟩
        · obtain ⟨a, b⟩ := (h.has s.id).1 (findS_some.2 ⟨s, hs, rfl⟩)
          exact ⟨List.mem_append.2 (.inl a), b⟩
      · rintro ⟨hi, b⟩
        rcases List.mem_append.1 hi with hi | hi
        · obtain ⟨s, hs, e⟩ := findS_some.1 ((h.has i).2 ⟨hi, b⟩)
          exact ⟨s, insS_mem.2 (.inr hs), e⟩
        · obtain rfl : i = x := by simpa using hi
          exact ⟨newS i, insS_mem.2 (.inl rfl), rfl⟩
  · rw [if_neg hm]
    refine ⟨Nat.le_succ_of_le h.len, h.new, fun i => ⟨fun hi => ?_, fun ⟨hi, b⟩ => ?_⟩⟩
    · obtain ⟨a, b⟩ := (h.has i).1 hi
      exact ⟨List.mem_append.2 (.inl a), b⟩
    · rcases List.mem_append.1 hi with hi | hi
      · exact (h.has i).2 ⟨hi, b⟩
      · obtain rfl : i = x := by simpa using hi
        by_cases hf : (findS i L).isSome = true
        · exact hf
        · exact absurd (mayS_iff.2 ⟨b, findS_none.1 (by simpa using hf)⟩) hm
theorem NoneI.all (Z : List Int) : ∀ k, k ≤ 60 → k ≤ Z.length → NoneI k (Z.take k) (oT (Z.take k))
  | 0, _, _ => by simpa [oT] using NoneI.start
  | k + 1, h1, h2 => by
    have hx : Z[k]? = some (Z[k]'(by omega)) := List.getElem?_eq_getElem (by omega)
    have := (NoneI.all Z k (by omega) (by omega)).step (by omega) (Z[k]'(by omega))
    rw [oT_take hx, List.take_add_one, hx]
    exact this
end Go.Proofs.YtlhloahogfnijaaDoor
