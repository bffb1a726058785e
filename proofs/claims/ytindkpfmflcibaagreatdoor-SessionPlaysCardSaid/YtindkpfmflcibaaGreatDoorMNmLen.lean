/- Plain mathematics: a name has at most 24 bytes. -/
import Derived.Test.YtindkpfmflcibaaGreatDoorGG
import Derived.Test.YtindkpfmflcibaaGreatDoorGA
namespace Go.Proofs.YtindkpfmflcibaaGreatDoor
open Go.Lib

theorem tokF_name24 {x : Pc} {R : List Pc} {f : Fd} (h : tokF x R = some f) (hk : f.k = 3) : f.s.length ≤ 24 := by
  unfold tokF at h
  split at h
  · unfold numF at h
    split at h
    · injection h with h; subst h; cases hk
    · cases h
  split at h
  · unfold nameF at h
    split at h
    · injection h with h; subst h; assumption
    · cases h
  split at h
  · unfold textT at h
    split at h
    · cases h
    · split at h
      · injection h with h; subst h; cases hk
      · cases h
  · unfold signF at h
    split at h
    · split at h
      · injection h with h; subst h; cases hk
      · injection h with h; subst h; cases hk
    · cases h
theorem lexR_name24 (n : Nat) : ∀ (R : List Pc) (p : Nat) (ts : List Tk), R.length ≤ n → lexR R p = .ok ts → ∀ t ∈ ts, t.k = 3 → t.s.length ≤ 24 := by
  induction n with
  | zero =>
    intro R p ts hR h
    cases R with
    | nil => rw [lexR] at h; injection h with h; subst h; simp
    | cons x R => simp at hR
  | succ n ih =>
    intro R p ts hR h
    cases R with
    | nil => rw [lexR] at h; injection h with h; subst h; simp
    | cons x R =>
      rw [List.length_cons] at hR
      rw [lexR] at h
      split at h
      · exact ih R _ ts (by omega) h
      · split at h
        · cases h
        · next f hf =>
          cases e : lexR (R.drop f.j) (p + (flat (x :: R.take f.j)).length) with
          | error q => rw [e] at h; simp [ahead] at h
          | ok l =>
            rw [e] at h
            simp only [ahead] at h
            injection h with h
            subst h
            intro t ht hk
            rcases List.mem_append.1 ht with h1 | h1
            · simp at h1
              subst h1
              exact tokF_name24 hf hk
            · exact ih _ _ l (by rw [List.length_drop]; omega) e t h1 hk
theorem nameB_24 {s : List UInt8} (h : nameB s = true) : s.length ≤ 24 := by
  unfold nameB at h
  rw [Bool.and_eq_true] at h
  obtain ⟨-, h⟩ := h
  split at h
  · next t hl =>
    simp only [Bool.and_eq_true, beq_iff_eq] at h
    have := lexR_name24 _ _ _ _ (Nat.le_refl _) hl t (by simp) h.1.1
    rwa [h.1.2] at this
  · cases h
end Go.Proofs.YtindkpfmflcibaaGreatDoor
