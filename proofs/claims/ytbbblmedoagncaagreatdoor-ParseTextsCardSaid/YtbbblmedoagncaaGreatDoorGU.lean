/- Plain mathematics: what a text says, by the tokens that write it; an expression's own text says it. No program stands in this text. -/
import Derived.Test.YtbbblmedoagncaaGreatDoorGQ
namespace Go.Proofs.YtbbblmedoagncaaGreatDoor

theorem says_chk {l : List UInt8} {e : Ex} (h : Says l (.ok e)) : chkB e = true := by
  rcases h with ⟨_, h⟩ | ⟨_, ⟨p, _, h⟩ | ⟨ts, r, _, _, h⟩⟩
  · cases h
  · cases h
  · unfold endR at h
    split at h
    · cases h
    · split at h
      · injection h with h; subst h; assumption
      · cases h
theorem says_err {l : List UInt8} {q : Nat × Nat} (h : Says l (.error q)) : q.2 = 5 ∨ q.2 = 6 ∨ q.2 = 7 := by
  rcases h with ⟨_, h⟩ | ⟨_, ⟨p, _, h⟩ | ⟨ts, r, _, _, h⟩⟩
  · injection h with h; subst h; exact .inr (.inr rfl)
  · injection h with h; subst h; exact .inl rfl
  · unfold endR at h
    split at h
    · injection h with h; subst h; exact .inr (.inl rfl)
    · split at h
      · cases h
      · injection h with h; subst h; exact .inr (.inr rfl)
theorem endT_opH (n : Nat) (q : List Tk) : ∀ k, k < 5 → opH k (endT n :: q) = none := fun _ _ => rfl
theorem says_wr {l : List UInt8} {e : Ex} {ks : List Key} (hl : l.length ≤ 400) (hw : Wr e ks) (hx : Lx l ks) : Says l (if chkB e then .ok e else .error (0, 7)) := by
  obtain ⟨ts, h1, rfl⟩ := hx
  exact .inr ⟨hl, .inr ⟨ts, _, h1, PE.whole (hw.says ts [endT l.length] rfl) (endT_opH _ _), rfl⟩⟩
theorem chk_all {e : Ex} (h : chkB e = true) : allB e = true ∧ nodes e ≤ 128 := by
  unfold chkB at h
  simp only [Bool.and_eq_true, decide_eq_true_eq] at h
  exact ⟨h.2, h.1.1⟩
theorem text_says {e : Ex} (hc : chkB e = true) (hf : fitE e) (hl : (textE e).length ≤ 400) : Says (textE e) (.ok e) := by
  obtain ⟨ks, hw, hx⟩ := tells e (chk_all hc).1 hf
  have := says_wr hl hw hx
  rwa [if_pos hc] at this
end Go.Proofs.YtbbblmedoagncaaGreatDoor
