/- Several texts in one: ParBk, ParSg. -/
import Derived.Test.YtlhofjhkiollgaaGreatDoorGQ
import Derived.Test.YtlhofjhkiollgaaGreatDoorGO
namespace Go.Proofs.YtlhofjhkiollgaaGreatDoor
/- Plain mathematics: what a text says, by the tokens that write it; an expression's own text says it. No program stands in this text. -/
section

theorem says_chk {l : List UInt8} {e : Ex} (h : Says l (.ok e)) : chkB e = true := by
  rcases h with ⟨_, h⟩ | ⟨_, ⟨p, _, h⟩ | ⟨ts, r, _, _, h⟩⟩
  · cases h
  · cases h
  · unfold endR at h
    split at h
    · cases h
    · split at h
      · injection h with h; subst h; assumption
      · cases h
theorem says_err {l : List UInt8} {q : Nat × Nat} (h : Says l (.error q)) : q.2 = 5 ∨ q.2 = 6 ∨ q.2 = 7 := by
  rcases h with ⟨_, h⟩ | ⟨_, ⟨p, _, h⟩ | ⟨ts, r, _, _, h⟩⟩
  · injection h with h; subst h; exact .inr (.inr rfl)
  · injection h with h; subst h; exact .inl rfl
  · unfold endR at h
    split at h
    · injection h with h; subst h; exact .inr (.inl rfl)
    · split at h
      · cases h
      · injection h with h; subst h; exact .inr (.inr rfl)
theorem endT_opH (n : Nat) (q : List Tk) : ∀ k, k < 5 → opH k (endT n :: q) = none := fun _ _ => rfl
theorem says_wr {l : List UInt8} {e : Ex} {ks : List Key} (hl : l.length ≤ 400) (hw : Wr e ks) (hx : Lx l ks) : Says l (if chkB e then .ok e else .error (0, 7)) := by
  obtain ⟨ts, h1, rfl⟩ := hx
  exact .inr ⟨hl, .inr ⟨ts, _, h1, PE.whole (hw.says ts [endT l.length] rfl) (endT_opH _ _), rfl⟩⟩
theorem chk_all {e : Ex} (h : chkB e = true) : allB e = true ∧ nodes e ≤ 128 := by
  unfold chkB at h
  simp only [Bool.and_eq_true, decide_eq_true_eq] at h
  exact ⟨h.2, h.1.1⟩
theorem text_says {e : Ex} (hc : chkB e = true) (hf : fitE e) (hl : (textE e).length ≤ 400) : Says (textE e) (.ok e) := by
  obtain ⟨ks, hw, hx⟩ := tells e (chk_all hc).1 hf
  have := says_wr hl hw hx
  rwa [if_pos hc] at this
end
/- Plain mathematics: minus and not ahead of a name, as many as one likes. No program stands in this text. -/
section

/-- The signs alone; with the name behind; what that says. -/
def sgP : List Bool → List UInt8
  | [] => []
  | b :: l => (if b then [33] else [45, 32]) ++ sgP l
def sgE : List Bool → Ex
  | [] => .mk 4 0 [120] []
  | b :: l => oneE (if b then 6 else 5) (sgE l)
theorem sgP_snoc (l : List Bool) (b : Bool) : sgP (l ++ [b]) = sgP l ++ (if b then [33] else [45, 32]) := by
  induction l with
  | nil => simp [sgP]
  | cons c l ih => rw [List.cons_append, sgP, ih, sgP, List.append_assoc]
theorem sgP_len (l : List Bool) : (sgP l).length ≤ 2 * l.length := by
  induction l with
  | nil => simp [sgP]
  | cons c l ih => rw [sgP, List.length_append, List.length_cons]; cases c <;> simp <;> omega
theorem sgP_head (l : List Bool) : (sgP l ++ [120]).head? ≠ some 61 := by
  cases l with
  | nil => simp [sgP]
  | cons c l => cases c <;> simp [sgP]
theorem name_x : nameB [120] = true := by rw [← nameC_eq]; decide +kernel
theorem sg_lex : ∀ l : List Bool, ∃ ks, Wr (sgE l) ks ∧ Lx (sgP l ++ [120]) ks
  | [] => ⟨_, Wr.name [120] (by decide), Lx.name name_x⟩
  | true :: l => by
    obtain ⟨ks, h1, h2⟩ := sg_lex l
    exact ⟨_, Wr.not h1, by
      have := Lx.sign (c := 33) (by decide) (fun _ => sgP_head l) h2
      simpa [sgP] using this⟩
  | false :: l => by
    obtain ⟨ks, h1, h2⟩ := sg_lex l
    exact ⟨_, Wr.neg h1, by
      have := Lx.sign (c := 45) (by decide) (by intro h; exact absurd h (by decide)) (Lx.blank h2)
      simpa [sgP] using this⟩
theorem sgE_all : ∀ l : List Bool, nodes (sgE l) = l.length + 1 ∧ deepE (sgE l) = l.length + 1 ∧ allB (sgE l) = true
  | [] => by
    refine ⟨by rw [sgE, nodes, nodesL]; rfl, by rw [sgE, deepE, deepL]; rfl, ?_⟩
    rw [sgE, allB, allBL, Bool.and_true]
    rw [partB_4, name_x]; rfl
  | b :: l => by
    obtain ⟨h1, h2, h3⟩ := sgE_all l
    refine ⟨?_, ?_, ?_⟩
    · rw [sgE, oneE, nodes, nodesL, nodesL, h1, List.length_cons]
    · rw [sgE, oneE, deepE, deepL, deepL, h2, List.length_cons]; omega
    · rw [sgE, oneE, allB, allBL, allBL, h3]
      cases b <;> rfl
theorem sgE_chk (l : List Bool) (h : l.length ≤ 20) : chkB (sgE l) = true := by
  obtain ⟨h1, h2, h3⟩ := sgE_all l
  unfold chkB
  rw [h1, h2, h3]
  simp only [Bool.and_true, Bool.and_eq_true, decide_eq_true_eq]
  omega
theorem sg_says (l : List Bool) (h : l.length ≤ 20) : Says (sgP l ++ [120]) (.ok (sgE l)) := by
  obtain ⟨ks, h1, h2⟩ := sg_lex l
  have h3 := sgP_len l
  have := says_wr (by rw [List.length_append, List.length_singleton]; omega) h1 h2
  rwa [if_pos (sgE_chk l h)] at this
end
end Go.Proofs.YtlhofjhkiollgaaGreatDoor
