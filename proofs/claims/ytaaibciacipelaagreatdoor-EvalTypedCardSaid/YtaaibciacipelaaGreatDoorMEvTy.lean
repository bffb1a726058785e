/- Plain mathematics: what has a type comes to nothing, to what is bad, or to a value of that type. No program stands in this text. -/
import Derived.Test.YtaaibciacipelaaGreatDoorHA
import Derived.Test.YtaaibciacipelaaGreatDoorGT
namespace Go.Proofs.YtaaibciacipelaaGreatDoor

/-- Blank, bad, or of this kind. -/
def Kd (a : Va) (t : Int) : Prop := a.k = 0 ∨ a.k = 4 ∨ a.k = t
theorem kd_wrong (a : Va) (t : Int) : Kd (wrongV a) t := by
  unfold wrongV
  split
  · rename_i h; exact .inr (.inl h)
  · exact .inr (.inl rfl)
theorem kd_want {K : Int} {a f : Va} {t : Int} (h : a.k = K → Kd f t) : Kd (wantV K a f) t := by
  unfold wantV
  split
  · rename_i hk; exact h hk
  · exact kd_wrong a t
theorem kd_num (n : Int) : Kd (numV n) 1 := by
  unfold numV
  split
  · exact .inr (.inr rfl)
  · exact .inr (.inl rfl)
theorem kd_tru (b : Bool) : Kd (truV b) 2 := .inr (.inr rfl)
theorem kd_tex (s : List UInt8) : Kd (texV s) 3 := by
  unfold texV
  split
  · exact .inr (.inl rfl)
  · exact .inr (.inr rfl)
theorem kd_numOp (op a b : Int) : Kd (numOp op a b) 1 := by
  unfold numOp
  repeat' split
  all_goals first | exact kd_num _ | exact .inr (.inl rfl)
theorem kd_cmp (op : Int) (a b : Va) : Kd (cmpV op a b) 2 := by
  unfold cmpV
  repeat' split
  all_goals first | exact kd_want (fun _ => kd_tru _) | exact .inr (.inl rfl) | exact kd_wrong _ _
theorem kd_at {vs : List Va} {ts : List Int} (hl : vs.length = ts.length) (h : ∀ (i : Nat) v t, vs[i]? = some v → ts[i]? = some t → Kd v t) (i : Nat) : Kd (vs.getD i blankV) (ts.getD i 0) := by
  rw [List.getD_eq_getElem?_getD, List.getD_eq_getElem?_getD]
  cases hv : vs[i]? with
  | none => exact .inl rfl
  | some v =>
    have hi := (List.getElem?_eq_some_iff.1 hv).1
    have ht : ts[i]? = some (ts[i]'(by omega)) := List.getElem?_eq_getElem (by omega)
    rw [ht]
    exact h i v _ hv ht
theorem kd_op {op : Int} {vs : List Va} {ts : List Int} (hl : vs.length = ts.length) (h : ∀ (i : Nat) v t, vs[i]? = some v → ts[i]? = some t → Kd v t) (h0 : partT op ts ≠ 0) (h1 : op ≠ 1) (h2 : op ≠ 2) (h3 : op ≠ 3) (h22 : op ≠ 22) : Kd (opV op vs) (partT op ts) := by
  have g1 := kd_at hl h 1
  have g2 := kd_at hl h 2
  unfold partT at h0 ⊢
  unfold opV
  dsimp only at h0 ⊢
  generalize vs.getD 0 blankV = a at *
  generalize vs.getD 1 blankV = b at *
  generalize vs.getD 2 blankV = c at *
  generalize ts.getD 0 0 = x at *
  generalize ts.getD 1 0 = y at *
  generalize ts.getD 2 0 = z at *
  rw [if_neg h1, if_neg h2, if_neg h3] at h0 ⊢
  by_cases c1 : op = 5
  · rw [if_pos c1] at h0 ⊢; rw [if_pos c1]
    split at h0
    · rename_i hx; rw [if_pos hx]; exact kd_want (fun _ => kd_num _)
    · exact absurd rfl h0
  rw [if_neg c1] at h0 ⊢; rw [if_neg c1]
  by_cases c3 : op = 6
  · rw [if_pos c3] at h0 ⊢; rw [if_neg (by omega), if_pos c3]
    split at h0
    · rename_i hx; rw [if_pos hx]; exact kd_want (fun _ => kd_tru _)
    · exact absurd rfl h0
  rw [if_neg c3] at h0
  simp only [if_neg c3]
  by_cases c2 : 7 ≤ op ∧ op ≤ 11
  · rw [if_pos c2] at h0 ⊢; rw [if_pos c2]
    split at h0
    · rename_i hx; rw [if_pos hx]; exact kd_want (fun _ => kd_want (fun _ => kd_numOp _ _ _))
    · exact absurd rfl h0
  rw [if_neg c2] at h0 ⊢; rw [if_neg c2]
  by_cases d1 : op = 12 ∨ op = 13
  · rw [if_pos d1] at h0 ⊢; rw [if_neg (by omega), if_neg (by omega), if_pos (by omega)]
    split at h0
    · rename_i hx; rw [if_pos hx]; exact kd_cmp _ _ _
    · exact absurd rfl h0
  rw [if_neg d1] at h0 ⊢
  by_cases d2 : op = 14 ∨ op = 15
  · rw [if_pos d2] at h0 ⊢; rw [if_neg (by omega), if_neg (by omega), if_pos (by omega)]
    split at h0
    · rename_i hx; rw [if_pos hx]; exact kd_cmp _ _ _
    · exact absurd rfl h0
  rw [if_neg d2] at h0 ⊢
  by_cases c4 : op = 16 ∨ op = 17
  · rw [if_pos c4] at h0 ⊢
    split at h0
    · rename_i hx
      rw [if_pos hx]
      by_cases c5 : op = 16
      · rw [if_pos c5]
        refine kd_want (fun ha => ?_)
        split
        · exact kd_want (fun hb => .inr (.inr hb))
        · exact .inr (.inr ha)
      · rw [if_neg c5, if_pos (by omega)]
        refine kd_want (fun ha => ?_)
        split
        · exact .inr (.inr ha)
        · exact kd_want (fun hb => .inr (.inr hb))
    · exact absurd rfl h0
  rw [if_neg c4] at h0 ⊢; rw [if_neg (by omega), if_neg (by omega), if_neg (by omega)]
  by_cases c7 : op = 18
  · rw [if_pos c7] at h0 ⊢; rw [if_pos c7]
    split at h0
    · rename_i hx
      rw [if_pos hx]
      refine kd_want (fun _ => ?_)
      split
      · exact g1
      · rw [hx.2]; exact g2
    · exact absurd rfl h0
  rw [if_neg c7] at h0 ⊢; rw [if_neg c7]
  by_cases c8 : op = 19
  · rw [if_pos c8] at h0 ⊢; rw [if_pos c8]
    split at h0
    · rename_i hx; rw [if_pos hx]; exact kd_want (fun _ => .inr (.inr rfl))
    · exact absurd rfl h0
  rw [if_neg c8] at h0 ⊢; rw [if_neg c8]
  by_cases c9 : op = 20
  · rw [if_pos c9] at h0 ⊢; rw [if_pos c9]
    split at h0
    · rename_i hx; rw [if_pos hx]; exact kd_want (fun _ => kd_want (fun _ => kd_tex _))
    · exact absurd rfl h0
  rw [if_neg c9] at h0 ⊢; rw [if_neg c9]
  by_cases c10 : op = 21
  · rw [if_pos c10] at h0 ⊢; rw [if_pos c10]
    split at h0
    · rename_i hx; rw [if_pos hx]; exact kd_want (fun _ => kd_want (fun _ => .inr (.inr rfl)))
    · exact absurd rfl h0
  rw [if_neg c10, if_neg h22] at h0 ⊢; rw [if_neg c10]
  by_cases c11 : op = 23
  · rw [if_pos c11] at h0 ⊢; rw [if_pos c11]
    split at h0
    · rename_i hx; rw [if_pos hx]; exact kd_want (fun _ => kd_tex _)
    · exact absurd rfl h0
  rw [if_neg c11] at h0
  exact absurd rfl h0
/-- Values that fit types. -/
def FitA (V : List Va) (Z : List Int) : Prop := ∀ (i : Nat) v z, V[i]? = some v → Z[i]? = some z → v.k = 0 ∨ v.k = z
theorem kd_name (N : List ByteArray) (V : List Va) (Z : List Int) (s : ByteArray) (hF : FitA V Z) (h : findT N Z s ≠ 0) : Kd (nameV N V s) (findT N Z s) := by
  induction N generalizing V Z with
  | nil => rw [findT] at h; exact absurd rfl h
  | cons n ns ih =>
    cases Z with
    | nil => rw [findT] at h; exact absurd rfl h
    | cons z zs =>
      cases V with
      | nil => rw [nameV]; exact .inl rfl
      | cons v vs =>
        rw [findT] at h ⊢
        rw [nameV]
        by_cases hn : n = s
        · rw [if_pos hn] at h ⊢; rw [if_pos hn]
          split at h
          · rename_i hz
            rw [if_pos hz]
            split
            · rcases hF 0 v z rfl rfl with h | h
              · exact .inl h
              · exact .inr (.inr h)
            · exact .inl rfl
          · exact absurd rfl h
        · rw [if_neg hn] at h ⊢; rw [if_neg hn]
          exact ih vs zs (fun i v z hv hz => hF (i + 1) v z (by simpa using hv) (by simpa using hz)) h
mutual
theorem kd_eval (N : List ByteArray) (V : List Va) (Z : List Int) (hF : FitA V Z) : ∀ (e : Ex) (t : Int), typE N Z e = .ok t → Kd (evalE N V e) t
  | .mk op n s ks, t, h => by
    by_cases h4 : op = 4
    · subst h4
      rw [typE_name] at h
      split at h
      · cases h
      · rename_i hf
        injection h with h
        subst h
        rw [evalE, if_neg (by decide), if_neg (by decide), if_neg (by decide), if_pos rfl]
        exact kd_name N V Z _ hF hf
    · rw [typE, if_neg h4] at h
      cases hL : typL N Z ks with
      | error x => rw [hL] at h; cases h
      | ok ts =>
        rw [hL] at h
        dsimp only at h
        split at h
        · cases h
        rename_i h0
        injection h with h
        subst h
        rw [evalE]
        by_cases h1 : op = 1
        · rw [if_pos h1]; subst h1; exact .inr (.inr rfl)
        rw [if_neg h1]
        by_cases h2 : op = 2
        · rw [if_pos h2]; subst h2; exact .inr (.inr rfl)
        rw [if_neg h2]
        by_cases h3 : op = 3
        · rw [if_pos h3]; subst h3; exact .inr (.inr rfl)
        rw [if_neg h3, if_neg h4]
        by_cases h22 : op = 22
        · rw [if_pos h22]; subst h22; exact .inr (.inr rfl)
        rw [if_neg h22]
        obtain ⟨hl, hk⟩ := kd_evalL N V Z hF ks ts hL
        exact kd_op hl hk h0 h1 h2 h3 h22
theorem kd_evalL (N : List ByteArray) (V : List Va) (Z : List Int) (hF : FitA V Z) : ∀ (es : List Ex) (ts : List Int), typL N Z es = .ok ts → (evalL N V es).length = ts.length ∧ ∀ (i : Nat) v t, (evalL N V es)[i]? = some v → ts[i]? = some t → Kd v t
  | [], ts, h => by
    rw [typL] at h
    injection h with h
    subst h
    rw [evalL]
    exact ⟨rfl, fun i v t hv => by simp at hv⟩
  | e :: es, ts, h => by
    rw [typL] at h
    cases he : typE N Z e with
    | error x => rw [he] at h; cases h
    | ok t0 =>
      rw [he] at h
      dsimp only at h
      cases hs : typL N Z es with
      | error x => rw [hs] at h; cases h
      | ok us =>
        rw [hs] at h
        injection h with h
        subst h
        obtain ⟨hl, hk⟩ := kd_evalL N V Z hF es us hs
        have h0 := kd_eval N V Z hF e t0 he
        rw [evalL]
        refine ⟨by simp [hl], fun i v t hv ht => ?_⟩
        cases i with
        | zero => simp at hv ht; subst hv; subst ht; exact h0
        | succ i => exact hk i v t (by simpa using hv) (by simpa using ht)
end
end Go.Proofs.YtaaibciacipelaaGreatDoor
