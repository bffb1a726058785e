/- Plain mathematics of a table in whose line somebody stands behind whoever was used before: who stands first goes. -/
import Derived.Test.YtlhloahogfnijaaSsQ
namespace Go.Proofs.Ytlhloahogfnijaa

theorem findS_some' {i : Int} {L : List Se} : (findS i L).isSome = true ↔ ∃ s ∈ L, s.id = i := by
  cases h : findS i L with
  | none => simpa using findS_none.1 h
  | some s => simpa using ⟨s, (findS_mem h).1, (findS_mem h).2⟩
theorem findS_ins {x : Se} (i : Int) : ∀ {L : List Se}, (∀ s ∈ L, s.id ≠ x.id) → findS i (insS x L) = if x.id = i then some x else findS i L
  | [], _ => rfl
  | s :: L, h => by
    have hs := h s (.head _)
    unfold insS
    split
    · by_cases e : x.id = i
      · rw [if_pos e]; unfold findS; rw [if_pos e]
      · rw [if_neg e]
        show (if x.id = i then some x else findS i (s :: L)) = _
        rw [if_neg e]
    · show (if s.id = i then some s else findS i (insS x L)) = _
      rw [findS_ins i fun t ht => h t (.tail _ ht)]
      show _ = if x.id = i then some x else if s.id = i then some s else findS i L
      by_cases e : s.id = i
      · rw [if_pos e, if_neg (by omega), if_pos e]
      · rw [if_neg e, if_neg e]
theorem findS_rem {g : Int} (i : Int) : ∀ {L : List Se}, findS i (remS g L) = if i = g then none else findS i L
  | [] => by simp [remS, findS]
  | s :: L => by
    have ih := findS_rem (g := g) i (L := L)
    unfold remS at ih ⊢
    by_cases e : s.id = g
    · rw [List.filter_cons_of_neg (by simp [e]), ih]
      by_cases h : i = g
      · rw [if_pos h, if_pos h]
      · rw [if_neg h, if_neg h]
        show _ = if s.id = i then some s else findS i L
        rw [if_neg (by omega)]
    · rw [List.filter_cons_of_pos (by simp [e])]
      show (if s.id = i then some s else findS i _) = if i = g then none else if s.id = i then some s else findS i L
      rw [ih]
      by_cases h : i = g
      · rw [if_pos h, if_pos h, if_neg (by omega)]
      · rw [if_neg h, if_neg h]
theorem findS_upd {k : Int} {f : Se → Se} (hf : ∀ s, (f s).id = s.id) (i : Int) : ∀ {L : List Se}, findS i (updS k f L) = (findS i L).map fun s => if s.id = k then f s else s
  | [] => rfl
  | s :: L => by
    have ih := findS_upd (k := k) hf i (L := L)
    unfold updS at ih ⊢
    rw [List.map_cons]
    show (if (if s.id = k then f s else s).id = i then some (if s.id = k then f s else s) else findS i _) = (if s.id = i then some s else findS i L).map _
    have e : (if s.id = k then f s else s).id = s.id := by split <;> simp [hf]
    rw [e, ih]
    by_cases h : s.id = i
    · rw [if_pos h, if_pos h]; rfl
    · rw [if_neg h, if_neg h]
/-- Who stands in the line, and behind whom. -/
structure OldI (at_ : Int) (line : List Int) (L : List Se) : Prop where
  len : L.length = line.length
  mem : ∀ i, i ∈ line ↔ (findS i L).isSome = true
  up : line.Pairwise fun a b => usedOf a L < usedOf b L
  hi : ∀ s ∈ L, s.id ≤ at_ ∧ s.used ≤ at_
  in1 : ∀ i ∈ line, 1 ≤ i ∧ i ≤ at_
theorem usedOf_le {at_ : Int} {line : List Int} {L : List Se} (h : OldI at_ line L) {i : Int} (hi : i ∈ line) : usedOf i L ≤ at_ := by
  have := (h.mem i).1 hi
  unfold usedOf
  cases hf : findS i L with
  | none => rw [hf] at this; cases this
  | some s => exact (h.hi s (findS_mem hf).1).2
theorem OldI.start : OldI 0 [] [] := ⟨rfl, fun i => by simp [findS], .nil, by simp, by simp⟩
theorem OldI.fresh {at_ : Int} {line : List Int} {L : List Se} (h : OldI at_ line L) : (∀ s ∈ L, s.id ≠ at_ + 1) ∧ at_ + 1 ∉ line := by
  refine ⟨fun s hs e => ?_, fun hm => ?_⟩
  · have := (h.hi s hs).1; omega
  · have := (h.in1 _ hm).2; omega
/-- One comes, and there is room. -/
theorem OldI.come {at_ : Int} {line : List Int} {L : List Se} (h : OldI at_ line L) (h0 : 0 ≤ at_) : OldI (at_ + 1) (line ++ [at_ + 1]) (insS (newS (at_ + 1)) L) := by
  obtain ⟨hf, hn⟩ := h.fresh
  have hfind := fun i => findS_ins (x := newS (at_ + 1)) i hf
  have hused : ∀ i ∈ line, usedOf i (insS (newS (at_ + 1)) L) = usedOf i L := fun i hi => by
    unfold usedOf
    rw [hfind, if_neg (show ¬ (newS (at_ + 1)).id = i from fun e : at_ + 1 = i => hn (by rw [e]; exact hi))]
  have hnew : usedOf (at_ + 1) (insS (newS (at_ + 1)) L) = at_ + 1 := by
    unfold usedOf
    rw [hfind, if_pos (show (newS (at_ + 1)).id = at_ + 1 from rfl)]; rfl
  refine ⟨by rw [insS_len, List.length_append, h.len]; rfl, fun i => ?_, ?_, fun s hs => ?_, fun i hi => ?_⟩
  · rw [hfind, List.mem_append, List.mem_singleton]
    by_cases e : at_ + 1 = i
    · rw [if_pos (show (newS (at_ + 1)).id = i from e)]; simp [e]
    · rw [if_neg (show ¬ (newS (at_ + 1)).id = i from e), ← h.mem i]
      exact ⟨fun hh => hh.resolve_right (fun e' => e e'.symm), .inl⟩
  · refine List.pairwise_append.2 ⟨?_, by simp, fun a ha b hb => ?_⟩
    · refine (List.pairwise_iff_getElem.2 fun i j hi hj hij => ?_)
      rw [hused _ (List.getElem_mem hi), hused _ (List.getElem_mem hj)]
      exact List.pairwise_iff_getElem.1 h.up i j hi hj hij
    · obtain rfl : b = at_ + 1 := by simpa using hb
      rw [hused a ha, hnew]
      have := usedOf_le h ha; omega
  · rcases insS_mem.1 hs with rfl | hs
    · exact ⟨Int.le_refl _, Int.le_refl _⟩
    · have := h.hi s hs; omega
  · rcases List.mem_append.1 hi with hi | hi
    · have := h.in1 i hi; omega
    · obtain rfl : i = at_ + 1 := by simpa using hi
      omega
/-- Who stands first has been used longest ago. -/
theorem OldI.gone {at_ : Int} {a : Int} {rest : List Int} {L : List Se} (h : OldI at_ (a :: rest) L) (hu : L.Pairwise fun a b => a.id < b.id) : goneS L = a := by
  have hl : 0 < L.length := by rw [h.len]; simp
  obtain ⟨k, hk, hkq, e⟩ := gone_at hl
  rw [e]
  have hm : L[k].id ∈ a :: rest := (h.mem _).2 (findS_some'.2 ⟨L[k], List.getElem_mem hk, rfl⟩)
  rcases List.mem_cons.1 hm with hm | hm
  · exact hm
  · have hlt := (List.pairwise_cons.1 h.up).1 _ hm
    obtain ⟨s, hs, hid⟩ := findS_some'.1 ((h.mem a).1 (.head _))
    obtain ⟨j, hj, rfl⟩ := List.getElem_of_mem hs
    have hmin := qk_min (L := L) (i := L.length - 1) (j := j) (by omega)
    rw [← hkq] at hmin
    have u1 : usedAt L k = L[k].used := by unfold usedAt; rw [List.getElem?_eq_getElem hk]; rfl
    have u2 : usedAt L j = L[j].used := by unfold usedAt; rw [List.getElem?_eq_getElem hj]; rfl
    rw [u1, u2] at hmin
    rw [usedOf_at hu hk, ← hid, usedOf_at hu hj] at hlt
    omega
/-- The first one goes. -/
theorem OldI.go {at_ : Int} {a : Int} {rest : List Int} {L : List Se} (h : OldI at_ (a :: rest) L) (hu : L.Pairwise fun a b => a.id < b.id) : OldI at_ rest (remS a L) := by
  have hfind := fun i => findS_rem (g := a) i (L := L)
  obtain ⟨h1, h2⟩ := List.pairwise_cons.1 h.up
  have hna : a ∉ rest := fun hm => by have := h1 a hm; omega
  have hused : ∀ i ∈ rest, usedOf i (remS a L) = usedOf i L := fun i hi => by
    unfold usedOf
    rw [hfind, if_neg (fun e : i = a => hna (by rw [← e]; exact hi))]
  refine ⟨?_, fun i => ?_, ?_, fun s hs => h.hi s (remS_mem.1 hs).1, fun i hi => h.in1 i (.tail _ hi)⟩
  · have hg := h.gone hu
    have := rem_len hu (by rw [h.len]; simp)
    rw [hg] at this
    rw [this, h.len]; simp
  · rw [hfind]
    by_cases e : i = a
    · rw [if_pos e, e]; simp [hna]
    · rw [if_neg e, ← h.mem i, List.mem_cons]
      exact ⟨.inr, fun hh => hh.resolve_left e⟩
  · refine (List.pairwise_iff_getElem.2 fun i j hi hj hij => ?_)
    rw [hused _ (List.getElem_mem hi), hused _ (List.getElem_mem hj)]
    exact List.pairwise_iff_getElem.1 h2 i j hi hj hij
/-- One of them is used: behind all others it stands then. -/
theorem OldI.use {at_ : Int} {line : List Int} {L : List Se} (h : OldI at_ line L) (h1 : at_ + 1 ≤ 1099511627776) {k : Nat} (hk : k < line.length) :
    (useS line[k] (at_ + 1) L).1 = true ∧ OldI (at_ + 1) (line.take k ++ line.drop (k + 1) ++ [line[k]]) (useS line[k] (at_ + 1) L).2 := by
  obtain ⟨x, hx⟩ : ∃ x, line[k] = x := ⟨_, rfl⟩
  have hxm : x ∈ line := by rw [← hx]; exact List.getElem_mem hk
  have hfind := fun i => findS_upd (k := x) (f := useF (at_ + 1)) (fun _ => rfl) i (L := L)
  have e : line = line.take k ++ x :: line.drop (k + 1) := by rw [← hx, ← List.drop_eq_getElem_cons hk, List.take_append_drop]
  have hup := h.up
  rw [e] at hup
  obtain ⟨p1, p2, p3⟩ := List.pairwise_append.1 hup
  obtain ⟨p4, p5⟩ := List.pairwise_cons.1 p2
  have n1 : x ∉ line.take k := fun hm => by have := p3 x hm x (.head _); omega
  have n2 : x ∉ line.drop (k + 1) := fun hm => by have := p4 x hm; omega
  have hused : ∀ i, i ≠ x → usedOf i (updS x (useF (at_ + 1)) L) = usedOf i L := fun i hi => by
    unfold usedOf
    rw [hfind]
    cases hf : findS i L with
    | none => rfl
    | some s =>
      show (if s.id = x then useF (at_ + 1) s else s).used = s.used
      rw [if_neg (by rw [(findS_mem hf).2]; exact hi)]
  have hnew : usedOf x (updS x (useF (at_ + 1)) L) = at_ + 1 := by
    have hs := (h.mem x).1 hxm
    unfold usedOf
    rw [hfind]
    cases hf : findS x L with
    | none => rw [hf] at hs; cases hs
    | some s =>
      show (if s.id = x then useF (at_ + 1) s else s).used = at_ + 1
      rw [if_pos (findS_mem hf).2]
      have := (h.hi s (findS_mem hf).1).2
      show max s.used (min (at_ + 1) 1099511627776) = at_ + 1
      omega
  rw [hx]
  refine ⟨(h.mem x).1 hxm, ?_, fun i => ?_, ?_, fun t ht => ?_, fun i hi => ?_⟩
  · show (updS _ _ _).length = _
    rw [updS_len, h.len, List.length_append, List.length_append, List.length_take, List.length_drop]
    simp; omega
  · show _ ↔ (findS i (updS x (useF (at_ + 1)) L)).isSome = true
    rw [hfind, Option.isSome_map, ← h.mem i]
    conv => rhs; rw [e]
    simp only [List.mem_append, List.mem_cons, List.not_mem_nil, or_false]
    constructor
    · rintro ((h | h) | h)
      · exact .inl h
      · exact .inr (.inr h)
      · exact .inr (.inl h)
    · rintro (h | h | h)
      · exact .inl (.inl h)
      · exact .inr h
      · exact .inl (.inr h)
  · have keep : ∀ {l : List Int}, x ∉ l → l.Pairwise (fun a b => usedOf a L < usedOf b L) → l.Pairwise fun a b => usedOf a (updS x (useF (at_ + 1)) L) < usedOf b (updS x (useF (at_ + 1)) L) := fun {l} hn hp => by
      refine (List.pairwise_iff_getElem.2 fun i j hi hj hij => ?_)
      rw [hused _ (fun e => hn (by rw [← e]; exact List.getElem_mem hi)), hused _ (fun e => hn (by rw [← e]; exact List.getElem_mem hj))]
      exact List.pairwise_iff_getElem.1 hp i j hi hj hij
    have hp : (line.take k ++ line.drop (k + 1)).Pairwise fun a b => usedOf a L < usedOf b L := List.pairwise_append.2 ⟨p1, p5, fun a ha b hb => p3 a ha b (.tail _ hb)⟩
    have hn : x ∉ line.take k ++ line.drop (k + 1) := fun hm => (List.mem_append.1 hm).elim n1 n2
    refine List.pairwise_append.2 ⟨keep hn hp, by simp, fun a ha b hb => ?_⟩
    obtain rfl : b = x := by simpa using hb
    have hane : a ≠ b := fun e => hn (by rw [← e]; exact ha)
    show usedOf a (updS b _ L) < usedOf b (updS b _ L)
    rw [hused a hane, hnew]
    have hal : a ∈ line := by
      rw [e]
      rcases List.mem_append.1 ha with ha | ha
      · exact List.mem_append.2 (.inl ha)
      · exact List.mem_append.2 (.inr (.tail _ ha))
    have := usedOf_le h hal; omega
  · obtain ⟨s, hs, ⟨_, rfl⟩ | ⟨_, rfl⟩⟩ := updS_mem ht
    · have := h.hi s hs
      refine ⟨by show s.id ≤ _; omega, ?_⟩
      show max s.used (min (at_ + 1) 1099511627776) ≤ at_ + 1
      omega
    · have := h.hi t hs; omega
  · have hil : i ∈ line := by
      rw [e]
      rcases List.mem_append.1 hi with hi | hi
      · rcases List.mem_append.1 hi with hi | hi
        · exact List.mem_append.2 (.inl hi)
        · exact List.mem_append.2 (.inr (.tail _ hi))
      · obtain rfl : i = x := by simpa using hi
        exact List.mem_append.2 (.inr (.head _))
    have := h.in1 i hil; omega
/-- One more comes where there is no room. -/
theorem OldI.next {at_ : Int} {a : Int} {rest : List Int} {L : List Se} {most : Nat} (h : OldI at_ (a :: rest) L) (hu : L.Pairwise fun a b => a.id < b.id) (hl : L.length = most) (h0 : 0 ≤ at_) (h1 : at_ + 1 ≤ 1099511627776) :
    (openS most (at_ + 1) L).1 = (a, true) ∧ OldI (at_ + 1) (rest ++ [at_ + 1]) (openS most (at_ + 1) L).2 := by
  have hm : mayS (at_ + 1) L = true := mayS_iff.2 ⟨⟨by omega, h1⟩, h.fresh.1⟩
  unfold openS
  rw [if_pos hm, if_neg (by omega), h.gone hu]
  exact ⟨rfl, (h.go hu).come h0⟩
/-- One more comes where there is room. -/
theorem OldI.more {at_ : Int} {line : List Int} {L : List Se} {most : Nat} (h : OldI at_ line L) (hl : L.length < most) (h0 : 0 ≤ at_) (h1 : at_ + 1 ≤ 1099511627776) :
    (openS most (at_ + 1) L).1 = (0, true) ∧ OldI (at_ + 1) (line ++ [at_ + 1]) (openS most (at_ + 1) L).2 := by
  have hm : mayS (at_ + 1) L = true := mayS_iff.2 ⟨⟨by omega, h1⟩, h.fresh.1⟩
  unfold openS
  rw [if_pos hm, if_pos hl]
  exact ⟨rfl, h.come h0⟩
end Go.Proofs.Ytlhloahogfnijaa
