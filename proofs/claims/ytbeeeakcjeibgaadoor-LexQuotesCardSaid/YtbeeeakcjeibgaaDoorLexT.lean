/- Plain mathematics: a text's pieces read one behind the other, what an escape takes in passed by; how far one is. No program stands in this text. -/
import Derived.Test.YtbeeeakcjeibgaaDoorLexE
import Derived.Test.YtbeeeakcjeibgaaDoorVHex
namespace Go.Proofs.YtbeeeakcjeibgaaDoor
open Go.RowKit

/-- m pieces are to be passed by. -/
def Skip (Y : List Pc) (pos next m : Nat) : Prop := m ≤ Y.length ∧ ((m = 0 ∧ next ≤ pos) ∨ (0 < m ∧ next = pos + (flat (Y.take m)).length))
theorem Skip.zero {Y : List Pc} {pos next : Nat} (h : next ≤ pos) : Skip Y pos next 0 := ⟨Nat.zero_le _, .inl ⟨rfl, h⟩⟩
theorem Skip.none {Y : List Pc} {pos next m : Nat} (h : Skip Y pos next m) (hY : ∀ y ∈ Y, Fit y) (hn : ¬ pos < next) : m = 0 := by
  obtain ⟨h1, ⟨h2, _⟩ | ⟨h2, h3⟩⟩ := h
  · exact h2
  · cases Y with
    | nil => simp at h1; omega
    | cons y Y =>
      obtain ⟨k, rfl⟩ : ∃ k, m = k + 1 := ⟨m - 1, by omega⟩
      rw [List.take_succ_cons, flat_cons, List.length_append] at h3
      have := (hY y (by simp)).pos
      omega
theorem Skip.step {y : Pc} {Y : List Pc} {pos next m : Nat} (h : Skip (y :: Y) pos next m) (hn : pos < next) : ∃ k, m = k + 1 ∧ Skip Y (pos + y.2.length) next k := by
  obtain ⟨h1, ⟨h2, h3⟩ | ⟨h2, h3⟩⟩ := h
  · omega
  · refine ⟨m - 1, by omega, ?_⟩
    obtain ⟨k, rfl⟩ : ∃ k, m = k + 1 := ⟨m - 1, by omega⟩
    rw [Nat.add_sub_cancel]
    simp only [List.length_cons] at h1
    rw [List.take_succ_cons, flat_cons, List.length_append] at h3
    refine ⟨by omega, ?_⟩
    cases k with
    | zero =>
      rw [List.take_zero, flat_nil] at h3
      exact .inl ⟨rfl, by simp only [List.length_nil] at h3; omega⟩
    | succ k => exact .inr ⟨by omega, by omega⟩

abbrev TextZ := Option (List Nat × Nat)
def TextGood (Z : TextZ) (C Y : List Pc) (pos next : Nat) (acc : List UInt8) : Prop :=
  ∃ m Rs k, Skip Y pos next m ∧ acc = encs Rs ∧ (∀ r ∈ Rs, Scalar ((r : Nat) : Int)) ∧ Z = textF (Y.drop m) Rs k ∧ k + 1 = C.length + m ∧ (∀ y ∈ C, ¬ bad y) ∧ (∀ y ∈ Y.take m, ¬ bad y)
def TextBad (Z : TextZ) (C : List Pc) : Prop := (∃ y ∈ C, bad y) ∧ Z = none
/-- How far a text is read. -/
def TextAt (t : ByteArray) (P : List Pc) (Z : TextZ) (pos : Nat) (C Y : List Pc) (next : Nat) (acc : List UInt8) : Prop :=
  At t P pos C Y ∧ acc.length ≤ 4 * pos ∧ (TextGood Z C Y pos next acc ∨ TextBad Z C)
section
variable {t : ByteArray} {P : List Pc} {Z : TextZ} {pos next : Nat} {C Y : List Pc} {x : Pc} {acc : List UInt8}
theorem At.fitC (h : At t P pos C Y) (hP : Pcd P) : ∀ y ∈ C, Fit y := fun y hy => hP.fit y (by rw [← h.1]; simp [hy])
theorem At.fitY (h : At t P pos C Y) (hP : Pcd P) : ∀ y ∈ Y, Fit y := fun y hy => hP.fit y (by rw [← h.1]; simp [hy])
theorem TextAt.start {R : List Pc} (h : pcs t.data.toList = x :: R) (hx : x.1 = 34) : TextAt t (x :: R) (textF R [] 0) 0 [] (x :: R) 1 [] := by
  have hP : Pcd (x :: R) := h ▸ Pcd.of _
  refine ⟨At.start t _ h, Nat.le_refl _, .inl ⟨1, [], 0, ⟨by simp, .inr ⟨by decide, ?_⟩⟩, rfl, (fun r hr => by cases hr), rfl, rfl, (fun y hy => by cases hy), ?_⟩⟩
  · rw [List.take_succ_cons, List.take_zero, flat_cons, flat_nil, List.append_nil, hP.head.len (by omega)]
  · intro y hy hb
    simp only [List.take_succ_cons, List.take_zero, List.mem_singleton] at hy
    subst hy
    have := hb.1; omega
/-- One piece further. -/
theorem At.one (h : At t P pos C (x :: Y)) (hP : Pcd P) : At t P (pos + x.2.length) (C ++ [x]) Y := by
  obtain ⟨h1, h2, h3, h4⟩ := h
  have hF : Fit x := hP.fit x (by rw [← h1]; simp)
  have hne : t.data.toList.drop pos ≠ [] := by intro e; rw [e, pcs_nil] at h2; cases h2
  have hw := Lib.decodeL_le _ hne
  have h2' := h2
  rw [pcs_step _ hne] at h2
  injection h2 with h5 h6
  have hxl : x.2.length = (Lib.decodeL (t.data.toList.drop pos)).2 := by
    rw [← h5]; dsimp only; rw [List.length_take, Nat.min_eq_left hw]
  rw [List.length_drop, size_list] at hw
  refine ⟨by rw [List.append_assoc, ← h1]; rfl, ?_, ?_, by omega⟩
  · rw [← h6, List.drop_drop, hxl]
  · rw [flat_append, List.length_append, h3, flat_cons, flat_nil, List.append_nil]
theorem TextAt.skip (h : TextAt t P Z pos C (x :: Y) next acc) (hP : Pcd P) (hn : pos < next) : TextAt t P Z (pos + x.2.length) (C ++ [x]) Y next acc := by
  obtain ⟨hA, hl, h⟩ := h
  refine ⟨hA.one hP, by omega, ?_⟩
  rcases h with ⟨m, Rs, k, h1, h2, h3, h4, h5, h6, h7⟩ | ⟨⟨y, hy, hb⟩, h2⟩
  · obtain ⟨m, rfl, hS⟩ := h1.step hn
    rw [List.take_succ_cons] at h7
    refine .inl ⟨m, Rs, k, hS, h2, h3, h4, by rw [List.length_append, List.length_singleton]; omega, ?_, fun y hy => h7 y (by simp [hy])⟩
    intro y hy
    rcases List.mem_append.1 hy with hy | hy
    · exact h6 y hy
    · simp only [List.mem_singleton] at hy
      subst hy; exact h7 _ (by simp)
  · exact .inr ⟨⟨y, by simp [hy], hb⟩, h2⟩
theorem TextAt.ctrl (h : TextAt t P Z pos C (x :: Y) next acc) (hP : Pcd P) (hn : ¬ pos < next) (hc : Ctrl x.1) : Z = none := by
  obtain ⟨hA, hl, h⟩ := h
  rcases h with ⟨m, Rs, k, h1, h2, h3, h4, h5, h6, h7⟩ | ⟨_, h2⟩
  · obtain rfl := h1.none (hA.fitY hP) hn
    rw [h4, List.drop_zero, textF_cons, if_pos (.inr hc)]
  · exact h2
theorem TextAt.noEsc (h : TextAt t P Z pos C (x :: Y) next acc) (hP : Pcd P) (hn : ¬ pos < next) (hx : x.1 = 92) (he : escF Y = none) : Z = none := by
  obtain ⟨hA, hl, h⟩ := h
  rcases h with ⟨m, Rs, k, h1, h2, h3, h4, h5, h6, h7⟩ | ⟨_, h2⟩
  · obtain rfl := h1.none (hA.fitY hP) hn
    rw [h4, List.drop_zero, textF_cons]
    have n1 : ¬ x.1 = 34 := by omega
    by_cases hbc : bad x ∨ Ctrl x.1
    · rw [if_pos hbc]
    · rw [if_neg hbc, if_neg n1, if_pos hx, he]
  · exact h2
theorem TextAt.esc (h : TextAt t P Z pos C (x :: Y) next acc) (hP : Pcd P) (hn : ¬ pos < next) (hx : x.1 = 92) {r m : Nat} (he : escF Y = some (r, m)) :
    TextAt t P Z (pos + x.2.length) (C ++ [x]) Y (pos + (m + 1)) (acc ++ Lib.encodeRune (r : Int)) := by
  obtain ⟨hA, hl, h⟩ := h
  have hFx : Fit x := hA.fitY hP x (by simp)
  have hFY : ∀ y ∈ Y, Fit y := fun y hy => hA.fitY hP y (by simp [hy])
  have hx1 := hFx.len (by omega)
  obtain ⟨e1, e2, e3, e4, e5⟩ := escF_len he
  have hfl := flat_ascii hFY e2 e3
  have h4 := enc_four r
  refine ⟨hA.one hP, by rw [List.length_append]; omega, ?_⟩
  rcases h with ⟨m0, Rs, k, h1, h2, h3, h4, h5, h6, h7⟩ | ⟨⟨y, hy, hb⟩, h2⟩
  · obtain rfl := h1.none (hA.fitY hP) hn
    refine .inl ⟨m, Rs ++ [r], k + 1 + m, ⟨e2, .inr ⟨e1, by omega⟩⟩, by rw [encs_snoc, h2], ?_, ?_, by rw [List.length_append, List.length_singleton]; omega, ?_, ?_⟩
    · intro q hq
      rcases List.mem_append.1 hq with hq | hq
      · exact h3 q hq
      · simp only [List.mem_singleton] at hq
        subst hq; exact e4
    · rw [h4, List.drop_zero, textF_cons, if_neg, if_neg (by omega), if_pos hx, he]
      rintro (hb | hc)
      · have := hb.1; omega
      · unfold Ctrl at hc; omega
    · intro y hy hb
      rcases List.mem_append.1 hy with hy | hy
      · exact h6 y hy hb
      · simp only [List.mem_singleton] at hy
        subst hy
        have := hb.1; omega
    · intro y hy hb
      have := e3 y hy
      have := hb.1; omega
  · exact .inr ⟨⟨y, by simp [hy], hb⟩, h2⟩
theorem TextAt.plain (h : TextAt t P Z pos C (x :: Y) next acc) (hP : Pcd P) (hn : ¬ pos < next) (h34 : x.1 ≠ 34) (h92 : x.1 ≠ 92) (hc : ¬ Ctrl x.1) :
    TextAt t P Z (pos + x.2.length) (C ++ [x]) Y next (acc ++ Lib.encodeRune (x.1 : Int)) := by
  obtain ⟨hA, hl, h⟩ := h
  have hFx : Fit x := hA.fitY hP x (by simp)
  have h4 := enc_four x.1
  have hp := hFx.pos
  refine ⟨hA.one hP, by rw [List.length_append]; omega, ?_⟩
  rcases h with ⟨m0, Rs, k, h1, h2, h3, h4, h5, h6, h7⟩ | ⟨⟨y, hy, hb⟩, h2⟩
  · obtain rfl := h1.none (hA.fitY hP) hn
    rw [List.drop_zero, textF_cons] at h4
    by_cases hb : bad x
    · rw [if_pos (.inl hb)] at h4
      exact .inr ⟨⟨x, by simp, hb⟩, h4⟩
    · rw [if_neg (fun h => h.elim hb hc), if_neg h34, if_neg h92] at h4
      refine .inl ⟨0, Rs ++ [x.1], k + 1, Skip.zero ?_, by rw [encs_snoc, h2], ?_, by rw [List.drop_zero]; exact h4, by rw [List.length_append, List.length_singleton]; omega, ?_, (fun y hy => by cases hy)⟩
      · omega
      · intro q hq
        rcases List.mem_append.1 hq with hq | hq
        · exact h3 q hq
        · simp only [List.mem_singleton] at hq
          subst hq; exact hFx.sc
      · intro y hy
        rcases List.mem_append.1 hy with hy | hy
        · exact h6 y hy
        · simp only [List.mem_singleton] at hy
          subst hy; exact hb
  · exact .inr ⟨⟨y, by simp [hy], hb⟩, h2⟩
theorem TextAt.over (h : TextAt t P Z pos C [] next acc) : Z = none := by
  obtain ⟨hA, hl, h⟩ := h
  rcases h with ⟨m, Rs, k, h1, h2, h3, h4, h5, h6, h7⟩ | ⟨_, h2⟩
  · rw [h4, List.drop_nil, textF_nil]
  · exact h2
theorem At.part (h : At t P pos C Y) (hP : pcs t.data.toList = P) : (t.extract 0 pos).data.toList = flat C ∧ pos ≤ t.size ∧ Pcd C := by
  have h1 := h.1
  have hpre : C <+: P := ⟨Y, h1⟩
  have := flat_pre hP hpre
  rw [h.2.2.1] at this
  refine ⟨this.2, this.1, ?_⟩
  have hPc : Pcd P := hP ▸ Pcd.of _
  have := hPc.take C.length
  rwa [← h1, List.take_left] at this
theorem TextAt.quote (h : TextAt t P Z pos C (x :: Y) next acc) (hP : pcs t.data.toList = P) (hn : ¬ pos < next) (hx : x.1 = 34) :
    (validL (t.extract 0 pos).data.toList = true ∧ 0 < pos ∧ ∃ Rs k, Z = some (Rs, k) ∧ acc = encs Rs ∧ countL acc = Rs.length ∧ (flat (P.take (k + 2))).length = pos + 1) ∨ (validL (t.extract 0 pos).data.toList = false ∧ 0 < pos ∧ Z = none) := by
  obtain ⟨hA, hl, h⟩ := h
  have hPc : Pcd P := hP ▸ Pcd.of _
  obtain ⟨e1, e2, e3⟩ := hA.part hP
  have hv : validL (t.extract 0 pos).data.toList = C.all (fun y => !decide (bad y)) := by
    unfold validL; rw [e1]; unfold Pcd at e3; rw [e3]
  have hFx : Fit x := hA.fitY hPc x (by simp)
  rw [hv]
  rcases h with ⟨m, Rs, k, h1, h2, h3, h4, h5, h6, h7⟩ | ⟨⟨y, hy, hb⟩, h2⟩
  · obtain rfl := h1.none (hA.fitY hPc) hn
    refine .inl ⟨List.all_eq_true.2 (fun y hy => by simp [h6 y hy]), ?_, Rs, k, ?_, h2, by rw [h2, count_encs Rs h3], ?_⟩
    · have := flat_len (hA.fitC hPc)
      rw [hA.2.2.1] at this; omega
    · rw [h4, List.drop_zero, textF_cons, if_neg, if_pos hx]
      rintro (hb | hc)
      · have := hb.1; omega
      · unfold Ctrl at hc; omega
    · have e : P.take (k + 2) = C ++ [x] := by
        rw [← hA.1, show k + 2 = C.length + 1 by omega, List.take_length_add_append]; rfl
      rw [e, flat_append, List.length_append, hA.2.2.1, flat_cons, flat_nil, List.append_nil, hFx.len (by omega)]
  · refine .inr ⟨List.all_eq_false.2 ⟨y, hy, by simp [hb]⟩, ?_, h2⟩
    have := flat_len (hA.fitC hPc)
    have h3 := List.length_pos_of_mem hy
    rw [hA.2.2.1] at this; omega
end
end Go.Proofs.YtbeeeakcjeibgaaDoor
