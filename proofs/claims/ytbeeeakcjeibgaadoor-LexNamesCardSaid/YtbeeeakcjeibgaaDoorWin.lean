/- Plain mathematics: where a piece begins may be told from the three bytes ahead of it. No program stands in this text. -/
import Derived.Test.YtbeeeakcjeibgaaDoorCutMath
namespace Go.Proofs.YtbeeeakcjeibgaaDoor
open Go.Lib

/-- The piece that begins at a byte, if one does: its rune, its width. -/
def atF : Nat → List UInt8 → Nat → Option (Nat × Nat)
  | 0, _, _ => none
  | f + 1, l, i => if l = [] then none else if i = 0 then some (decodeL l) else if i < (decodeL l).2 then none else atF f (l.drop (decodeL l).2) (i - (decodeL l).2)
def atL (l : List UInt8) (i : Nat) : Option (Nat × Nat) := atF l.length l i
theorem atF_fuel : ∀ (n m : Nat) (l : List UInt8) (i : Nat), l.length ≤ n → l.length ≤ m → atF n l i = atF m l i
  | 0, 0, _, _, _, _ => rfl
  | 0, m + 1, l, i, hn, _ => by
    have : l = [] := List.eq_nil_of_length_eq_zero (by omega)
    subst this; simp [atF]
  | n + 1, 0, l, i, _, hm => by
    have : l = [] := List.eq_nil_of_length_eq_zero (by omega)
    subst this; simp [atF]
  | n + 1, m + 1, l, i, hn, hm => by
    unfold atF
    by_cases hne : l = []
    · simp [hne]
    · have hw := decodeL_width l
      rw [if_neg hne, if_neg hne, atF_fuel n m (l.drop (decodeL l).2) _ (by rw [List.length_drop]; omega) (by rw [List.length_drop]; omega)]
theorem atL_nil (i : Nat) : atL [] i = none := rfl
theorem atL_step (l : List UInt8) (hne : l ≠ []) (i : Nat) : atL l i = if i = 0 then some (decodeL l) else if i < (decodeL l).2 then none else atL (l.drop (decodeL l).2) (i - (decodeL l).2) := by
  have hl : 0 < l.length := List.length_pos_iff.2 hne
  have hw := decodeL_width l
  obtain ⟨n, hn⟩ : ∃ n, l.length = n + 1 := ⟨l.length - 1, by omega⟩
  unfold atL
  rw [hn]
  show (if l = [] then none else _) = _
  rw [if_neg hne, atF_fuel n (l.drop (decodeL l).2).length _ _ (by rw [List.length_drop]; omega) (Nat.le_refl _)]
theorem atL_zero (l : List UInt8) (hne : l ≠ []) : atL l 0 = some (decodeL l) := by rw [atL_step l hne, if_pos rfl]
theorem atL_out (l : List UInt8) : ∀ i, l.length ≤ i → atL l i = none := by
  induction l using pcs_induct with
  | h0 => intro i _; rfl
  | h1 l hne ih =>
    intro i hi
    have hl : 0 < l.length := List.length_pos_iff.2 hne
    have hw := decodeL_le l hne
    have hw1 := decodeL_width l
    rw [atL_step l hne, if_neg (by omega), if_neg (by omega)]
    exact ih _ (by rw [List.length_drop]; omega)

/-- A byte that goes on a sequence begins none. -/
theorem decodeN_cont (n b0 b1 b2 b3 : Nat) (h : b0 / 64 = 2) : decodeN n b0 b1 b2 b3 = (65533, 1) := by
  rcases decodeN_shape n b0 b1 b2 b3 with ⟨c, e⟩ | ⟨a1, a2, a3, av, e⟩ | ⟨a1, a2, a3, a4, av, as, e⟩ | ⟨a1, a2, a3, a4, a5, av, aw, e⟩ | e
  · omega
  · omega
  · omega
  · omega
  · exact e
theorem inner_cont (l : List UInt8) (k : Nat) (h0 : 0 < k) (hk : k < (decodeL l).2) : (l.getD k 0).toNat / 64 = 2 := by
  rw [decodeL_N] at hk
  rcases decodeN_shape l.length (l.getD 0 0).toNat (l.getD 1 0).toNat (l.getD 2 0).toNat (l.getD 3 0).toNat with ⟨c, e⟩ | ⟨a1, a2, a3, av, e⟩ | ⟨a1, a2, a3, a4, av, as, e⟩ | ⟨a1, a2, a3, a4, a5, av, aw, e⟩ | e
  all_goals rw [e] at hk; dsimp only at hk
  · omega
  · obtain rfl : k = 1 := by omega
    exact a3
  · rcases (by omega : k = 1 ∨ k = 2) with rfl | rfl
    · exact a3
    · exact a4
  · rcases (by omega : k = 1 ∨ k = 2 ∨ k = 3) with rfl | rfl | rfl
    · exact a3
    · exact a4
    · exact a5
  · omega
theorem decodeL_four (l : List UInt8) : (decodeL l).2 ≤ 4 := by
  rw [decodeL_N]
  rcases decodeN_shape l.length (l.getD 0 0).toNat (l.getD 1 0).toNat (l.getD 2 0).toNat (l.getD 3 0).toNat with ⟨c, e⟩ | ⟨a1, a2, a3, av, e⟩ | ⟨a1, a2, a3, a4, av, as, e⟩ | ⟨a1, a2, a3, a4, a5, av, aw, e⟩ | e
  all_goals rw [e]; simp

/-- From within a piece one comes, byte by byte, to the piece's end. -/
theorem inside_steps (l : List UInt8) (hne : l ≠ []) : ∀ (d q i : Nat), 0 < q → q + d = (decodeL l).2 → d ≤ i → atL (l.drop q) i = atL (l.drop (decodeL l).2) (i - d)
  | 0, q, i, _, hd, _ => by rw [show q = (decodeL l).2 by omega, Nat.sub_zero]
  | d + 1, q, i, h0, hd, hi => by
    have hw := decodeL_le l hne
    have hq : l.drop q ≠ [] := by
      intro h; have := congrArg List.length h; rw [List.length_drop] at this; simp only [List.length_nil] at this; omega
    have hb : decodeL (l.drop q) = (65533, 1) := by
      rw [decodeL_N, getD_dropU]
      exact decodeN_cont _ _ _ _ _ (inner_cont l q h0 (by omega))
    rw [atL_step _ hq, hb, if_neg (by omega), if_neg (by dsimp only; omega), List.drop_drop, inside_steps l hne d (q + 1) (i - 1) (by omega) (by omega) (by omega)]
    congr 1; omega

/-- From whatever byte that lies three ahead of a place, or at the beginning, the same is told of that place. -/
theorem at_window (l : List UInt8) : ∀ q i, q + 3 ≤ i → atL (l.drop q) (i - q) = atL l i := by
  induction l using pcs_induct with
  | h0 => intro q i _; rw [List.drop_nil, atL_nil, atL_nil]
  | h1 l hne ih =>
    intro q i hi
    have h4 := decodeL_four l
    have hw1 := decodeL_width l
    by_cases hq0 : q = 0
    · subst hq0; rfl
    · by_cases hq : q < (decodeL l).2
      · rw [inside_steps l hne ((decodeL l).2 - q) q (i - q) (by omega) (by omega) (by omega)]
        rw [atL_step l hne i, if_neg (by omega), if_neg (by omega)]
        congr 1; omega
      · have := ih (q - (decodeL l).2) (i - (decodeL l).2) (by omega)
        rw [List.drop_drop, show (decodeL l).2 + (q - (decodeL l).2) = q by omega, show i - (decodeL l).2 - (q - (decodeL l).2) = i - q by omega] at this
        rw [this, atL_step l hne i, if_neg (by omega), if_neg (by omega)]

theorem decodeN_four_ahead (n m b0 b1 b2 b3 : Nat) (hn : 4 ≤ n) (hm : 4 ≤ m) : decodeN n b0 b1 b2 b3 = decodeN m b0 b1 b2 b3 := by
  rcases decodeN_shape n b0 b1 b2 b3 with ⟨c, e⟩ | ⟨a1, a2, a3, av, e⟩ | ⟨a1, a2, a3, a4, av, as, e⟩ | ⟨a1, a2, a3, a4, a5, av, aw, e⟩ | e
  · rw [e]; exact (decodeN_one _ _ _ _ _ c).symm
  · rw [e]; exact (decodeN_two _ _ _ _ _ a1 (by omega) a3 av).symm
  · rw [e]; exact (decodeN_three _ _ _ _ _ a1 (by omega) a3 a4 av as).symm
  · rw [e]; exact (decodeN_four _ _ _ _ _ a1 (by omega) a3 a4 a5 av aw).symm
  · rw [e]
    rcases decodeN_shape m b0 b1 b2 b3 with ⟨c, f⟩ | ⟨a1, a2, a3, av, f⟩ | ⟨a1, a2, a3, a4, av, as, f⟩ | ⟨a1, a2, a3, a4, a5, av, aw, f⟩ | f
    · rw [decodeN_one _ _ _ _ _ c] at e; rw [f]; exact e.symm
    · rw [decodeN_two n _ _ _ _ a1 (by omega) a3 av] at e; rw [f]; exact e.symm
    · rw [decodeN_three n _ _ _ _ a1 (by omega) a3 a4 av as] at e; rw [f]; exact e.symm
    · rw [decodeN_four n _ _ _ _ a1 (by omega) a3 a4 a5 av aw] at e; rw [f]; exact e.symm
    · exact f.symm
/-- Of a text that is cut four bytes behind a place, or further, the same is decoded there. -/
theorem decodeL_ahead (l : List UInt8) (j : Nat) (h : 4 ≤ j) : decodeL (l.take j) = decodeL l := by
  rw [decodeL_N, decodeL_N, List.length_take, getD_take l j 0 (by omega), getD_take l j 1 (by omega), getD_take l j 2 (by omega), getD_take l j 3 (by omega)]
  by_cases hl : l.length ≤ j
  · rw [Nat.min_eq_right hl]
  · rw [Nat.min_eq_left (by omega)]; exact decodeN_four_ahead _ _ _ _ _ _ h (by omega)
theorem at_cut (l : List UInt8) : ∀ i j, i + 4 ≤ j → atL (l.take j) i = atL l i := by
  induction l using pcs_induct with
  | h0 => intro i j _; rw [List.take_nil]
  | h1 l hne ih =>
    intro i j hj
    have hl : 0 < l.length := List.length_pos_iff.2 hne
    have hne2 : l.take j ≠ [] := by
      intro h; have := congrArg List.length h; rw [List.length_take] at this; simp only [List.length_nil] at this; omega
    have hd := decodeL_ahead l j (by omega)
    rw [atL_step _ hne2, atL_step l hne, hd]
    by_cases h0 : i = 0
    · rw [if_pos h0, if_pos h0]
    · rw [if_neg h0, if_neg h0]
      by_cases h1 : i < (decodeL l).2
      · rw [if_pos h1, if_pos h1]
      · rw [if_neg h1, if_neg h1, List.drop_take, ih _ _ (by omega)]

/-- The window that runes.At looks at. -/
theorem at_look (l : List UInt8) (i : Nat) (from' end' : Nat) (hf : from' + 3 = i ∨ (from' = 0 ∧ i ≤ 3)) (he : end' = i + 4 ∨ (end' = l.length ∧ l.length ≤ i + 4)) :
    atL ((l.drop from').take (end' - from')) (i - from') = atL l i := by
  have hd : atL (l.drop from') (i - from') = atL l i := by
    rcases hf with hf | ⟨rfl, _⟩
    · exact at_window l from' i (by omega)
    · rfl
  rw [← hd]
  rcases he with rfl | ⟨rfl, _⟩
  · exact at_cut _ _ _ (by omega)
  · rw [List.take_of_length_le (by rw [List.length_drop]; omega)]
end Go.Proofs.YtbeeeakcjeibgaaDoor
