/- Plain mathematics: a text that is cut between two pieces has the pieces of the whole. No program stands in this text. -/
import Derived.Test.YtbeeeakcjeibgaaDoorPcs
namespace Go.Proofs.YtbeeeakcjeibgaaDoor
open Go.Lib

theorem decodeN_one (n b0 b1 b2 b3 : Nat) (h : b0 < 128) : decodeN n b0 b1 b2 b3 = (b0, 1) := by unfold decodeN; rw [if_pos h]
theorem decodeN_two (n b0 b1 b2 b3 : Nat) (a1 : b0 / 32 = 6) (a2 : 1 < n) (a3 : b1 / 64 = 2) (av : 128 ≤ b0 % 32 * 64 + b1 % 64) : decodeN n b0 b1 b2 b3 = (b0 % 32 * 64 + b1 % 64, 2) := by
  unfold decodeN
  rw [if_neg (by omega), if_pos ⟨a1, a2, a3⟩, if_pos av]
theorem decodeN_three (n b0 b1 b2 b3 : Nat) (a1 : b0 / 16 = 14) (a2 : 2 < n) (a3 : b1 / 64 = 2) (a4 : b2 / 64 = 2) (av : 2048 ≤ b0 % 16 * 4096 + b1 % 64 * 64 + b2 % 64) (as : b0 % 16 * 4096 + b1 % 64 * 64 + b2 % 64 < 55296 ∨ 57344 ≤ b0 % 16 * 4096 + b1 % 64 * 64 + b2 % 64) :
    decodeN n b0 b1 b2 b3 = (b0 % 16 * 4096 + b1 % 64 * 64 + b2 % 64, 3) := by
  unfold decodeN
  rw [if_neg (by omega), if_neg (by omega), if_pos ⟨a1, ⟨by omega, a3⟩, a2, a4⟩, if_pos ⟨av, by omega⟩]
theorem decodeN_four (n b0 b1 b2 b3 : Nat) (a1 : b0 / 8 = 30) (a2 : 3 < n) (a3 : b1 / 64 = 2) (a4 : b2 / 64 = 2) (a5 : b3 / 64 = 2) (av : 65536 ≤ b0 % 8 * 262144 + b1 % 64 * 4096 + b2 % 64 * 64 + b3 % 64) (aw : b0 % 8 * 262144 + b1 % 64 * 4096 + b2 % 64 * 64 + b3 % 64 ≤ 1114111) :
    decodeN n b0 b1 b2 b3 = (b0 % 8 * 262144 + b1 % 64 * 4096 + b2 % 64 * 64 + b3 % 64, 4) := by
  unfold decodeN
  rw [if_neg (by omega), if_neg (by omega), if_neg (by omega), if_pos ⟨a1, ⟨by omega, a3⟩, ⟨by omega, a4⟩, a2, a5⟩, if_pos ⟨av, by omega⟩]

/-- What is decoded hangs on the bytes of the piece alone: of a text that is cut behind it, or goes on otherwise, the same is decoded. -/
theorem decodeN_take (n m j b0 b1 b2 b3 c1 c2 c3 : Nat) (hj : 1 ≤ j) (hm : m = min j n) (h1 : 1 < j → c1 = b1) (h2 : 2 < j → c2 = b2) (h3 : 3 < j → c3 = b3) (hw : (decodeN n b0 b1 b2 b3).2 ≤ j) : decodeN m b0 c1 c2 c3 = decodeN n b0 b1 b2 b3 := by
  rcases decodeN_shape n b0 b1 b2 b3 with ⟨c, e⟩ | ⟨a1, a2, a3, av, e⟩ | ⟨a1, a2, a3, a4, av, as, e⟩ | ⟨a1, a2, a3, a4, a5, av, aw, e⟩ | e
  · rw [e]; exact decodeN_one _ _ _ _ _ c
  · rw [e] at hw ⊢; dsimp only at hw
    have := h1 (by omega); subst this
    exact decodeN_two _ _ _ _ _ a1 (by omega) a3 av
  · rw [e] at hw ⊢; dsimp only at hw
    have := h1 (by omega); subst this
    have := h2 (by omega); subst this
    exact decodeN_three _ _ _ _ _ a1 (by omega) a3 a4 av as
  · rw [e] at hw ⊢; dsimp only at hw
    have := h1 (by omega); subst this
    have := h2 (by omega); subst this
    have := h3 (by omega); subst this
    exact decodeN_four _ _ _ _ _ a1 (by omega) a3 a4 a5 av aw
  · rw [e]
    rcases decodeN_shape m b0 c1 c2 c3 with ⟨c, f⟩ | ⟨a1, a2, a3, av, f⟩ | ⟨a1, a2, a3, a4, av, as, f⟩ | ⟨a1, a2, a3, a4, a5, av, aw, f⟩ | f
    · rw [decodeN_one _ _ _ _ _ c] at e; simp only [Prod.mk.injEq, and_true] at e; omega
    · have := h1 (by omega); subst this
      rw [decodeN_two n b0 c1 b2 b3 a1 (by omega) a3 av] at e; simp only [Prod.mk.injEq] at e; omega
    · have := h1 (by omega); subst this
      have := h2 (by omega); subst this
      rw [decodeN_three n b0 c1 c2 b3 a1 (by omega) a3 a4 av as] at e; simp only [Prod.mk.injEq] at e; omega
    · have := h1 (by omega); subst this
      have := h2 (by omega); subst this
      have := h3 (by omega); subst this
      rw [decodeN_four n b0 c1 c2 c3 a1 (by omega) a3 a4 a5 av aw] at e; simp only [Prod.mk.injEq] at e; omega
    · exact f

theorem getD_take (l : List UInt8) (j k : Nat) (h : k < j) : (l.take j).getD k 0 = l.getD k 0 := by
  simp [List.getD, h]
theorem decodeL_take (l : List UInt8) (j : Nat) (hw : (decodeL l).2 ≤ j) : decodeL (l.take j) = decodeL l := by
  have h1 := decodeL_width l
  rw [decodeL_N] at hw h1
  rw [decodeL_N, decodeL_N, List.length_take, getD_take l j 0 (by omega)]
  exact decodeN_take l.length _ j _ _ _ _ _ _ _ (by omega) rfl (fun h => by rw [getD_take l j 1 h]) (fun h => by rw [getD_take l j 2 h]) (fun h => by rw [getD_take l j 3 h]) hw

theorem flat_prefix (l : List UInt8) (m : Nat) : l.take (flat ((pcs l).take m)).length = flat ((pcs l).take m) := by
  have e : flat ((pcs l).take m) ++ flat ((pcs l).drop m) = l := by rw [← flat_append, List.take_append_drop, flat_pcs]
  generalize flat ((pcs l).take m) = A at e ⊢
  rw [← e, List.take_left]

/-- Some pieces from the beginning on, by themselves, have just these pieces. -/
theorem pcs_take (l : List UInt8) : ∀ m, pcs (flat ((pcs l).take m)) = (pcs l).take m := by
  induction l using pcs_induct with
  | h0 => intro m; simp [pcs_nil, flat_nil]
  | h1 l hne ih =>
    intro m
    cases m with
    | zero => simp [flat_nil, pcs_nil]
    | succ m =>
      have hl : 0 < l.length := List.length_pos_iff.2 hne
      have hw1 := decodeL_width l
      have hw2 := decodeL_le l hne
      have hpre : ∃ k, flat ((pcs (l.drop (decodeL l).2)).take m) = (l.drop (decodeL l).2).take k := ⟨_, (flat_prefix _ m).symm⟩
      obtain ⟨k, hk⟩ := hpre
      have e1 : flat ((pcs l).take (m + 1)) = l.take ((decodeL l).2 + k) := by
        rw [pcs_step l hne, List.take_succ_cons, flat_cons, hk]
        show l.take (decodeL l).2 ++ _ = _
        rw [List.take_add]
      have hd := decodeL_take l ((decodeL l).2 + k) (by omega)
      have hne2 : l.take ((decodeL l).2 + k) ≠ [] := by
        intro h; have := congrArg List.length h; rw [List.length_take] at this; simp only [List.length_nil] at this; omega
      rw [e1, pcs_step _ hne2, hd, List.take_take, Nat.min_eq_left (by omega)]
      rw [show (l.take ((decodeL l).2 + k)).drop (decodeL l).2 = (l.drop (decodeL l).2).take k by rw [List.drop_take, Nat.add_sub_cancel_left]]
      rw [← hk, ih m, pcs_step l hne, List.take_succ_cons]

/-- What is left behind some pieces has the other ones. -/
theorem pcs_drop (l : List UInt8) : ∀ m, pcs (l.drop (flat ((pcs l).take m)).length) = (pcs l).drop m := by
  induction l using pcs_induct with
  | h0 => intro m; simp [pcs_nil]
  | h1 l hne ih =>
    intro m
    cases m with
    | zero => simp [flat_nil]
    | succ m =>
      have hw2 := decodeL_le l hne
      conv => lhs; rw [pcs_step l hne]
      rw [List.take_succ_cons, flat_cons, List.length_append]
      show pcs (l.drop ((l.take (decodeL l).2).length + _)) = _
      rw [List.length_take, Nat.min_eq_left hw2, ← List.drop_drop, ih m, pcs_step l hne, List.drop_succ_cons]

theorem cutL_prefix (l : List UInt8) (m : Nat) : l.take (cutL l m).length = cutL l m := flat_prefix l m
theorem cutL_le (l : List UInt8) (m : Nat) : (cutL l m).length ≤ l.length := by
  have := congrArg List.length (cutL_prefix l m); rw [List.length_take] at this; omega
theorem count_cut (l : List UInt8) (m : Nat) : countL (cutL l m) = min m (countL l) := by
  unfold countL cutL; rw [pcs_take, List.length_take]
theorem count_rest (l : List UInt8) (m : Nat) : countL (l.drop (cutL l m).length) = countL l - m := by
  unfold countL cutL; rw [pcs_drop, List.length_drop]
theorem cut_cut (l : List UInt8) (m : Nat) : cutL (cutL l m) m = cutL l m := by
  unfold cutL; rw [pcs_take, List.take_take, Nat.min_self]
theorem cutL_nil (m : Nat) : cutL [] m = [] := by unfold cutL; simp [pcs_nil, flat_nil]
theorem cutL_zero (l : List UInt8) : cutL l 0 = [] := by unfold cutL; simp [flat_nil]
theorem cutL_succ (l : List UInt8) (hne : l ≠ []) (m : Nat) : cutL l (m + 1) = l.take (decodeL l).2 ++ cutL (l.drop (decodeL l).2) m := by
  unfold cutL; rw [pcs_step l hne, List.take_succ_cons, flat_cons]
end Go.Proofs.YtbeeeakcjeibgaaDoor
