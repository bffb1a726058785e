/- Several texts in one: Pcs, CutMath, VText, VShow, Win, Cls, LexP. -/
import Derived.Lib.TrimUEq
import Derived.Lib.MapLaws
import Derived.Lib.ValidLaws
import Derived.Lib.RuneBytes
import Derived.Lib.RuneCount
import Derived.Lib.ItoaNum
import Derived.Lib.ParseIntB
namespace Go.Proofs.YtindkpfmflcibaaGreatDoor
/- Plain mathematics: a text's pieces, as the model's own decoding finds them, and what follows of cutting, turning round, folding. No program stands in this text. -/
section
open Go.Lib

/-- A piece: its rune, its bytes. -/
abbrev Pc := Nat × List UInt8
def pcsF : Nat → List UInt8 → List Pc
  | 0, _ => []
  | f + 1, l => if l = [] then [] else ((decodeL l).1, l.take (decodeL l).2) :: pcsF f (l.drop (decodeL l).2)
def pcs (l : List UInt8) : List Pc := pcsF l.length l

theorem pcsF_fuel : ∀ (n m : Nat) (l : List UInt8), l.length ≤ n → l.length ≤ m → pcsF n l = pcsF m l
  | 0, 0, _, _, _ => rfl
  | 0, m + 1, l, hn, _ => by
    have : l = [] := List.eq_nil_of_length_eq_zero (by omega)
    subst this; simp [pcsF]
  | n + 1, 0, l, _, hm => by
    have : l = [] := List.eq_nil_of_length_eq_zero (by omega)
    subst this; simp [pcsF]
  | n + 1, m + 1, l, hn, hm => by
    unfold pcsF
    by_cases hne : l = []
    · simp [hne]
    · have hw := decodeL_width l
      rw [if_neg hne, if_neg hne, pcsF_fuel n m (l.drop (decodeL l).2) (by rw [List.length_drop]; omega) (by rw [List.length_drop]; omega)]
theorem pcs_nil : pcs [] = [] := rfl
theorem pcs_step (l : List UInt8) (hne : l ≠ []) : pcs l = ((decodeL l).1, l.take (decodeL l).2) :: pcs (l.drop (decodeL l).2) := by
  have hl : 0 < l.length := List.length_pos_iff.2 hne
  have hw := decodeL_width l
  obtain ⟨n, hn⟩ : ∃ n, l.length = n + 1 := ⟨l.length - 1, by omega⟩
  unfold pcs
  rw [hn]
  show (if l = [] then [] else _) = _
  rw [if_neg hne, pcsF_fuel n (l.drop (decodeL l).2).length _ (by rw [List.length_drop]; omega) (Nat.le_refl _)]

/-- Going through a text from its beginning: an induction. -/
theorem pcs_induct {Q : List UInt8 → Prop} (h0 : Q []) (h1 : ∀ l, l ≠ [] → Q (l.drop (decodeL l).2) → Q l) (l : List UInt8) : Q l := by
  obtain ⟨n, hn⟩ : ∃ n, l.length ≤ n := ⟨_, Nat.le_refl _⟩
  induction n generalizing l with
  | zero =>
    have : l = [] := List.eq_nil_of_length_eq_zero (by omega)
    subst this; exact h0
  | succ n ih =>
    by_cases hne : l = []
    · subst hne; exact h0
    · have hw := decodeL_width l
      have hl : 0 < l.length := List.length_pos_iff.2 hne
      exact h1 l hne (ih _ (by rw [List.length_drop]; omega))

/-- All bytes of some pieces, one behind the other. -/
def flat (p : List Pc) : List UInt8 := p.flatMap (·.2)
theorem flat_nil : flat [] = [] := rfl
theorem flat_cons (x : Pc) (p : List Pc) : flat (x :: p) = x.2 ++ flat p := by simp [flat]
theorem flat_append (p q : List Pc) : flat (p ++ q) = flat p ++ flat q := by simp [flat]
theorem flat_pcs (l : List UInt8) : flat (pcs l) = l := by
  induction l using pcs_induct with
  | h0 => rfl
  | h1 l hne ih => rw [pcs_step l hne, flat_cons, ih]; exact List.take_append_drop _ _

/-- A piece is a byte that is none. -/
def bad (x : Pc) : Prop := x.1 = 65533 ∧ x.2.length = 1
instance (x : Pc) : Decidable (bad x) := by unfold bad; infer_instance

def runesL (l : List UInt8) : List Nat := (pcs l).map (·.1)
def countL (l : List UInt8) : Nat := (pcs l).length
def cutL (l : List UInt8) (n : Nat) : List UInt8 := flat ((pcs l).take n)
def backL (l : List UInt8) : List UInt8 := flat (pcs l).reverse

theorem runeCount_pcs (s : ByteArray) : ∀ (f pos : Nat), s.size ≤ pos + f → runeCountFrom s f pos = (pcs (s.data.toList.drop pos)).length
  | 0, pos, h => by
    have : s.data.toList.drop pos = [] := List.drop_eq_nil_of_le (by rw [Array.length_toList]; exact h)
    rw [this]; rfl
  | f + 1, pos, h => by
    unfold runeCountFrom
    by_cases hp : pos < s.size
    · have hne : s.data.toList.drop pos ≠ [] := by
        intro e; have := congrArg List.length e; rw [List.length_drop, Array.length_toList] at this
        have : s.size = s.data.size := rfl
        simp at *; omega
      have hw := width_pos s pos
      rw [if_pos hp, pcs_step _ hne, decodeL_drop, List.drop_drop, runeCount_pcs s f _ (by omega)]
      simp; omega
    · have : s.data.toList.drop pos = [] := List.drop_eq_nil_of_le (by rw [Array.length_toList]; show s.size ≤ pos; omega)
      rw [if_neg hp, this]; rfl
theorem runeCount_eq (s : ByteArray) : runeCount s = countL s.data.toList := by
  have := runeCount_pcs s s.size 0 (by omega)
  simpa [runeCount, countL] using this
end
/- Plain mathematics: a text that is cut between two pieces has the pieces of the whole. No program stands in this text. -/
section
open Go.Lib

theorem decodeN_one (n b0 b1 b2 b3 : Nat) (h : b0 < 128) : decodeN n b0 b1 b2 b3 = (b0, 1) := by unfold decodeN; rw [if_pos h]
theorem decodeN_two (n b0 b1 b2 b3 : Nat) (a1 : b0 / 32 = 6) (a2 : 1 < n) (a3 : b1 / 64 = 2) (av : 128 ≤ b0 % 32 * 64 + b1 % 64) : decodeN n b0 b1 b2 b3 = (b0 % 32 * 64 + b1 % 64, 2) := by
  unfold decodeN
  rw [if_neg (by omega), if_pos ⟨a1, a2, a3⟩, if_pos av]
theorem decodeN_three (n b0 b1 b2 b3 : Nat) (a1 : b0 / 16 = 14) (a2 : 2 < n) (a3 : b1 / 64 = 2) (a4 : b2 / 64 = 2) (av : 2048 ≤ b0 % 16 * 4096 + b1 % 64 * 64 + b2 % 64) (as : b0 % 16 * 4096 + b1 % 64 * 64 + b2 % 64 < 55296 ∨ 57344 ≤ b0 % 16 * 4096 + b1 % 64 * 64 + b2 % 64) :
    decodeN n b0 b1 b2 b3 = (b0 % 16 * 4096 + b1 % 64 * 64 + b2 % 64, 3) := by
  unfold decodeN
  rw [if_neg (by omega), if_neg (by omega), if_pos ⟨a1, ⟨by omega, a3⟩, a2, a4⟩, if_pos ⟨av, by omega⟩]
theorem decodeN_four (n b0 b1 b2 b3 : Nat) (a1 : b0 / 8 = 30) (a2 : 3 < n) (a3 : b1 / 64 = 2) (a4 : b2 / 64 = 2) (a5 : b3 / 64 = 2) (av : 65536 ≤ b0 % 8 * 262144 + b1 % 64 * 4096 + b2 % 64 * 64 + b3 % 64) (aw : b0 % 8 * 262144 + b1 % 64 * 4096 + b2 % 64 * 64 + b3 % 64 ≤ 1114111) :
    decodeN n b0 b1 b2 b3 = (b0 % 8 * 262144 + b1 % 64 * 4096 + b2 % 64 * 64 + b3 % 64, 4) := by
  unfold decodeN
  rw [if_neg (by omega), if_neg (by omega), if_neg (by omega), if_pos ⟨a1, ⟨by omega, a3⟩, ⟨by omega, a4⟩, a2, a5⟩, if_pos ⟨av, by omega⟩]

/-- What is decoded hangs on the bytes of the piece alone: of a text that is cut behind it, or goes on otherwise, the same is decoded. -/
theorem decodeN_take (n m j b0 b1 b2 b3 c1 c2 c3 : Nat) (hj : 1 ≤ j) (hm : m = min j n) (h1 : 1 < j → c1 = b1) (h2 : 2 < j → c2 = b2) (h3 : 3 < j → c3 = b3) (hw : (decodeN n b0 b1 b2 b3).2 ≤ j) : decodeN m b0 c1 c2 c3 = decodeN n b0 b1 b2 b3 := by
  rcases decodeN_shape n b0 b1 b2 b3 with ⟨c, e⟩ | ⟨a1, a2, a3, av, e⟩ | ⟨a1, a2, a3, a4, av, as, e⟩ | ⟨a1, a2, a3, a4, a5, av, aw, e⟩ | e
  · rw [e]; exact decodeN_one _ _ _ _ _ c
  · rw [e] at hw ⊢; dsimp only at hw
    have := h1 (by omega); subst this
    exact decodeN_two _ _ _ _ _ a1 (by omega) a3 av
  · rw [e] at hw ⊢; dsimp only at hw
    have := h1 (by omega); subst this
    have := h2 (by omega); subst this
    exact decodeN_three _ _ _ _ _ a1 (by omega) a3 a4 av as
  · rw [e] at hw ⊢; dsimp only at hw
    have := h1 (by omega); subst this
    have := h2 (by omega); subst this
    have := h3 (by omega); subst this
    exact decodeN_four _ _ _ _ _ a1 (by omega) a3 a4 a5 av aw
  · rw [e]
    rcases decodeN_shape m b0 c1 c2 c3 with ⟨c, f⟩ | ⟨a1, a2, a3, av, f⟩ | ⟨a1, a2, a3, a4, av, as, f⟩ | ⟨a1, a2, a3, a4, a5, av, aw, f⟩ | f
    · rw [decodeN_one _ _ _ _ _ c] at e; simp only [Prod.mk.injEq, and_true] at e; omega
    · have := h1 (by omega); subst this
      rw [decodeN_two n b0 c1 b2 b3 a1 (by omega) a3 av] at e; simp only [Prod.mk.injEq] at e; omega
    · have := h1 (by omega); subst this
      have := h2 (by omega); subst this
      rw [decodeN_three n b0 c1 c2 b3 a1 (by omega) a3 a4 av as] at e; simp only [Prod.mk.injEq] at e; omega
    · have := h1 (by omega); subst this
      have := h2 (by omega); subst this
      have := h3 (by omega); subst this
      rw [decodeN_four n b0 c1 c2 c3 a1 (by omega) a3 a4 a5 av aw] at e; simp only [Prod.mk.injEq] at e; omega
    · exact f

theorem getD_take (l : List UInt8) (j k : Nat) (h : k < j) : (l.take j).getD k 0 = l.getD k 0 := by
  simp [List.getD, h]
theorem decodeL_take (l : List UInt8) (j : Nat) (hw : (decodeL l).2 ≤ j) : decodeL (l.take j) = decodeL l := by
  have h1 := decodeL_width l
  rw [decodeL_N] at hw h1
  rw [decodeL_N, decodeL_N, List.length_take, getD_take l j 0 (by omega)]
  exact decodeN_take l.length _ j _ _ _ _ _ _ _ (by omega) rfl (fun h => by rw [getD_take l j 1 h]) (fun h => by rw [getD_take l j 2 h]) (fun h => by rw [getD_take l j 3 h]) hw

theorem flat_prefix (l : List UInt8) (m : Nat) : l.take (flat ((pcs l).take m)).length = flat ((pcs l).take m) := by
  have e : flat ((pcs l).take m) ++ flat ((pcs l).drop m) = l := by rw [← flat_append, List.take_append_drop, flat_pcs]
  generalize flat ((pcs l).take m) = A at e ⊢
  rw [← e, List.take_left]

/-- Some pieces from the beginning on, by themselves, have just these pieces. -/
theorem pcs_take (l : List UInt8) : ∀ m, pcs (flat ((pcs l).take m)) = (pcs l).take m := by
  induction l using pcs_induct with
  | h0 => intro m; simp [pcs_nil, flat_nil]
  | h1 l hne ih =>
    intro m
    cases m with
    | zero => simp [flat_nil, pcs_nil]
    | succ m =>
      have hl : 0 < l.length := List.length_pos_iff.2 hne
      have hw1 := decodeL_width l
      have hw2 := decodeL_le l hne
      have hpre : ∃ k, flat ((pcs (l.drop (decodeL l).2)).take m) = (l.drop (decodeL l).2).take k := ⟨_, (flat_prefix _ m).symm⟩
      obtain ⟨k, hk⟩ := hpre
      have e1 : flat ((pcs l).take (m + 1)) = l.take ((decodeL l).2 + k) := by
        rw [pcs_step l hne, List.take_succ_cons, flat_cons, hk]
        show l.take (decodeL l).2 ++ _ = _
        rw [List.take_add]
      have hd := decodeL_take l ((decodeL l).2 + k) (by omega)
      have hne2 : l.take ((decodeL l).2 + k) ≠ [] := by
        intro h; have := congrArg List.length h; rw [List.length_take] at this; simp only [List.length_nil] at this; omega
      rw [e1, pcs_step _ hne2, hd, List.take_take, Nat.min_eq_left (by omega)]
      rw [show (l.take ((decodeL l).2 + k)).drop (decodeL l).2 = (l.drop (decodeL l).2).take k by rw [List.drop_take, Nat.add_sub_cancel_left]]
      rw [← hk, ih m, pcs_step l hne, List.take_succ_cons]

/-- What is left behind some pieces has the other ones. -/
theorem pcs_drop (l : List UInt8) : ∀ m, pcs (l.drop (flat ((pcs l).take m)).length) = (pcs l).drop m := by
  induction l using pcs_induct with
  | h0 => intro m; simp [pcs_nil]
  | h1 l hne ih =>
    intro m
    cases m with
    | zero => simp [flat_nil]
    | succ m =>
      have hw2 := decodeL_le l hne
      conv => lhs; rw [pcs_step l hne]
      rw [List.take_succ_cons, flat_cons, List.length_append]
      show pcs (l.drop ((l.take (decodeL l).2).length + _)) = _
      rw [List.length_take, Nat.min_eq_left hw2, ← List.drop_drop, ih m, pcs_step l hne, List.drop_succ_cons]

theorem cutL_prefix (l : List UInt8) (m : Nat) : l.take (cutL l m).length = cutL l m := flat_prefix l m
theorem cutL_le (l : List UInt8) (m : Nat) : (cutL l m).length ≤ l.length := by
  have := congrArg List.length (cutL_prefix l m); rw [List.length_take] at this; omega
theorem count_cut (l : List UInt8) (m : Nat) : countL (cutL l m) = min m (countL l) := by
  unfold countL cutL; rw [pcs_take, List.length_take]
theorem count_rest (l : List UInt8) (m : Nat) : countL (l.drop (cutL l m).length) = countL l - m := by
  unfold countL cutL; rw [pcs_drop, List.length_drop]
theorem cut_cut (l : List UInt8) (m : Nat) : cutL (cutL l m) m = cutL l m := by
  unfold cutL; rw [pcs_take, List.take_take, Nat.min_self]
theorem cutL_nil (m : Nat) : cutL [] m = [] := by unfold cutL; simp [pcs_nil, flat_nil]
theorem cutL_zero (l : List UInt8) : cutL l 0 = [] := by unfold cutL; simp [flat_nil]
theorem cutL_succ (l : List UInt8) (hne : l ≠ []) (m : Nat) : cutL l (m + 1) = l.take (decodeL l).2 ++ cutL (l.drop (decodeL l).2) m := by
  unfold cutL; rw [pcs_step l hne, List.take_succ_cons, flat_cons]
end
/- Plain mathematics: pieces that are runes stand by themselves; the bytes of a rune are one piece; a text whose pieces are all runes. No program stands in this text. -/
section
open Go.Lib

def validL (l : List UInt8) : Bool := (pcs l).all fun x => !decide (bad x)
theorem validD_eq (l : List UInt8) : Lib.validD l = validL l := by
  induction l using pcs_induct with
  | h0 => rfl
  | h1 l hne ih =>
    have hw := Lib.decodeL_le l hne
    unfold validL at ih ⊢
    rw [Lib.validD_step l hne, pcs_step l hne, List.all_cons, ← ih]
    have e : bad ((Lib.decodeL l).1, l.take (Lib.decodeL l).2) ↔ ((Lib.decodeL l).1 = 65533 ∧ (Lib.decodeL l).2 = 1) := by
      unfold bad; simp only [List.length_take, Nat.min_eq_left hw]
    by_cases hb : (Lib.decodeL l).1 = 65533 ∧ (Lib.decodeL l).2 = 1
    · rw [if_pos hb, decide_eq_true (e.2 hb)]; rfl
    · rw [if_neg hb, decide_eq_false (fun h => hb (e.1 h))]; rfl
/-- A piece that is a rune whatever comes behind it. -/
def Solid (x : Pc) : Prop := x.2 ≠ [] ∧ ∀ t, decodeL (x.2 ++ t) = (x.1, x.2.length)
theorem pcs_cons_solid (x : Pc) (t : List UInt8) (h : Solid x) : pcs (x.2 ++ t) = x :: pcs t := by
  have hne : x.2 ++ t ≠ [] := by intro e; exact h.1 (List.append_eq_nil_iff.1 e).1
  rw [pcs_step _ hne, h.2 t, List.take_left, List.drop_left]
theorem pcs_solid : ∀ (P : List Pc), (∀ x ∈ P, Solid x) → pcs (flat P) = P
  | [], _ => rfl
  | x :: P, h => by
    rw [flat_cons, pcs_cons_solid x _ (h x (by simp)), pcs_solid P (fun y hy => h y (by simp [hy]))]

theorem getD_app_left (a t : List UInt8) (k : Nat) (h : k < a.length) : (a ++ t).getD k 0 = a.getD k 0 := by
  simp [List.getD, List.getElem?_append_left h]
theorem solid_of_good (l : List UInt8) (hne : l ≠ []) (hg : ¬ ((decodeL l).1 = 65533 ∧ (decodeL l).2 = 1)) : Solid ((decodeL l).1, l.take (decodeL l).2) := by
  have hw1 := decodeL_width l
  have hw2 := decodeL_le l hne
  have hl : (l.take (decodeL l).2).length = (decodeL l).2 := by rw [List.length_take, Nat.min_eq_left hw2]
  refine ⟨?_, fun t => ?_⟩
  · intro e; have := congrArg List.length e; dsimp only at this; rw [hl] at this; simp only [List.length_nil] at this; omega
  · show decodeL (l.take (decodeL l).2 ++ t) = ((decodeL l).1, (l.take (decodeL l).2).length)
    rw [hl]
    have gd : ∀ k, k < (decodeL l).2 → (l.take (decodeL l).2 ++ t).getD k 0 = l.getD k 0 := fun k hk => by rw [getD_app_left _ _ _ (by omega), getD_take _ _ _ hk]
    have hlen : (decodeL l).2 ≤ (l.take (decodeL l).2 ++ t).length := by rw [List.length_append, hl]; omega
    generalize l.take (decodeL l).2 ++ t = m at gd hlen ⊢
    rw [decodeL_N l] at hg gd hlen ⊢
    rw [decodeL_N m]
    rcases decodeN_shape l.length (l.getD 0 0).toNat (l.getD 1 0).toNat (l.getD 2 0).toNat (l.getD 3 0).toNat with ⟨c, e⟩ | ⟨a1, a2, a3, av, e⟩ | ⟨a1, a2, a3, a4, av, asr, e⟩ | ⟨a1, a2, a3, a4, a5, av, aw, e⟩ | e
    all_goals rw [e] at hg gd hlen ⊢; dsimp only at hg gd hlen ⊢
    · rw [gd 0 (by omega)]; exact decodeN_one _ _ _ _ _ c
    · rw [gd 0 (by omega), gd 1 (by omega)]; exact decodeN_two _ _ _ _ _ a1 (by omega) a3 av
    · rw [gd 0 (by omega), gd 1 (by omega), gd 2 (by omega)]; exact decodeN_three _ _ _ _ _ a1 (by omega) a3 a4 av asr
    · rw [gd 0 (by omega), gd 1 (by omega), gd 2 (by omega), gd 3 (by omega)]; exact decodeN_four _ _ _ _ _ a1 (by omega) a3 a4 a5 av aw
    · exact absurd ⟨rfl, rfl⟩ hg
theorem bad_iff (l : List UInt8) (hne : l ≠ []) : bad ((decodeL l).1, l.take (decodeL l).2) ↔ ((decodeL l).1 = 65533 ∧ (decodeL l).2 = 1) := by
  have hw := decodeL_le l hne
  unfold bad; simp only [List.length_take, Nat.min_eq_left hw]
theorem solid_mem (l : List UInt8) : ∀ x ∈ pcs l, ¬ bad x → Solid x := by
  induction l using pcs_induct with
  | h0 => intro x hx; cases hx
  | h1 l hne ih =>
    intro x hx hb
    rw [pcs_step l hne] at hx
    rcases List.mem_cons.1 hx with rfl | hx
    · exact solid_of_good l hne (fun h => hb ((bad_iff l hne).2 h))
    · exact ih x hx hb
theorem valid_solid (l : List UInt8) (h : validL l = true) : ∀ x ∈ pcs l, Solid x := fun x hx => by
  have := List.all_eq_true.1 h x hx
  exact solid_mem l x hx (by simpa using this)

theorem pcs_append (a b : List UInt8) (h : validL a = true) : pcs (a ++ b) = pcs a ++ pcs b := by
  have : ∀ (P : List Pc), (∀ x ∈ P, Solid x) → pcs (flat P ++ b) = P ++ pcs b := by
    intro P
    induction P with
    | nil => intro _; rfl
    | cons x P ih =>
      intro hP
      rw [flat_cons, List.append_assoc, pcs_cons_solid x _ (hP x (by simp)), ih (fun y hy => hP y (by simp [hy]))]; rfl
  have := this (pcs a) (valid_solid a h)
  rwa [flat_pcs] at this
/-- A rune that may stand in a text. -/
def Scalar (r : Int) : Prop := (0 ≤ r ∧ r < 55296) ∨ (57343 < r ∧ r ≤ 1114111)
theorem u8_of (x : Int) (h0 : 0 ≤ x) (h1 : x < 256) : (((x.toNat.toUInt8).toNat : Nat) : Int) = x := by
  simp; omega
theorem solid_encode (r : Int) (h : Scalar r) : Solid (r.toNat, encodeRune r) := by
  unfold Scalar at h
  by_cases c1 : r ≤ 127
  · refine ⟨by unfold encodeRune; rw [encodeRuneZ_one (by omega) c1]; simp, fun t => ?_⟩
    unfold encodeRune; rw [encodeRuneZ_one (by omega) c1, decodeL_N]
    have e := u8_of r (by omega) (by omega)
    simp only [List.map_cons, List.map_nil, List.cons_append, List.nil_append, List.getD_cons_zero, List.length_cons, List.length_nil]
    generalize r.toNat.toUInt8 = b at e ⊢
    rw [decodeN_one _ _ _ _ _ (by omega)]
    refine Prod.ext ?_ ?_ <;> dsimp only <;> omega
  by_cases c2 : r ≤ 2047
  · refine ⟨by unfold encodeRune; rw [encodeRuneZ_two (by omega) c2]; simp, fun t => ?_⟩
    unfold encodeRune; rw [encodeRuneZ_two (by omega) c2, decodeL_N]
    have e0 := u8_of (192 + r / 64) (by omega) (by omega)
    have e1 := u8_of (128 + r % 64) (by omega) (by omega)
    simp only [List.map_cons, List.map_nil, List.cons_append, List.nil_append, List.getD_cons_zero, List.getD_cons_succ, List.length_cons, List.length_nil]
    generalize (192 + r / 64).toNat.toUInt8 = b0 at e0 ⊢
    generalize (128 + r % 64).toNat.toUInt8 = b1 at e1 ⊢
    rw [decodeN_two _ _ _ _ _ (by omega) (by omega) (by omega) (by omega)]
    refine Prod.ext ?_ ?_ <;> dsimp only <;> omega
  by_cases c3 : r ≤ 65535
  · refine ⟨by unfold encodeRune; rw [encodeRuneZ_three (by omega)]; simp, fun t => ?_⟩
    unfold encodeRune; rw [encodeRuneZ_three (by omega), decodeL_N]
    have e0 := u8_of (224 + r / 4096) (by omega) (by omega)
    have e1 := u8_of (128 + r / 64 % 64) (by omega) (by omega)
    have e2 := u8_of (128 + r % 64) (by omega) (by omega)
    simp only [List.map_cons, List.map_nil, List.cons_append, List.nil_append, List.getD_cons_zero, List.getD_cons_succ, List.length_cons, List.length_nil]
    generalize (224 + r / 4096).toNat.toUInt8 = b0 at e0 ⊢
    generalize (128 + r / 64 % 64).toNat.toUInt8 = b1 at e1 ⊢
    generalize (128 + r % 64).toNat.toUInt8 = b2 at e2 ⊢
    rw [decodeN_three _ _ _ _ _ (by omega) (by omega) (by omega) (by omega) (by omega) (by omega)]
    refine Prod.ext ?_ ?_ <;> dsimp only <;> omega
  · refine ⟨by unfold encodeRune; rw [encodeRuneZ_four (by omega) (by omega)]; simp, fun t => ?_⟩
    unfold encodeRune; rw [encodeRuneZ_four (by omega) (by omega), decodeL_N]
    have e0 := u8_of (240 + r / 262144) (by omega) (by omega)
    have e1 := u8_of (128 + r / 4096 % 64) (by omega) (by omega)
    have e2 := u8_of (128 + r / 64 % 64) (by omega) (by omega)
    have e3 := u8_of (128 + r % 64) (by omega) (by omega)
    simp only [List.map_cons, List.map_nil, List.cons_append, List.nil_append, List.getD_cons_zero, List.getD_cons_succ, List.length_cons, List.length_nil]
    generalize (240 + r / 262144).toNat.toUInt8 = b0 at e0 ⊢
    generalize (128 + r / 4096 % 64).toNat.toUInt8 = b1 at e1 ⊢
    generalize (128 + r / 64 % 64).toNat.toUInt8 = b2 at e2 ⊢
    generalize (128 + r % 64).toNat.toUInt8 = b3 at e3 ⊢
    rw [decodeN_four _ _ _ _ _ (by omega) (by omega) (by omega) (by omega) (by omega) (by omega) (by omega)]
    refine Prod.ext ?_ ?_ <;> dsimp only <;> omega

/-- What is decoded, but from a byte that is none, may stand in a text. -/
theorem scalar_of (l : List UInt8) : Scalar ((decodeL l).1 : Int) := by
  unfold Scalar
  have k0 := (l.getD 0 0).toNat_lt
  rw [decodeL_N]
  rcases decodeN_shape l.length (l.getD 0 0).toNat (l.getD 1 0).toNat (l.getD 2 0).toNat (l.getD 3 0).toNat with ⟨c, e⟩ | ⟨a1, a2, a3, av, e⟩ | ⟨a1, a2, a3, a4, av, asr, e⟩ | ⟨a1, a2, a3, a4, a5, av, aw, e⟩ | e
  all_goals rw [e]; dsimp only; omega
end
/- Plain mathematics: what a value may be, how it is shown; unlike values are shown unlike. No program stands in this text. -/
section
open Go.Lib

/-- May a value be: its kind, its number, its text's bytes. -/
def checkB (K n : Int) (s : List UInt8) : Bool :=
  if K = 0 then decide (n = 0) && decide (s = [])
  else if K = 1 then decide (s = [])
  else if K = 2 then decide (n = 0 ∨ n = 1) && decide (s = [])
  else if K = 3 then decide (n = 0) && (validL s && decide (countL s ≤ 100))
  else if K = 4 then decide (1 ≤ n ∧ n ≤ 4) && decide (s = [])
  else false

def hx (d : Nat) : UInt8 := if d < 10 then UInt8.ofNat (48 + d) else UInt8.ofNat (87 + d)
def hexL (r : Nat) : List UInt8 := [hx (r / 4096 % 16), hx (r / 256 % 16), hx (r / 16 % 16), hx (r % 16)]
def Ctrl (r : Nat) : Prop := r < 32 ∨ (127 ≤ r ∧ r ≤ 159)
instance (r : Nat) : Decidable (Ctrl r) := by unfold Ctrl; infer_instance
/-- A rune as it is shown. -/
def quoteR (r : Nat) : List UInt8 :=
  if r = 34 ∨ r = 92 then [92, UInt8.ofNat r] else if Ctrl r then 92 :: 117 :: hexL r else encodeRune (r : Int)
def quoteM (l : List UInt8) : List UInt8 := (pcs l).flatMap fun x => quoteR x.1
def quoteL (l : List UInt8) : List UInt8 := 34 :: (quoteM l ++ [34])
def showL (K n : Int) (s : List UInt8) : List UInt8 :=
  if K = 1 then itoa n else if K = 2 then (if n = 1 then [116, 114, 117, 101] else [102, 97, 108, 115, 101]) else if K = 3 then quoteL s else if K = 4 then 35 :: itoa n else [45]

theorem quoteM_nil : quoteM [] = [] := rfl
theorem quoteM_step (l : List UInt8) (hne : l ≠ []) : quoteM l = quoteR (decodeL l).1 ++ quoteM (l.drop (decodeL l).2) := by
  unfold quoteM; rw [pcs_step l hne]; simp

/- ### The items of a quoted text: what stands there, what it says -/
inductive It where
  | byte (b : UInt8)
  | esc (c : UInt8)
  | num (r : Nat)
def It.src : It → List UInt8
  | .byte b => [b]
  | .esc c => [92, c]
  | .num r => 92 :: 117 :: hexL r
def It.tgt : It → List UInt8
  | .byte b => [b]
  | .esc c => [c]
  | .num r => encodeRune (r : Int)
def It.ok : It → Prop
  | .byte b => b ≠ 34 ∧ b ≠ 92
  | .esc c => c = 34 ∨ c = 92
  | .num r => r < 160
def srcs (L : List It) : List UInt8 := L.flatMap It.src
def tgts (L : List It) : List UInt8 := L.flatMap It.tgt
theorem srcs_nil : srcs [] = [] := rfl
theorem tgts_nil : tgts [] = [] := rfl
theorem srcs_cons (i : It) (L : List It) : srcs (i :: L) = i.src ++ srcs L := by simp [srcs]
theorem tgts_cons (i : It) (L : List It) : tgts (i :: L) = i.tgt ++ tgts L := by simp [tgts]
theorem srcs_append (L M : List It) : srcs (L ++ M) = srcs L ++ srcs M := by simp [srcs]
theorem tgts_append (L M : List It) : tgts (L ++ M) = tgts L ++ tgts M := by simp [tgts]
theorem srcs_bytes (l : List UInt8) : srcs (l.map It.byte) = l := by
  induction l with
  | nil => rfl
  | cons b l ih => rw [List.map_cons, srcs_cons, ih]; rfl
theorem tgts_bytes (l : List UInt8) : tgts (l.map It.byte) = l := by
  induction l with
  | nil => rfl
  | cons b l ih => rw [List.map_cons, tgts_cons, ih]; rfl

/-- The bytes of a rune that is no sign by itself are neither of the two. -/
theorem encode_plain (r : Nat) (h1 : r ≠ 34) (h2 : r ≠ 92) (h : Scalar (r : Int)) : ∀ b ∈ encodeRune (r : Int), b ≠ 34 ∧ b ≠ 92 := by
  intro b hb
  unfold Scalar at h
  have key : ∀ x : Int, 0 ≤ x → x < 256 → x ≠ 34 → x ≠ 92 → x.toNat.toUInt8 ≠ 34 ∧ x.toNat.toUInt8 ≠ 92 := by
    intro x x0 x1 x2 x3
    have e := u8_of x x0 x1
    constructor <;> (intro e2; rw [e2] at e; simp at e; omega)
  unfold encodeRune at hb
  obtain ⟨x, hx, rfl⟩ := List.mem_map.1 hb
  by_cases c1 : (r : Int) ≤ 127
  · rw [encodeRuneZ_one (by omega) c1] at hx; simp at hx; exact key _ (by omega) (by omega) (by omega) (by omega)
  by_cases c2 : (r : Int) ≤ 2047
  · rw [encodeRuneZ_two (by omega) c2] at hx; simp at hx; exact key _ (by omega) (by omega) (by omega) (by omega)
  by_cases c3 : (r : Int) ≤ 65535
  · rw [encodeRuneZ_three (by omega)] at hx; simp at hx; exact key _ (by omega) (by omega) (by omega) (by omega)
  · rw [encodeRuneZ_four (by omega) (by omega)] at hx; simp at hx; exact key _ (by omega) (by omega) (by omega) (by omega)

theorem encode_byte (r : Nat) (h : r < 128) : encodeRune (r : Int) = [UInt8.ofNat r] := by
  unfold encodeRune; rw [encodeRuneZ_one (by omega) (by omega)]; simp

/-- What a quoted text of runes consists of. -/
theorem quote_items (l : List UInt8) (hv : validL l = true) : ∃ L : List It, (∀ i ∈ L, i.ok) ∧ quoteM l = srcs L ∧ tgts L = l := by
  induction l using pcs_induct with
  | h0 => exact ⟨[], by simp, rfl, rfl⟩
  | h1 l hne ih =>
    have hg : ¬ ((decodeL l).1 = 65533 ∧ (decodeL l).2 = 1) := by
      have := hv; unfold validL at this; rw [pcs_step l hne, List.all_cons] at this
      intro hc
      rw [decide_eq_true ((bad_iff l hne).2 hc)] at this
      simp at this
    have hv2 : validL (l.drop (decodeL l).2) = true := by
      have := hv; unfold validL at this; rw [pcs_step l hne, List.all_cons, Bool.and_eq_true] at this
      exact this.2
    obtain ⟨L, h1, h2, h3⟩ := ih hv2
    have he := encode_decode l hne hg
    have hs := scalar_of l
    rw [quoteM_step l hne]
    have hl : l.take (decodeL l).2 ++ l.drop (decodeL l).2 = l := List.take_append_drop _ _
    generalize (decodeL l).1 = r at he hs
    by_cases c1 : r = 34 ∨ r = 92
    · refine ⟨.esc (UInt8.ofNat r) :: L, ?_, ?_, ?_⟩
      · intro i hi
        rcases List.mem_cons.1 hi with rfl | hi
        · rcases c1 with rfl | rfl
          · exact .inl rfl
          · exact .inr rfl
        · exact h1 i hi
      · rw [srcs_cons, h2]; unfold quoteR; rw [if_pos c1]; rfl
      · rw [tgts_cons, h3]
        show [UInt8.ofNat r] ++ _ = l
        rw [← encode_byte r (by omega), he, hl]
    · by_cases c2 : Ctrl r
      · refine ⟨.num r :: L, ?_, ?_, ?_⟩
        · intro i hi
          rcases List.mem_cons.1 hi with rfl | hi
          · show r < 160
            unfold Ctrl at c2; omega
          · exact h1 i hi
        · rw [srcs_cons, h2]; unfold quoteR; rw [if_neg c1, if_pos c2]; rfl
        · rw [tgts_cons, h3]
          show encodeRune (r : Int) ++ _ = l
          rw [he, hl]
      · refine ⟨(encodeRune (r : Int)).map It.byte ++ L, ?_, ?_, ?_⟩
        · intro i hi
          rcases List.mem_append.1 hi with hi | hi
          · obtain ⟨b, hb, rfl⟩ := List.mem_map.1 hi
            exact encode_plain r (by omega) (by omega) hs b hb
          · exact h1 i hi
        · rw [srcs_append, srcs_bytes, h2]; unfold quoteR; rw [if_neg c1, if_neg c2]
        · rw [tgts_append, tgts_bytes, h3, he, hl]

theorem hexL_ctrl : ∀ r : Fin 160, ∀ q : Fin 160, hexL r.val = hexL q.val → r.val = q.val := by decide +kernel
theorem hexL_len (r : Nat) : (hexL r).length = 4 := rfl
/-- Two lists of items that stand there alike, up to the closing sign, are the same. -/
theorem srcs_inj : ∀ (L M : List It) (s t : List UInt8), (∀ i ∈ L, i.ok) → (∀ i ∈ M, i.ok) → srcs L ++ 34 :: s = srcs M ++ 34 :: t → L = M ∧ s = t
  | [], [], s, t, _, _, h => by simpa [srcs] using h
  | [], i :: M, s, t, _, hM, h => by
    exfalso
    have hi := hM i (by simp)
    rw [srcs_cons, srcs_nil] at h
    cases i with
    | byte b => simp only [It.src, List.nil_append, List.cons_append, List.cons.injEq] at h; exact hi.1 h.1.symm
    | esc c => simp only [It.src, List.nil_append, List.cons_append, List.cons.injEq] at h; exact absurd h.1 (by decide)
    | num r => simp only [It.src, List.nil_append, List.cons_append, List.cons.injEq] at h; exact absurd h.1 (by decide)
  | i :: L, [], s, t, hL, _, h => by
    exfalso
    have hi := hL i (by simp)
    rw [srcs_cons, srcs_nil] at h
    cases i with
    | byte b => simp only [It.src, List.nil_append, List.cons_append, List.cons.injEq] at h; exact hi.1 h.1
    | esc c => simp only [It.src, List.nil_append, List.cons_append, List.cons.injEq] at h; exact absurd h.1 (by decide)
    | num r => simp only [It.src, List.nil_append, List.cons_append, List.cons.injEq] at h; exact absurd h.1 (by decide)
  | i :: L, j :: M, s, t, hL, hM, h => by
    have hi := hL i (by simp)
    have hj := hM j (by simp)
    have ih := srcs_inj L M s t (fun x hx => hL x (by simp [hx])) (fun x hx => hM x (by simp [hx]))
    rw [srcs_cons, srcs_cons] at h
    cases i with
    | byte b =>
      cases j with
      | byte c =>
        simp only [It.src, List.nil_append, List.cons_append, List.cons.injEq] at h
        obtain ⟨rfl, h⟩ := h
        obtain ⟨rfl, rfl⟩ := ih h; exact ⟨rfl, rfl⟩
      | esc c => simp only [It.src, List.nil_append, List.cons_append, List.cons.injEq] at h; exact absurd h.1 hi.2
      | num r => simp only [It.src, List.nil_append, List.cons_append, List.cons.injEq] at h; exact absurd h.1 hi.2
    | esc c =>
      cases j with
      | byte d => simp only [It.src, List.nil_append, List.cons_append, List.cons.injEq] at h; exact absurd h.1.symm hj.2
      | esc d =>
        simp only [It.src, List.nil_append, List.cons_append, List.cons.injEq] at h
        obtain ⟨_, rfl, h⟩ := h
        obtain ⟨rfl, rfl⟩ := ih h; exact ⟨rfl, rfl⟩
      | num r =>
        simp only [It.src, List.nil_append, List.cons_append, List.cons.injEq] at h
        obtain ⟨_, rfl, h⟩ := h
        exfalso
        rcases hi with hi | hi <;> exact absurd hi (by decide)
    | num r =>
      cases j with
      | byte d => simp only [It.src, List.nil_append, List.cons_append, List.cons.injEq] at h; exact absurd h.1.symm hj.2
      | esc d =>
        simp only [It.src, List.nil_append, List.cons_append, List.cons.injEq] at h
        obtain ⟨_, rfl, h⟩ := h
        exfalso
        rcases hj with hj | hj <;> exact absurd hj (by decide)
      | num q =>
        have h2 : hexL r ++ (srcs L ++ 34 :: s) = hexL q ++ (srcs M ++ 34 :: t) := by
          simpa [It.src] using h
        obtain ⟨e1, e2⟩ := List.append_inj h2 (by rw [hexL_len, hexL_len])
        have := hexL_ctrl ⟨r, hi⟩ ⟨q, hj⟩ e1
        obtain rfl : r = q := this
        obtain ⟨rfl, rfl⟩ := ih e2; exact ⟨rfl, rfl⟩
theorem quoteL_inj (a b : List UInt8) (ha : validL a = true) (hb : validL b = true) (h : quoteL a = quoteL b) : a = b := by
  obtain ⟨L, hL, e1, rfl⟩ := quote_items a ha
  obtain ⟨M, hM, e2, rfl⟩ := quote_items b hb
  unfold quoteL at h
  rw [e1, e2] at h
  have := srcs_inj L M [] [] hL hM (by simpa using h)
  rw [this.1]

/- ### Numbers -/
theorem u8_nat (d : Nat) (h : d < 256) : (UInt8.ofNat d).toNat = d := by simp; omega
theorem decDigits_ne (u : Nat) : decDigits u ≠ [] := by
  intro e; have := decDigits_length u; rw [e] at this; have := nDigits_pos u; simp at *; omega
theorem decDigits_digit (u : Nat) : ∀ b ∈ decDigits u, 48 ≤ b.toNat ∧ b.toNat ≤ 57 := by
  induction u using Nat.strongRecOn with
  | _ u ih =>
    intro b hb
    rw [decDigits] at hb
    by_cases h : u < 10
    · rw [dif_pos h] at hb; simp only [List.mem_singleton] at hb; subst hb; rw [u8_nat _ (by omega)]; omega
    · rw [dif_neg h] at hb
      rcases List.mem_append.1 hb with hb | hb
      · exact ih (u / 10) (by omega) b hb
      · simp only [List.mem_singleton] at hb; subst hb; rw [u8_nat _ (by omega)]; omega
theorem decDigits_big (u : Nat) (h : 10 ≤ u) : decDigits u = decDigits (u / 10) ++ [UInt8.ofNat (48 + u % 10)] := by
  rw [decDigits, dif_neg (by omega)]
/-- The first digit is 0 of nothing alone. -/
theorem decDigits_zero (u : Nat) (t : List UInt8) (h : decDigits u = 48 :: t) : u = 0 := by
  induction u using Nat.strongRecOn generalizing t with
  | _ u ih =>
    rw [decDigits] at h
    by_cases hu : u < 10
    · rw [dif_pos hu] at h; simp only [List.cons.injEq] at h
      have := congrArg UInt8.toNat h.1
      rw [u8_nat _ (by omega)] at this
      have e : (48 : UInt8).toNat = 48 := rfl
      omega
    · rw [dif_neg hu] at h
      cases hd : decDigits (u / 10) with
      | nil => exact absurd hd (decDigits_ne _)
      | cons a r =>
        rw [hd, List.cons_append, List.cons.injEq] at h
        have := ih (u / 10) (by omega) r (by rw [hd, h.1])
        omega

theorem parseM_snoc (M : Nat) : ∀ (l : List UInt8) (acc v : Nat) (d : Nat), parseUintM M acc l = .ok v → d < 10 → v < 1844674407370955162 → v * 10 + d ≤ M → parseUintM M acc (l ++ [UInt8.ofNat (48 + d)]) = .ok (v * 10 + d)
  | [], acc, v, d, h, hd, hv, hM => by
    simp only [parseUintM, NumEnd.ok.injEq] at h
    subst h
    have e := u8_nat (48 + d) (by omega)
    simp only [List.nil_append, parseUintM, e]
    rw [if_pos (by omega), if_neg (by omega), if_neg (by omega)]
    simp
  | c :: l, acc, v, d, h, hd, hv, hM => by
    rw [List.cons_append]
    unfold parseUintM at h ⊢
    split at h
    · rename_i hc
      rw [if_pos hc]
      split at h
      · cases h
      · rename_i h1
        rw [if_neg h1]
        split at h
        · cases h
        · rename_i h2
          rw [if_neg h2]
          exact parseM_snoc M l _ v d h hd hv hM
    · cases h
theorem parseM_digits (M u : Nat) (hM : M ≤ 18446744073709551615) (h : u ≤ M) : parseUintM M 0 (decDigits u) = .ok u := by
  induction u using Nat.strongRecOn with
  | _ u ih =>
    rw [decDigits]
    by_cases hu : u < 10
    · rw [dif_pos hu]
      have e := u8_nat (48 + u) (by omega)
      simp only [parseUintM, e]
      rw [if_pos (by omega), if_neg (by omega), if_neg (by omega)]
      simp
    · rw [dif_neg hu]
      have := parseM_snoc M _ 0 (u / 10) (u % 10) (ih (u / 10) (by omega) (by omega)) (by omega) (by omega) (by omega)
      rw [this]; congr 1; omega
theorem parse_itoa (n : Int) (h0 : -9223372036854775808 ≤ n) (h1 : n ≤ 9223372036854775807) : parseIntB 64 (itoa n) = .ok n := by
  unfold itoa
  have eC : (2 : Nat) ^ (64 - 1) = 9223372036854775808 := by decide
  have eM : (2 : Nat) ^ 64 - 1 = 18446744073709551615 := by decide
  by_cases hn : n < 0
  · rw [if_pos hn]
    have hp : parseUintB 64 (decDigits n.natAbs) = .ok n.natAbs := by
      unfold parseUintB; rw [if_neg (decDigits_ne _), eM]; exact parseM_digits _ _ (by omega) (by omega)
    simp only [parseIntB]
    rw [if_pos (.inr rfl), hp, eC]
    dsimp only
    rw [if_neg (by intro h; exact h.1 rfl), if_neg (by omega)]
    refine congrArg NumEnd.ok ?_
    rw [if_pos (show (45 : UInt8).toNat = 45 from rfl)]
    omega
  · rw [if_neg hn]
    cases hd : decDigits n.toNat with
    | nil => exact absurd hd (decDigits_ne _)
    | cons c r =>
      have hc := decDigits_digit n.toNat c (by rw [hd]; simp)
      have hp : parseUintB 64 (c :: r) = .ok n.toNat := by
        rw [← hd]
        unfold parseUintB; rw [if_neg (decDigits_ne _), eM]; exact parseM_digits _ _ (by omega) (by omega)
      simp only [parseIntB]
      rw [if_neg (by omega), hp, eC]
      dsimp only
      rw [if_neg (by omega), if_neg (by omega), if_neg (by omega)]
      congr 1; omega
theorem itoa_inj (n m : Int) (h0 : -9223372036854775808 ≤ n) (h1 : n ≤ 9223372036854775807) (g0 : -9223372036854775808 ≤ m) (g1 : m ≤ 9223372036854775807) (h : itoa n = itoa m) : n = m := by
  have a := parse_itoa n h0 h1
  rw [h, parse_itoa m g0 g1] at a
  cases a; rfl
/-- A number's first sign. -/
theorem itoa_head (n : Int) : ∃ c r, itoa n = c :: r ∧ ((c.toNat = 45 ∧ n < 0 ∧ r ≠ []) ∨ (48 ≤ c.toNat ∧ c.toNat ≤ 57 ∧ 0 ≤ n)) := by
  unfold itoa
  by_cases hn : n < 0
  · rw [if_pos hn]; exact ⟨45, _, rfl, .inl ⟨rfl, hn, decDigits_ne _⟩⟩
  · rw [if_neg hn]
    cases hd : decDigits n.toNat with
    | nil => exact absurd hd (decDigits_ne _)
    | cons c r =>
      have hc := decDigits_digit n.toNat c (by rw [hd]; simp)
      exact ⟨c, r, rfl, .inr ⟨hc.1, hc.2, by omega⟩⟩
theorem itoa_small (n : Int) (h0 : 0 ≤ n) (h1 : n < 10) : itoa n = [UInt8.ofNat (48 + n.toNat)] := by
  unfold itoa; rw [if_neg (by omega), decDigits_one (by omega)]

/- ### What may be -/
theorem check_kind {K n : Int} {s : List UInt8} (h : checkB K n s = true) :
    (K = 0 ∧ n = 0 ∧ s = []) ∨ (K = 1 ∧ s = []) ∨ (K = 2 ∧ (n = 0 ∨ n = 1) ∧ s = []) ∨ (K = 3 ∧ n = 0 ∧ validL s = true ∧ countL s ≤ 100) ∨ (K = 4 ∧ 1 ≤ n ∧ n ≤ 4 ∧ s = []) := by
  unfold checkB at h
  split at h
  · simp at h; exact .inl ⟨by assumption, h.1, h.2⟩
  split at h
  · simp at h; exact .inr (.inl ⟨by assumption, h⟩)
  split at h
  · simp at h; exact .inr (.inr (.inl ⟨by assumption, h.1, h.2⟩))
  split at h
  · simp at h; exact .inr (.inr (.inr (.inl ⟨by assumption, h.1, h.2.1, h.2.2⟩)))
  split at h
  · simp at h; exact .inr (.inr (.inr (.inr ⟨by assumption, h.1.1, h.1.2, h.2⟩)))
  · simp at h

theorem show_0 (n : Int) (s : List UInt8) : showL 0 n s = [45] := rfl
theorem show_1 (n : Int) (s : List UInt8) : showL 1 n s = itoa n := rfl
theorem show_2 (n : Int) (s : List UInt8) : showL 2 n s = if n = 1 then [116, 114, 117, 101] else [102, 97, 108, 115, 101] := rfl
theorem show_3 (n : Int) (s : List UInt8) : showL 3 n s = quoteL s := rfl
theorem show_4 (n : Int) (s : List UInt8) : showL 4 n s = 35 :: itoa n := rfl

/-- Of what may be: what is shown alike is the same. -/
theorem show_inj (K n : Int) (s : List UInt8) (L m : Int) (t : List UInt8) (h0 : -9223372036854775808 ≤ n) (h1 : n ≤ 9223372036854775807) (g0 : -9223372036854775808 ≤ m) (g1 : m ≤ 9223372036854775807)
    (ha : checkB K n s = true) (hb : checkB L m t = true) (h : showL K n s = showL L m t) : K = L ∧ n = m ∧ s = t := by
  obtain ⟨c, r, hc, hc2⟩ := itoa_head n
  obtain ⟨d, q, hd, hd2⟩ := itoa_head m
  have hcz : ∀ k : Nat, (k < 48 ∨ 57 < k) → k ≠ 45 → k < 256 → c ≠ UInt8.ofNat k := by
    intro k h1 h2 h3 e; rw [e, u8_nat k h3] at hc2; omega
  have hdz : ∀ k : Nat, (k < 48 ∨ 57 < k) → k ≠ 45 → k < 256 → d ≠ UInt8.ofNat k := by
    intro k h1 h2 h3 e; rw [e, u8_nat k h3] at hd2; omega
  have c34 := hcz 34 (by omega) (by omega) (by omega)
  have c35 := hcz 35 (by omega) (by omega) (by omega)
  have c116 := hcz 116 (by omega) (by omega) (by omega)
  have c102 := hcz 102 (by omega) (by omega) (by omega)
  have d34 := hdz 34 (by omega) (by omega) (by omega)
  have d35 := hdz 35 (by omega) (by omega) (by omega)
  have d116 := hdz 116 (by omega) (by omega) (by omega)
  have d102 := hdz 102 (by omega) (by omega) (by omega)
  change c ≠ 34 at c34; change c ≠ 35 at c35; change c ≠ 116 at c116; change c ≠ 102 at c102
  change d ≠ 34 at d34; change d ≠ 35 at d35; change d ≠ 116 at d116; change d ≠ 102 at d102
  have hci : itoa n ≠ [45] := by
    rw [hc]; intro e; simp only [List.cons.injEq] at e
    rcases hc2 with ⟨_, _, h⟩ | ⟨h, _, _⟩
    · exact h e.2
    · rw [e.1] at h; exact absurd h (by decide)
  have hdi : itoa m ≠ [45] := by
    rw [hd]; intro e; simp only [List.cons.injEq] at e
    rcases hd2 with ⟨_, _, h⟩ | ⟨h, _, _⟩
    · exact h e.2
    · rw [e.1] at h; exact absurd h (by decide)
  rcases check_kind ha with ⟨rfl, rfl, rfl⟩ | ⟨rfl, rfl⟩ | ⟨rfl, hn, rfl⟩ | ⟨rfl, rfl, hv, _⟩ | ⟨rfl, hn, hn2, rfl⟩ <;>
    rcases check_kind hb with ⟨rfl, rfl, rfl⟩ | ⟨rfl, rfl⟩ | ⟨rfl, hm, rfl⟩ | ⟨rfl, rfl, hw, _⟩ | ⟨rfl, hm, hm2, rfl⟩ <;>
    simp only [show_0, show_1, show_2, show_3, show_4] at h
  · exact ⟨rfl, rfl, rfl⟩
  · exact absurd h.symm hdi
  · split at h <;> simp at h
  · simp [quoteL] at h
  · simp at h
  · exact absurd h hci
  · exact ⟨rfl, itoa_inj n m h0 h1 g0 g1 h, rfl⟩
  · rw [hc] at h; split at h
    · simp only [List.cons.injEq] at h; exact absurd h.1 c116
    · simp only [List.cons.injEq] at h; exact absurd h.1 c102
  · rw [hc] at h; simp only [quoteL, List.cons.injEq] at h; exact absurd h.1 c34
  · rw [hc] at h; simp only [List.cons.injEq] at h; exact absurd h.1 c35
  · split at h <;> simp at h
  · rw [hd] at h; split at h
    · simp only [List.cons.injEq] at h; exact absurd h.1.symm d116
    · simp only [List.cons.injEq] at h; exact absurd h.1.symm d102
  · rcases hn with rfl | rfl <;> rcases hm with rfl | rfl
    · exact ⟨rfl, rfl, rfl⟩
    · exact absurd h (by decide)
    · exact absurd h (by decide)
    · exact ⟨rfl, rfl, rfl⟩
  · split at h <;> simp [quoteL] at h
  · split at h <;> simp at h
  · simp [quoteL] at h
  · rw [hd] at h; simp only [quoteL, List.cons.injEq] at h; exact absurd h.1.symm d34
  · split at h <;> simp [quoteL] at h
  · exact ⟨rfl, rfl, quoteL_inj s t hv hw h⟩
  · simp [quoteL] at h
  · simp at h
  · rw [hd] at h; simp only [List.cons.injEq] at h; exact absurd h.1.symm d35
  · split at h <;> simp at h
  · simp [quoteL] at h
  · simp only [List.cons.injEq, true_and] at h; exact ⟨rfl, itoa_inj n m h0 h1 g0 g1 h, rfl⟩
end
/- Plain mathematics: where a piece begins may be told from the three bytes ahead of it. No program stands in this text. -/
section
open Go.Lib

/-- The piece that begins at a byte, if one does: its rune, its width. -/
def atF : Nat → List UInt8 → Nat → Option (Nat × Nat)
  | 0, _, _ => none
  | f + 1, l, i => if l = [] then none else if i = 0 then some (decodeL l) else if i < (decodeL l).2 then none else atF f (l.drop (decodeL l).2) (i - (decodeL l).2)
def atL (l : List UInt8) (i : Nat) : Option (Nat × Nat) := atF l.length l i
theorem atF_fuel : ∀ (n m : Nat) (l : List UInt8) (i : Nat), l.length ≤ n → l.length ≤ m → atF n l i = atF m l i
  | 0, 0, _, _, _, _ => rfl
  | 0, m + 1, l, i, hn, _ => by
    have : l = [] := List.eq_nil_of_length_eq_zero (by omega)
    subst this; simp [atF]
  | n + 1, 0, l, i, _, hm => by
    have : l = [] := List.eq_nil_of_length_eq_zero (by omega)
    subst this; simp [atF]
  | n + 1, m + 1, l, i, hn, hm => by
    unfold atF
    by_cases hne : l = []
    · simp [hne]
    · have hw := decodeL_width l
      rw [if_neg hne, if_neg hne, atF_fuel n m (l.drop (decodeL l).2) _ (by rw [List.length_drop]; omega) (by rw [List.length_drop]; omega)]
theorem atL_nil (i : Nat) : atL [] i = none := rfl
theorem atL_step (l : List UInt8) (hne : l ≠ []) (i : Nat) : atL l i = if i = 0 then some (decodeL l) else if i < (decodeL l).2 then none else atL (l.drop (decodeL l).2) (i - (decodeL l).2) := by
  have hl : 0 < l.length := List.length_pos_iff.2 hne
  have hw := decodeL_width l
  obtain ⟨n, hn⟩ : ∃ n, l.length = n + 1 := ⟨l.length - 1, by omega⟩
  unfold atL
  rw [hn]
  show (if l = [] then none else _) = _
  rw [if_neg hne, atF_fuel n (l.drop (decodeL l).2).length _ _ (by rw [List.length_drop]; omega) (Nat.le_refl _)]
theorem atL_zero (l : List UInt8) (hne : l ≠ []) : atL l 0 = some (decodeL l) := by rw [atL_step l hne, if_pos rfl]
theorem atL_out (l : List UInt8) : ∀ i, l.length ≤ i → atL l i = none := by
  induction l using pcs_induct with
  | h0 => intro i _; rfl
  | h1 l hne ih =>
    intro i hi
    have hl : 0 < l.length := List.length_pos_iff.2 hne
    have hw := decodeL_le l hne
    have hw1 := decodeL_width l
    rw [atL_step l hne, if_neg (by omega), if_neg (by omega)]
    exact ih _ (by rw [List.length_drop]; omega)

/-- A byte that goes on a sequence begins none. -/
theorem decodeN_cont (n b0 b1 b2 b3 : Nat) (h : b0 / 64 = 2) : decodeN n b0 b1 b2 b3 = (65533, 1) := by
  rcases decodeN_shape n b0 b1 b2 b3 with ⟨c, e⟩ | ⟨a1, a2, a3, av, e⟩ | ⟨a1, a2, a3, a4, av, as, e⟩ | ⟨a1, a2, a3, a4, a5, av, aw, e⟩ | e
  · omega
  · omega
  · omega
  · omega
  · exact e
theorem inner_cont (l : List UInt8) (k : Nat) (h0 : 0 < k) (hk : k < (decodeL l).2) : (l.getD k 0).toNat / 64 = 2 := by
  rw [decodeL_N] at hk
  rcases decodeN_shape l.length (l.getD 0 0).toNat (l.getD 1 0).toNat (l.getD 2 0).toNat (l.getD 3 0).toNat with ⟨c, e⟩ | ⟨a1, a2, a3, av, e⟩ | ⟨a1, a2, a3, a4, av, as, e⟩ | ⟨a1, a2, a3, a4, a5, av, aw, e⟩ | e
  all_goals rw [e] at hk; dsimp only at hk
  · omega
  · obtain rfl : k = 1 := by omega
    exact a3
  · rcases (by omega : k = 1 ∨ k = 2) with rfl | rfl
    · exact a3
    · exact a4
  · rcases (by omega : k = 1 ∨ k = 2 ∨ k = 3) with rfl | rfl | rfl
    · exact a3
    · exact a4
    · exact a5
  · omega
theorem decodeL_four (l : List UInt8) : (decodeL l).2 ≤ 4 := by
  rw [decodeL_N]
  rcases decodeN_shape l.length (l.getD 0 0).toNat (l.getD 1 0).toNat (l.getD 2 0).toNat (l.getD 3 0).toNat with ⟨c, e⟩ | ⟨a1, a2, a3, av, e⟩ | ⟨a1, a2, a3, a4, av, as, e⟩ | ⟨a1, a2, a3, a4, a5, av, aw, e⟩ | e
  all_goals rw [e]; simp

/-- From within a piece one comes, byte by byte, to the piece's end. -/
theorem inside_steps (l : List UInt8) (hne : l ≠ []) : ∀ (d q i : Nat), 0 < q → q + d = (decodeL l).2 → d ≤ i → atL (l.drop q) i = atL (l.drop (decodeL l).2) (i - d)
  | 0, q, i, _, hd, _ => by rw [show q = (decodeL l).2 by omega, Nat.sub_zero]
  | d + 1, q, i, h0, hd, hi => by
    have hw := decodeL_le l hne
    have hq : l.drop q ≠ [] := by
      intro h; have := congrArg List.length h; rw [List.length_drop] at this; simp only [List.length_nil] at this; omega
    have hb : decodeL (l.drop q) = (65533, 1) := by
      rw [decodeL_N, getD_dropU]
      exact decodeN_cont _ _ _ _ _ (inner_cont l q h0 (by omega))
    rw [atL_step _ hq, hb, if_neg (by omega), if_neg (by dsimp only; omega), List.drop_drop, inside_steps l hne d (q + 1) (i - 1) (by omega) (by omega) (by omega)]
    congr 1; omega

/-- From whatever byte that lies three ahead of a place, or at the beginning, the same is told of that place. -/
theorem at_window (l : List UInt8) : ∀ q i, q + 3 ≤ i → atL (l.drop q) (i - q) = atL l i := by
  induction l using pcs_induct with
  | h0 => intro q i _; rw [List.drop_nil, atL_nil, atL_nil]
  | h1 l hne ih =>
    intro q i hi
    have h4 := decodeL_four l
    have hw1 := decodeL_width l
    by_cases hq0 : q = 0
    · subst hq0; rfl
    · by_cases hq : q < (decodeL l).2
      · rw [inside_steps l hne ((decodeL l).2 - q) q (i - q) (by omega) (by omega) (by omega)]
        rw [atL_step l hne i, if_neg (by omega), if_neg (by omega)]
        congr 1; omega
      · have := ih (q - (decodeL l).2) (i - (decodeL l).2) (by omega)
        rw [List.drop_drop, show (decodeL l).2 + (q - (decodeL l).2) = q by omega, show i - (decodeL l).2 - (q - (decodeL l).2) = i - q by omega] at this
        rw [this, atL_step l hne i, if_neg (by omega), if_neg (by omega)]

theorem decodeN_four_ahead (n m b0 b1 b2 b3 : Nat) (hn : 4 ≤ n) (hm : 4 ≤ m) : decodeN n b0 b1 b2 b3 = decodeN m b0 b1 b2 b3 := by
  rcases decodeN_shape n b0 b1 b2 b3 with ⟨c, e⟩ | ⟨a1, a2, a3, av, e⟩ | ⟨a1, a2, a3, a4, av, as, e⟩ | ⟨a1, a2, a3, a4, a5, av, aw, e⟩ | e
  · rw [e]; exact (decodeN_one _ _ _ _ _ c).symm
  · rw [e]; exact (decodeN_two _ _ _ _ _ a1 (by omega) a3 av).symm
  · rw [e]; exact (decodeN_three _ _ _ _ _ a1 (by omega) a3 a4 av as).symm
  · rw [e]; exact (decodeN_four _ _ _ _ _ a1 (by omega) a3 a4 a5 av aw).symm
  · rw [e]
    rcases decodeN_shape m b0 b1 b2 b3 with ⟨c, f⟩ | ⟨a1, a2, a3, av, f⟩ | ⟨a1, a2, a3, a4, av, as, f⟩ | ⟨a1, a2, a3, a4, a5, av, aw, f⟩ | f
    · rw [decodeN_one _ _ _ _ _ c] at e; rw [f]; exact e.symm
    · rw [decodeN_two n _ _ _ _ a1 (by omega) a3 av] at e; rw [f]; exact e.symm
    · rw [decodeN_three n _ _ _ _ a1 (by omega) a3 a4 av as] at e; rw [f]; exact e.symm
    · rw [decodeN_four n _ _ _ _ a1 (by omega) a3 a4 a5 av aw] at e; rw [f]; exact e.symm
    · exact f.symm
/-- Of a text that is cut four bytes behind a place, or further, the same is decoded there. -/
theorem decodeL_ahead (l : List UInt8) (j : Nat) (h : 4 ≤ j) : decodeL (l.take j) = decodeL l := by
  rw [decodeL_N, decodeL_N, List.length_take, getD_take l j 0 (by omega), getD_take l j 1 (by omega), getD_take l j 2 (by omega), getD_take l j 3 (by omega)]
  by_cases hl : l.length ≤ j
  · rw [Nat.min_eq_right hl]
  · rw [Nat.min_eq_left (by omega)]; exact decodeN_four_ahead _ _ _ _ _ _ h (by omega)
theorem at_cut (l : List UInt8) : ∀ i j, i + 4 ≤ j → atL (l.take j) i = atL l i := by
  induction l using pcs_induct with
  | h0 => intro i j _; rw [List.take_nil]
  | h1 l hne ih =>
    intro i j hj
    have hl : 0 < l.length := List.length_pos_iff.2 hne
    have hne2 : l.take j ≠ [] := by
      intro h; have := congrArg List.length h; rw [List.length_take] at this; simp only [List.length_nil] at this; omega
    have hd := decodeL_ahead l j (by omega)
    rw [atL_step _ hne2, atL_step l hne, hd]
    by_cases h0 : i = 0
    · rw [if_pos h0, if_pos h0]
    · rw [if_neg h0, if_neg h0]
      by_cases h1 : i < (decodeL l).2
      · rw [if_pos h1, if_pos h1]
      · rw [if_neg h1, if_neg h1, List.drop_take, ih _ _ (by omega)]

/-- The window that runes.At looks at. -/
theorem at_look (l : List UInt8) (i : Nat) (from' end' : Nat) (hf : from' + 3 = i ∨ (from' = 0 ∧ i ≤ 3)) (he : end' = i + 4 ∨ (end' = l.length ∧ l.length ≤ i + 4)) :
    atL ((l.drop from').take (end' - from')) (i - from') = atL l i := by
  have hd : atL (l.drop from') (i - from') = atL l i := by
    rcases hf with hf | ⟨rfl, _⟩
    · exact at_window l from' i (by omega)
    · rfl
  rw [← hd]
  rcases he with rfl | ⟨rfl, _⟩
  · exact at_cut _ _ _ (by omega)
  · rw [List.take_of_length_le (by rw [List.length_drop]; omega)]
end
/- Plain mathematics: the classes of runes. No program stands in this text. -/
section

def SpaceP (r : Int) : Prop := r = 9 ∨ r = 10 ∨ r = 13 ∨ r = 32 ∨ r = 160 ∨ r = 12288
def LetterP (r : Int) : Prop :=
  (97 ≤ r ∧ r ≤ 122) ∨ (65 ≤ r ∧ r ≤ 90) ∨ r = 95 ∨ r = 170 ∨ r = 181 ∨ r = 186 ∨ (192 ≤ r ∧ r ≤ 214) ∨ (216 ≤ r ∧ r ≤ 246) ∨ (248 ≤ r ∧ r ≤ 591) ∨ (913 ≤ r ∧ r ≤ 929) ∨ (931 ≤ r ∧ r ≤ 937) ∨ (945 ≤ r ∧ r ≤ 969) ∨ (1040 ≤ r ∧ r ≤ 1103) ∨ (19968 ≤ r ∧ r ≤ 40959)
instance (r : Int) : Decidable (SpaceP r) := by unfold SpaceP; infer_instance
instance (r : Int) : Decidable (LetterP r) := by unfold LetterP; infer_instance
def classZ (r : Int) : Int := if 48 ≤ r ∧ r ≤ 57 then 2 else if SpaceP r then 3 else if LetterP r then 1 else 0
theorem class_2 {r : Int} (h : 48 ≤ r ∧ r ≤ 57) : classZ r = 2 := by unfold classZ; rw [if_pos h]
theorem class_3 {r : Int} (h : SpaceP r) : classZ r = 3 := by unfold classZ; rw [if_neg (by unfold SpaceP at h; omega), if_pos h]
theorem class_1 {r : Int} (h : LetterP r) : classZ r = 1 := by unfold classZ; rw [if_neg (by unfold LetterP at h; omega), if_neg (by unfold LetterP at h; unfold SpaceP; omega), if_pos h]
theorem class_0 {r : Int} (h : ¬ (48 ≤ r ∧ r ≤ 57)) (h2 : ¬ SpaceP r) (h3 : ¬ LetterP r) : classZ r = 0 := by unfold classZ; rw [if_neg h, if_neg h2, if_neg h3]
theorem class_cases (r : Int) : (classZ r = 2 ∧ 48 ≤ r ∧ r ≤ 57) ∨ (classZ r = 3 ∧ SpaceP r) ∨ (classZ r = 1 ∧ LetterP r) ∨ (classZ r = 0 ∧ ¬ (48 ≤ r ∧ r ≤ 57) ∧ ¬ SpaceP r ∧ ¬ LetterP r) := by
  by_cases h : 48 ≤ r ∧ r ≤ 57
  · exact .inl ⟨class_2 h, h⟩
  · by_cases h2 : SpaceP r
    · exact .inr (.inl ⟨class_3 h2, h2⟩)
    · by_cases h3 : LetterP r
      · exact .inr (.inr (.inl ⟨class_1 h3, h3⟩))
      · exact .inr (.inr (.inr ⟨class_0 h h2 h3, h, h2, h3⟩))
end
/- Plain mathematics: the tokens of a formula, told by its pieces. No program stands in this text. -/
section
open Go.Lib

/- ### Pieces of a text -/
/-- Pieces that are some text's. -/
def Pcd (R : List Pc) : Prop := pcs (flat R) = R
theorem Pcd.of (l : List UInt8) : Pcd (pcs l) := by unfold Pcd; rw [flat_pcs]
theorem flat_take_drop (R : List Pc) (m : Nat) : flat (R.take m) ++ flat (R.drop m) = flat R := by rw [← flat_append, List.take_append_drop]
theorem Pcd.drop {R : List Pc} (h : Pcd R) (m : Nat) : Pcd (R.drop m) := by
  unfold Pcd at h ⊢
  have := pcs_drop (flat R) m
  rw [h] at this
  rw [← this]
  have e := flat_take_drop R m
  rw [← e, List.drop_left, flat_pcs]
theorem Pcd.take {R : List Pc} (h : Pcd R) (m : Nat) : Pcd (R.take m) := by
  unfold Pcd at h ⊢
  have := pcs_take (flat R) m
  rwa [h] at this
theorem Pcd.tail {x : Pc} {R : List Pc} (h : Pcd (x :: R)) : Pcd R := h.drop 1

/-- What a piece is. -/
structure Fit (x : Pc) : Prop where
  ne : x.2 ≠ []
  le : x.2.length ≤ 4
  sc : Scalar (x.1 : Int)
  enc : ¬ bad x → x.2 = encodeRune (x.1 : Int)
  solid : ¬ bad x → Solid x
theorem Fit.one {x : Pc} (h : Fit x) (hx : x.1 < 128) : x.2 = [UInt8.ofNat x.1] := by
  rw [h.enc (fun hb => by have := hb.1; omega), encode_byte x.1 hx]
theorem Fit.len {x : Pc} (h : Fit x) (hx : x.1 < 128) : x.2.length = 1 := by rw [h.one hx]; rfl
theorem Fit.pos {x : Pc} (h : Fit x) : 0 < x.2.length := List.length_pos_iff.2 h.ne
theorem fit_head (l : List UInt8) (hne : l ≠ []) : Fit ((decodeL l).1, l.take (decodeL l).2) := by
  have hw1 := decodeL_width l
  have hw2 := decodeL_le l hne
  have hl : (l.take (decodeL l).2).length = (decodeL l).2 := by rw [List.length_take, Nat.min_eq_left hw2]
  refine ⟨?_, ?_, scalar_of l, ?_, ?_⟩
  · intro e; have := congrArg List.length e; dsimp only at this; rw [hl] at this; simp only [List.length_nil] at this; omega
  · dsimp only; rw [hl]; rw [decodeL_N]; unfold decodeN; repeat' split
    all_goals simp
  · intro hb; exact (encode_decode l hne (fun hc => hb ((bad_iff l hne).2 hc))).symm
  · intro hb; exact solid_of_good l hne (fun hc => hb ((bad_iff l hne).2 hc))
theorem fit_mem (l : List UInt8) : ∀ x ∈ pcs l, Fit x := by
  induction l using pcs_induct with
  | h0 => intro x hx; cases hx
  | h1 l hne ih =>
    intro x hx
    rw [pcs_step l hne] at hx
    rcases List.mem_cons.1 hx with rfl | hx
    · exact fit_head l hne
    · exact ih x hx
theorem Pcd.fit {R : List Pc} (h : Pcd R) : ∀ x ∈ R, Fit x := by
  unfold Pcd at h
  intro x hx
  rw [← h] at hx
  exact fit_mem _ x hx
theorem Pcd.head {x : Pc} {R : List Pc} (h : Pcd (x :: R)) : Fit x := h.fit x (by simp)

/- ### Runes by their bytes -/
def encs (Rs : List Nat) : List UInt8 := Rs.flatMap fun (r : Nat) => encodeRune (r : Int)
theorem encs_nil : encs [] = [] := rfl
theorem encs_append (a b : List Nat) : encs (a ++ b) = encs a ++ encs b := by simp [encs]
theorem encs_snoc (a : List Nat) (r : Nat) : encs (a ++ [r]) = encs a ++ encodeRune (r : Int) := by simp [encs]
theorem pcs_encs (Rs : List Nat) (h : ∀ r ∈ Rs, Scalar (r : Int)) : pcs (encs Rs) = Rs.map fun (r : Nat) => (r, encodeRune (r : Int)) := by
  have e : encs Rs = flat (Rs.map fun (r : Nat) => (r, encodeRune (r : Int))) := by unfold encs flat; rw [List.flatMap_map]
  rw [e]
  refine pcs_solid _ ?_
  intro x hx
  obtain ⟨r, hr, rfl⟩ := List.mem_map.1 hx
  have := solid_encode (r : Int) (h r hr)
  rwa [Int.toNat_natCast] at this
theorem count_encs (Rs : List Nat) (h : ∀ r ∈ Rs, Scalar (r : Int)) : countL (encs Rs) = Rs.length := by
  unfold countL; rw [pcs_encs Rs h, List.length_map]

/- ### Digits -/
/-- What digits come to. -/
def valN (l : List UInt8) : Nat := l.foldl (fun a c => a * 10 + (c.toNat - 48)) 0
theorem valN_snoc (l : List UInt8) (c : UInt8) : valN (l ++ [c]) = valN l * 10 + (c.toNat - 48) := by simp [valN]
theorem valN_nil : valN [] = 0 := rfl
theorem valN_mono (a : List UInt8) : ∀ b : List UInt8, valN a ≤ valN (a ++ b) := by
  intro b
  have : ∀ (b : List UInt8) (x : Nat), x ≤ b.foldl (fun a c => a * 10 + (c.toNat - 48)) x := by
    intro b
    induction b with
    | nil => intro x; exact Nat.le_refl _
    | cons c b ih => intro x; exact Nat.le_trans (by omega) (ih (x * 10 + (c.toNat - 48)))
  unfold valN; rw [List.foldl_append]; exact this b _

/- ### The tokens -/
/-- A token that is found at a piece: its kind, its text, its number, how many pieces it has behind the first one. -/
structure Fd where
  k : Nat
  s : List UInt8
  n : Nat
  j : Nat
def isDig (x : Pc) : Bool := decide (classZ (x.1 : Int) = 2)
def isWord (x : Pc) : Bool := decide (classZ (x.1 : Int) = 1 ∨ classZ (x.1 : Int) = 2)
def numF (x : Pc) (R : List Pc) : Option Fd :=
  if valN (flat (x :: R.takeWhile isDig)) < 9223372036854775808 then some ⟨1, [], valN (flat (x :: R.takeWhile isDig)), (R.takeWhile isDig).length⟩ else none
def nameF (x : Pc) (R : List Pc) : Option Fd :=
  if (flat (x :: R.takeWhile isWord)).length ≤ 24 then some ⟨3, flat (x :: R.takeWhile isWord), 0, (R.takeWhile isWord).length⟩ else none
def hexV (r : Nat) : Option Nat := if 48 ≤ r ∧ r ≤ 57 then some (r - 48) else if 97 ≤ r ∧ r ≤ 102 then some (r - 87) else none
/-- n digits, behind those that come to v. -/
def digsF : Nat → Nat → List Pc → Option Nat
  | 0, v, _ => some v
  | _ + 1, _, [] => none
  | n + 1, v, x :: R =>
    match hexV x.1 with
    | none => none
    | some d => digsF n (v * 16 + d) R
/-- What stands behind a backslash: the rune that it says, how many pieces it has. -/
def escF : List Pc → Option (Nat × Nat)
  | [] => none
  | x :: R =>
    if x.1 = 34 ∨ x.1 = 92 then some (x.1, 1)
    else if x.1 = 117 then
      match digsF 4 0 R with
      | some v => if 55296 ≤ v ∧ v ≤ 57343 then none else some (v, 5)
      | none => none
    else none
/-- A text behind its first sign: its runes behind those that were told already; how many pieces stand ahead of its last sign. -/
def textF : List Pc → List Nat → Nat → Option (List Nat × Nat)
  | [], _, _ => none
  | x :: R, Rs, k =>
    if bad x ∨ Ctrl x.1 then none
    else if x.1 = 34 then some (Rs, k)
    else if x.1 = 92 then
      match escF R with
      | none => none
      | some (r, m) => textF (R.drop m) (Rs ++ [r]) (k + 1 + m)
    else textF R (Rs ++ [x.1]) (k + 1)
termination_by R => R.length
decreasing_by all_goals simp; try omega
def textT (R : List Pc) : Option Fd :=
  match textF R [] 0 with
  | none => none
  | some (Rs, k) => if Rs.length ≤ 100 then some ⟨2, encs Rs, 0, k + 1⟩ else none
def isSign (r : Nat) : Bool := [43, 45, 42, 47, 37, 40, 41, 44, 61, 60, 62, 38, 124, 33].contains r
def isTwo (r : Nat) : Bool := [60, 62, 33].contains r
def signF (x : Pc) (R : List Pc) : Option Fd :=
  if isSign x.1 then
    if isTwo x.1 ∧ R.head?.map (·.1) = some 61 then some ⟨4, [UInt8.ofNat x.1, 61], 0, 1⟩ else some ⟨4, [UInt8.ofNat x.1], 0, 0⟩
  else none
def tokF (x : Pc) (R : List Pc) : Option Fd :=
  if classZ (x.1 : Int) = 2 then numF x R else if classZ (x.1 : Int) = 1 then nameF x R else if x.1 = 34 then textT R else signF x R

/-- A token in a formula: its kind, its text, its number, where it begins. -/
structure Tk where
  k : Nat
  s : List UInt8
  n : Nat
  a : Nat
def Fd.tk (f : Fd) (a : Nat) : Tk := ⟨f.k, f.s, f.n, a⟩
def ahead (a : List Tk) : Except Nat (List Tk) → Except Nat (List Tk)
  | .ok l => .ok (a ++ l)
  | .error p => .error p
theorem ahead_nil (r : Except Nat (List Tk)) : ahead [] r = r := by cases r <;> rfl
theorem ahead_ahead (a b : List Tk) (r : Except Nat (List Tk)) : ahead a (ahead b r) = ahead (a ++ b) r := by cases r <;> simp [ahead]
/-- The tokens of a formula, the last one aside; or where the first wrong one begins. -/
def lexR : List Pc → Nat → Except Nat (List Tk)
  | [], _ => .ok []
  | x :: R, p =>
    if classZ (x.1 : Int) = 3 then lexR R (p + x.2.length)
    else
      match tokF x R with
      | none => .error p
      | some f => ahead [f.tk p] (lexR (R.drop f.j) (p + (flat (x :: R.take f.j)).length))
termination_by R => R.length
decreasing_by all_goals simp; try omega
def lexL (l : List UInt8) : Except Nat (List Tk) := lexR (pcs l) 0

theorem textF_nil (Rs : List Nat) (k : Nat) : textF [] Rs k = none := by rw [textF]
theorem textF_cons (x : Pc) (R : List Pc) (Rs : List Nat) (k : Nat) : textF (x :: R) Rs k =
    if bad x ∨ Ctrl x.1 then none
    else if x.1 = 34 then some (Rs, k)
    else if x.1 = 92 then
      match escF R with
      | none => none
      | some (r, m) => textF (R.drop m) (Rs ++ [r]) (k + 1 + m)
    else textF R (Rs ++ [x.1]) (k + 1) := by
  rw [textF]
theorem lexR_nil (p : Nat) : lexR [] p = .ok [] := by rw [lexR]
theorem lexR_blank (x : Pc) (R : List Pc) (p : Nat) (h : classZ (x.1 : Int) = 3) : lexR (x :: R) p = lexR R (p + x.2.length) := by rw [lexR, if_pos h]
theorem lexR_none (x : Pc) (R : List Pc) (p : Nat) (h : classZ (x.1 : Int) ≠ 3) (ht : tokF x R = none) : lexR (x :: R) p = .error p := by rw [lexR, if_neg h, ht]
theorem lexR_some (x : Pc) (R : List Pc) (p : Nat) (h : classZ (x.1 : Int) ≠ 3) (f : Fd) (ht : tokF x R = some f) :
    lexR (x :: R) p = ahead [f.tk p] (lexR (R.drop f.j) (p + (flat (x :: R.take f.j)).length)) := by rw [lexR, if_neg h, ht]
end
end Go.Proofs.YtindkpfmflcibaaGreatDoor
