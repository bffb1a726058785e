/- Plain mathematics: what a value may be, how it is shown; unlike values are shown unlike. No program stands in this text. -/
import Derived.Test.YtbeeeakcjeibgaaDoorVText
import Derived.Lib.ItoaNum
import Derived.Lib.ParseIntB
namespace Go.Proofs.YtbeeeakcjeibgaaDoor
open Go.Lib

/-- May a value be: its kind, its number, its text's bytes. -/
def checkB (K n : Int) (s : List UInt8) : Bool :=
  if K = 0 then decide (n = 0) && decide (s = [])
  else if K = 1 then decide (s = [])
  else if K = 2 then decide (n = 0 ∨ n = 1) && decide (s = [])
  else if K = 3 then decide (n = 0) && (validL s && decide (countL s ≤ 100))
  else if K = 4 then decide (1 ≤ n ∧ n ≤ 4) && decide (s = [])
  else false

def hx (d : Nat) : UInt8 := if d < 10 then UInt8.ofNat (48 + d) else UInt8.ofNat (87 + d)
def hexL (r : Nat) : List UInt8 := [hx (r / 4096 % 16), hx (r / 256 % 16), hx (r / 16 % 16), hx (r % 16)]
def Ctrl (r : Nat) : Prop := r < 32 ∨ (127 ≤ r ∧ r ≤ 159)
instance (r : Nat) : Decidable (Ctrl r) := by unfold Ctrl; infer_instance
/-- A rune as it is shown. -/
def quoteR (r : Nat) : List UInt8 :=
  if r = 34 ∨ r = 92 then [92, UInt8.ofNat r] else if Ctrl r then 92 :: 117 :: hexL r else encodeRune (r : Int)
def quoteM (l : List UInt8) : List UInt8 := (pcs l).flatMap fun x => quoteR x.1
def quoteL (l : List UInt8) : List UInt8 := 34 :: (quoteM l ++ [34])
def showL (K n : Int) (s : List UInt8) : List UInt8 :=
  if K = 1 then itoa n else if K = 2 then (if n = 1 then [116, 114, 117, 101] else [102, 97, 108, 115, 101]) else if K = 3 then quoteL s else if K = 4 then 35 :: itoa n else [45]

theorem quoteM_nil : quoteM [] = [] := rfl
theorem quoteM_step (l : List UInt8) (hne : l ≠ []) : quoteM l = quoteR (decodeL l).1 ++ quoteM (l.drop (decodeL l).2) := by
  unfold quoteM; rw [pcs_step l hne]; simp

/- ### The items of a quoted text: what stands there, what it says -/
inductive It where
  | byte (b : UInt8)
  | esc (c : UInt8)
  | num (r : Nat)
def It.src : It → List UInt8
  | .byte b => [b]
  | .esc c => [92, c]
  | .num r => 92 :: 117 :: hexL r
def It.tgt : It → List UInt8
  | .byte b => [b]
  | .esc c => [c]
  | .num r => encodeRune (r : Int)
def It.ok : It → Prop
  | .byte b => b ≠ 34 ∧ b ≠ 92
  | .esc c => c = 34 ∨ c = 92
  | .num r => r < 160
def srcs (L : List It) : List UInt8 := L.flatMap It.src
def tgts (L : List It) : List UInt8 := L.flatMap It.tgt
theorem srcs_nil : srcs [] = [] := rfl
theorem tgts_nil : tgts [] = [] := rfl
theorem srcs_cons (i : It) (L : List It) : srcs (i :: L) = i.src ++ srcs L := by simp [srcs]
theorem tgts_cons (i : It) (L : List It) : tgts (i :: L) = i.tgt ++ tgts L := by simp [tgts]
theorem srcs_append (L M : List It) : srcs (L ++ M) = srcs L ++ srcs M := by simp [srcs]
theorem tgts_append (L M : List It) : tgts (L ++ M) = tgts L ++ tgts M := by simp [tgts]
theorem srcs_bytes (l : List UInt8) : srcs (l.map It.byte) = l := by
  induction l with
  | nil => rfl
  | cons b l ih => rw [List.map_cons, srcs_cons, ih]; rfl
theorem tgts_bytes (l : List UInt8) : tgts (l.map It.byte) = l := by
  induction l with
  | nil => rfl
  | cons b l ih => rw [List.map_cons, tgts_cons, ih]; rfl

/-- The bytes of a rune that is no sign by itself are neither of the two. -/
theorem encode_plain (r : Nat) (h1 : r ≠ 34) (h2 : r ≠ 92) (h : Scalar (r : Int)) : ∀ b ∈ encodeRune (r : Int), b ≠ 34 ∧ b ≠ 92 := by
  intro b hb
  unfold Scalar at h
  have key : ∀ x : Int, 0 ≤ x → x < 256 → x ≠ 34 → x ≠ 92 → x.toNat.toUInt8 ≠ 34 ∧ x.toNat.toUInt8 ≠ 92 := by
    intro x x0 x1 x2 x3
    have e := u8_of x x0 x1
    constructor <;> (intro e2; rw [e2] at e; simp at e; omega)
  unfold encodeRune at hb
  obtain ⟨x, hx, rfl⟩ := List.mem_map.1 hb
  by_cases c1 : (r : Int) ≤ 127
  · rw [encodeRuneZ_one (by omega) c1] at hx; simp at hx; exact key _ (by omega) (by omega) (by omega) (by omega)
  by_cases c2 : (r : Int) ≤ 2047
  · rw [encodeRuneZ_two (by omega) c2] at hx; simp at hx; exact key _ (by omega) (by omega) (by omega) (by omega)
  by_cases c3 : (r : Int) ≤ 65535
  · rw [encodeRuneZ_three (by omega)] at hx; simp at hx; exact key _ (by omega) (by omega) (by omega) (by omega)
  · rw [encodeRuneZ_four (by omega) (by omega)] at hx; simp at hx; exact key _ (by omega) (by omega) (by omega) (by omega)

theorem encode_byte (r : Nat) (h : r < 128) : encodeRune (r : Int) = [UInt8.ofNat r] := by
  unfold encodeRune; rw [encodeRuneZ_one (by omega) (by omega)]; simp

/-- What a quoted text of runes consists of. -/
theorem quote_items (l : List UInt8) (hv : validL l = true) : ∃ L : List It, (∀ i ∈ L, i.ok) ∧ quoteM l = srcs L ∧ tgts L = l := by
  induction l using pcs_induct with
  | h0 => exact ⟨[], by simp, rfl, rfl⟩
  | h1 l hne ih =>
    have hg : ¬ ((decodeL l).1 = 65533 ∧ (decodeL l).2 = 1) := by
      have := hv; unfold validL at this; rw [pcs_step l hne, List.all_cons] at this
      intro hc
      rw [decide_eq_true ((bad_iff l hne).2 hc)] at this
      simp at this
    have hv2 : validL (l.drop (decodeL l).2) = true := by
      have := hv; unfold validL at this; rw [pcs_step l hne, List.all_cons, Bool.and_eq_true] at this
      exact this.2
    obtain ⟨L, h1, h2, h3⟩ := ih hv2
    have he := encode_decode l hne hg
    have hs := scalar_of l
    rw [quoteM_step l hne]
    have hl : l.take (decodeL l).2 ++ l.drop (decodeL l).2 = l := List.take_append_drop _ _
    generalize (decodeL l).1 = r at he hs
    by_cases c1 : r = 34 ∨ r = 92
    · refine ⟨.esc (UInt8.ofNat r) :: L, ?_, ?_, ?_⟩
      · intro i hi
        rcases List.mem_cons.1 hi with rfl | hi
        · rcases c1 with rfl | rfl
          · exact .inl rfl
          · exact .inr rfl
        · exact h1 i hi
      · rw [srcs_cons, h2]; unfold quoteR; rw [if_pos c1]; rfl
      · rw [tgts_cons, h3]
        show [UInt8.ofNat r] ++ _ = l
        rw [← encode_byte r (by omega), he, hl]
    · by_cases c2 : Ctrl r
      · refine ⟨.num r :: L, ?_, ?_, ?_⟩
        · intro i hi
          rcases List.mem_cons.1 hi with rfl | hi
          · show r < 160
            unfold Ctrl at c2; omega
          · exact h1 i hi
        · rw [srcs_cons, h2]; unfold quoteR; rw [if_neg c1, if_pos c2]; rfl
        · rw [tgts_cons, h3]
          show encodeRune (r : Int) ++ _ = l
          rw [he, hl]
      · refine ⟨(encodeRune (r : Int)).map It.byte ++ L, ?_, ?_, ?_⟩
        · intro i hi
          rcases List.mem_append.1 hi with hi | hi
          · obtain ⟨b, hb, rfl⟩ := List.mem_map.1 hi
            exact encode_plain r (by omega) (by omega) hs b hb
          · exact h1 i hi
        · rw [srcs_append, srcs_bytes, h2]; unfold quoteR; rw [if_neg c1, if_neg c2]
        · rw [tgts_append, tgts_bytes, h3, he, hl]

theorem hexL_ctrl : ∀ r : Fin 160, ∀ q : Fin 160, hexL r.val = hexL q.val → r.val = q.val := by decide +kernel
theorem hexL_len (r : Nat) : (hexL r).length = 4 := rfl
/-- Two lists of items that stand there alike, up to the closing sign, are the same. -/
theorem srcs_inj : ∀ (L M : List It) (s t : List UInt8), (∀ i ∈ L, i.ok) → (∀ i ∈ M, i.ok) → srcs L ++ 34 :: s = srcs M ++ 34 :: t → L = M ∧ s = t
  | [], [], s, t, _, _, h => by simpa [srcs] using h
  | [], i :: M, s, t, _, hM, h => by
    exfalso
    have hi := hM i (by simp)
    rw [srcs_cons, srcs_nil] at h
    cases i with
    | byte b => simp only [It.src, List.nil_append, List.cons_append, List.cons.injEq] at h; exact hi.1 h.1.symm
    | esc c => simp only [It.src, List.nil_append, List.cons_append, List.cons.injEq] at h; exact absurd h.1 (by decide)
    | num r => simp only [It.src, List.nil_append, List.cons_append, List.cons.injEq] at h; exact absurd h.1 (by decide)
  | i :: L, [], s, t, hL, _, h => by
    exfalso
    have hi := hL i (by simp)
    rw [srcs_cons, srcs_nil] at h
    cases i with
    | byte b => simp only [It.src, List.nil_append, List.cons_append, List.cons.injEq] at h; exact hi.1 h.1
    | esc c => simp only [It.src, List.nil_append, List.cons_append, List.cons.injEq] at h; exact absurd h.1 (by decide)
    | num r => simp only [It.src, List.nil_append, List.cons_append, List.cons.injEq] at h; exact absurd h.1 (by decide)
  | i :: L, j :: M, s, t, hL, hM, h => by
    have hi := hL i (by simp)
    have hj := hM j (by simp)
    have ih := srcs_inj L M s t (fun x hx => hL x (by simp [hx])) (fun x hx => hM x (by simp [hx]))
    rw [srcs_cons, srcs_cons] at h
    cases i with
    | byte b =>
      cases j with
      | byte c =>
        simp only [It.src, List.nil_append, List.cons_append, List.cons.injEq] at h
        obtain ⟨rfl, h⟩ := h
        obtain ⟨rfl, rfl⟩ := ih h; exact ⟨rfl, rfl⟩
      | esc c => simp only [It.src, List.nil_append, List.cons_append, List.cons.injEq] at h; exact absurd h.1 hi.2
      | num r => simp only [It.src, List.nil_append, List.cons_append, List.cons.injEq] at h; exact absurd h.1 hi.2
    | esc c =>
      cases j with
      | byte d => simp only [It.src, List.nil_append, List.cons_append, List.cons.injEq] at h; exact absurd h.1.symm hj.2
      | esc d =>
        simp only [It.src, List.nil_append, List.cons_append, List.cons.injEq] at h
        obtain ⟨_, rfl, h⟩ := h
        obtain ⟨rfl, rfl⟩ := ih h; exact ⟨rfl, rfl⟩
      | num r =>
        simp only [It.src, List.nil_append, List.cons_append, List.cons.injEq] at h
        obtain ⟨_, rfl, h⟩ := h
        exfalso
        rcases hi with hi | hi <;> exact absurd hi (by decide)
    | num r =>
      cases j with
      | byte d => simp only [It.src, List.nil_append, List.cons_append, List.cons.injEq] at h; exact absurd h.1.symm hj.2
      | esc d =>
        simp only [It.src, List.nil_append, List.cons_append, List.cons.injEq] at h
        obtain ⟨_, rfl, h⟩ := h
        exfalso
        rcases hj with hj | hj <;> exact absurd hj (by decide)
      | num q =>
        have h2 : hexL r ++ (srcs L ++ 34 :: s) = hexL q ++ (srcs M ++ 34 :: t) := by
          simpa [It.src] using h
        obtain ⟨e1, e2⟩ := List.append_inj h2 (by rw [hexL_len, hexL_len])
        have := hexL_ctrl ⟨r, hi⟩ ⟨q, hj⟩ e1
        obtain rfl : r = q := this
        obtain ⟨rfl, rfl⟩ := ih e2; exact ⟨rfl, rfl⟩
theorem quoteL_inj (a b : List UInt8) (ha : validL a = true) (hb : validL b = true) (h : quoteL a = quoteL b) : a = b := by
  obtain ⟨L, hL, e1, rfl⟩ := quote_items a ha
  obtain ⟨M, hM, e2, rfl⟩ := quote_items b hb
  unfold quoteL at h
  rw [e1, e2] at h
  have := srcs_inj L M [] [] hL hM (by simpa using h)
  rw [this.1]

/- ### Numbers -/
theorem u8_nat (d : Nat) (h : d < 256) : (UInt8.ofNat d).toNat = d := by simp; omega
theorem decDigits_ne (u : Nat) : decDigits u ≠ [] := by
  intro e; have := decDigits_length u; rw [e] at this; have := nDigits_pos u; simp at *; omega
theorem decDigits_digit (u : Nat) : ∀ b ∈ decDigits u, 48 ≤ b.toNat ∧ b.toNat ≤ 57 := by
  induction u using Nat.strongRecOn with
  | _ u ih =>
    intro b hb
    rw [decDigits] at hb
    by_cases h : u < 10
    · rw [dif_pos h] at hb; simp only [List.mem_singleton] at hb; subst hb; rw [u8_nat _ (by omega)]; omega
    · rw [dif_neg h] at hb
      rcases List.mem_append.1 hb with hb | hb
      · exact ih (u / 10) (by omega) b hb
      · simp only [List.mem_singleton] at hb; subst hb; rw [u8_nat _ (by omega)]; omega
theorem decDigits_big (u : Nat) (h : 10 ≤ u) : decDigits u = decDigits (u / 10) ++ [UInt8.ofNat (48 + u % 10)] := by
  rw [decDigits, dif_neg (by omega)]
/-- The first digit is 0 of nothing alone. -/
theorem decDigits_zero (u : Nat) (t : List UInt8) (h : decDigits u = 48 :: t) : u = 0 := by
  induction u using Nat.strongRecOn generalizing t with
  | _ u ih =>
    rw [decDigits] at h
    by_cases hu : u < 10
    · rw [dif_pos hu] at h; simp only [List.cons.injEq] at h
      have := congrArg UInt8.toNat h.1
      rw [u8_nat _ (by omega)] at this
      have e : (48 : UInt8).toNat = 48 := rfl
      omega
    · rw [dif_neg hu] at h
      cases hd : decDigits (u / 10) with
      | nil => exact absurd hd (decDigits_ne _)
      | cons a r =>
        rw [hd, List.cons_append, List.cons.injEq] at h
        have := ih (u / 10) (by omega) r (by rw [hd, h.1])
        omega

theorem parseM_snoc (M : Nat) : ∀ (l : List UInt8) (acc v : Nat) (d : Nat), parseUintM M acc l = .ok v → d < 10 → v < 1844674407370955162 → v * 10 + d ≤ M → parseUintM M acc (l ++ [UInt8.ofNat (48 + d)]) = .ok (v * 10 + d)
  | [], acc, v, d, h, hd, hv, hM => by
    simp only [parseUintM, NumEnd.ok.injEq] at h
    subst h
    have e := u8_nat (48 + d) (by omega)
    simp only [List.nil_append, parseUintM, e]
    rw [if_pos (by omega), if_neg (by omega), if_neg (by omega)]
    simp
  | c :: l, acc, v, d, h, hd, hv, hM => by
    rw [List.cons_append]
    unfold parseUintM at h ⊢
    split at h
    · rename_i hc
      rw [if_pos hc]
      split at h
      · cases h
      · rename_i h1
        rw [if_neg h1]
        split at h
        · cases h
        · rename_i h2
          rw [if_neg h2]
          exact parseM_snoc M l _ v d h hd hv hM
    · cases h
theorem parseM_digits (M u : Nat) (hM : M ≤ 18446744073709551615) (h : u ≤ M) : parseUintM M 0 (decDigits u) = .ok u := by
  induction u using Nat.strongRecOn with
  | _ u ih =>
    rw [decDigits]
    by_cases hu : u < 10
    · rw [dif_pos hu]
      have e := u8_nat (48 + u) (by omega)
      simp only [parseUintM, e]
      rw [if_pos (by omega), if_neg (by omega), if_neg (by omega)]
      simp
    · rw [dif_neg hu]
      have := parseM_snoc M _ 0 (u / 10) (u % 10) (ih (u / 10) (by omega) (by omega)) (by omega) (by omega) (by omega)
      rw [this]; congr 1; omega
theorem parse_itoa (n : Int) (h0 : -9223372036854775808 ≤ n) (h1 : n ≤ 9223372036854775807) : parseIntB 64 (itoa n) = .ok n := by
  unfold itoa
  have eC : (2 : Nat) ^ (64 - 1) = 9223372036854775808 := by decide
  have eM : (2 : Nat) ^ 64 - 1 = 18446744073709551615 := by decide
  by_cases hn : n < 0
  · rw [if_pos hn]
    have hp : parseUintB 64 (decDigits n.natAbs) = .ok n.natAbs := by
      unfold parseUintB; rw [if_neg (decDigits_ne _), eM]; exact parseM_digits _ _ (by omega) (by omega)
    simp only [parseIntB]
    rw [if_pos (.inr rfl), hp, eC]
    dsimp only
    rw [if_neg (by intro h; exact h.1 rfl), if_neg (by omega)]
    refine congrArg NumEnd.ok ?_
    rw [if_pos (show (45 : UInt8).toNat = 45 from rfl)]
    omega
  · rw [if_neg hn]
    cases hd : decDigits n.toNat with
    | nil => exact absurd hd (decDigits_ne _)
    | cons c r =>
      have hc := decDigits_digit n.toNat c (by rw [hd]; simp)
      have hp : parseUintB 64 (c :: r) = .ok n.toNat := by
        rw [← hd]
        unfold parseUintB; rw [if_neg (decDigits_ne _), eM]; exact parseM_digits _ _ (by omega) (by omega)
      simp only [parseIntB]
      rw [if_neg (by omega), hp, eC]
      dsimp only
      rw [if_neg (by omega), if_neg (by omega), if_neg (by omega)]
      congr 1; omega
theorem itoa_inj (n m : Int) (h0 : -9223372036854775808 ≤ n) (h1 : n ≤ 9223372036854775807) (g0 : -9223372036854775808 ≤ m) (g1 : m ≤ 9223372036854775807) (h : itoa n = itoa m) : n = m := by
  have a := parse_itoa n h0 h1
  rw [h, parse_itoa m g0 g1] at a
  cases a; rfl
/-- A number's first sign. -/
theorem itoa_head (n : Int) : ∃ c r, itoa n = c :: r ∧ ((c.toNat = 45 ∧ n < 0 ∧ r ≠ []) ∨ (48 ≤ c.toNat ∧ c.toNat ≤ 57 ∧ 0 ≤ n)) := by
  unfold itoa
  by_cases hn : n < 0
  · rw [if_pos hn]; exact ⟨45, _, rfl, .inl ⟨rfl, hn, decDigits_ne _⟩⟩
  · rw [if_neg hn]
    cases hd : decDigits n.toNat with
    | nil => exact absurd hd (decDigits_ne _)
    | cons c r =>
      have hc := decDigits_digit n.toNat c (by rw [hd]; simp)
      exact ⟨c, r, rfl, .inr ⟨hc.1, hc.2, by omega⟩⟩
theorem itoa_small (n : Int) (h0 : 0 ≤ n) (h1 : n < 10) : itoa n = [UInt8.ofNat (48 + n.toNat)] := by
  unfold itoa; rw [if_neg (by omega), decDigits_one (by omega)]

/- ### What may be -/
theorem check_kind {K n : Int} {s : List UInt8} (h : checkB K n s = true) :
    (K = 0 ∧ n = 0 ∧ s = []) ∨ (K = 1 ∧ s = []) ∨ (K = 2 ∧ (n = 0 ∨ n = 1) ∧ s = []) ∨ (K = 3 ∧ n = 0 ∧ validL s = true ∧ countL s ≤ 100) ∨ (K = 4 ∧ 1 ≤ n ∧ n ≤ 4 ∧ s = []) := by
  unfold checkB at h
  split at h
  · simp at h; exact .inl ⟨by assumption, h.1, h.2⟩
  split at h
  · simp at h; exact .inr (.inl ⟨by assumption, h⟩)
  split at h
  · simp at h; exact .inr (.inr (.inl ⟨by assumption, h.1, h.2⟩))
  split at h
  · simp at h; exact .inr (.inr (.inr (.inl ⟨by assumption, h.1, h.2.1, h.2.2⟩)))
  split at h
  · simp at h; exact .inr (.inr (.inr (.inr ⟨by assumption, h.1.1, h.1.2, h.2⟩)))
  · simp at h

theorem show_0 (n : Int) (s : List UInt8) : showL 0 n s = [45] := rfl
theorem show_1 (n : Int) (s : List UInt8) : showL 1 n s = itoa n := rfl
theorem show_2 (n : Int) (s : List UInt8) : showL 2 n s = if n = 1 then [116, 114, 117, 101] else [102, 97, 108, 115, 101] := rfl
theorem show_3 (n : Int) (s : List UInt8) : showL 3 n s = quoteL s := rfl
theorem show_4 (n : Int) (s : List UInt8) : showL 4 n s = 35 :: itoa n := rfl

/-- Of what may be: what is shown alike is the same. -/
theorem show_inj (K n : Int) (s : List UInt8) (L m : Int) (t : List UInt8) (h0 : -9223372036854775808 ≤ n) (h1 : n ≤ 9223372036854775807) (g0 : -9223372036854775808 ≤ m) (g1 : m ≤ 9223372036854775807)
    (ha : checkB K n s = true) (hb : checkB L m t = true) (h : showL K n s = showL L m t) : K = L ∧ n = m ∧ s = t := by
  obtain ⟨c, r, hc, hc2⟩ := itoa_head n
  obtain ⟨d, q, hd, hd2⟩ := itoa_head m
  have hcz : ∀ k : Nat, (k < 48 ∨ 57 < k) → k ≠ 45 → k < 256 → c ≠ UInt8.ofNat k := by
    intro k h1 h2 h3 e; rw [e, u8_nat k h3] at hc2; omega
  have hdz : ∀ k : Nat, (k < 48 ∨ 57 < k) → k ≠ 45 → k < 256 → d ≠ UInt8.ofNat k := by
    intro k h1 h2 h3 e; rw [e, u8_nat k h3] at hd2; omega
  have c34 := hcz 34 (by omega) (by omega) (by omega)
  have c35 := hcz 35 (by omega) (by omega) (by omega)
  have c116 := hcz 116 (by omega) (by omega) (by omega)
  have c102 := hcz 102 (by omega) (by omega) (by omega)
  have d34 := hdz 34 (by omega) (by omega) (by omega)
  have d35 := hdz 35 (by omega) (by omega) (by omega)
  have d116 := hdz 116 (by omega) (by omega) (by omega)
  have d102 := hdz 102 (by omega) (by omega) (by omega)
  change c ≠ 34 at c34; change c ≠ 35 at c35; change c ≠ 116 at c116; change c ≠ 102 at c102
  change d ≠ 34 at d34; change d ≠ 35 at d35; change d ≠ 116 at d116; change d ≠ 102 at d102
  have hci : itoa n ≠ [45] := by
    rw [hc]; intro e; simp only [List.cons.injEq] at e
    rcases hc2 with ⟨_, _, h⟩ | ⟨h, _, _⟩
    · exact h e.2
    · rw [e.1] at h; exact absurd h (by decide)
  have hdi : itoa m ≠ [45] := by
    rw [hd]; intro e; simp only [List.cons.injEq] at e
    rcases hd2 with ⟨_, _, h⟩ | ⟨h, _, _⟩
    · exact h e.2
    · rw [e.1] at h; exact absurd h (by decide)
  rcases check_kind ha with ⟨rfl, rfl, rfl⟩ | ⟨rfl, rfl⟩ | ⟨rfl, hn, rfl⟩ | ⟨rfl, rfl, hv, _⟩ | ⟨rfl, hn, hn2, rfl⟩ <;>
    rcases check_kind hb with ⟨rfl, rfl, rfl⟩ | ⟨rfl, rfl⟩ | ⟨rfl, hm, rfl⟩ | ⟨rfl, rfl, hw, _⟩ | ⟨rfl, hm, hm2, rfl⟩ <;>
    simp only [show_0, show_1, show_2, show_3, show_4] at h
  · exact ⟨rfl, rfl, rfl⟩
  · exact absurd h.symm hdi
  · split at h <;> simp at h
  · simp [quoteL] at h
  · simp at h
  · exact absurd h hci
  · exact ⟨rfl, itoa_inj n m h0 h1 g0 g1 h, rfl⟩
  · rw [hc] at h; split at h
    · simp only [List.cons.injEq] at h; exact absurd h.1 c116
    · simp only [List.cons.injEq] at h; exact absurd h.1 c102
  · rw [hc] at h; simp only [quoteL, List.cons.injEq] at h; exact absurd h.1 c34
  · rw [hc] at h; simp only [List.cons.injEq] at h; exact absurd h.1 c35
  · split at h <;> simp at h
  · rw [hd] at h; split at h
    · simp only [List.cons.injEq] at h; exact absurd h.1.symm d116
    · simp only [List.cons.injEq] at h; exact absurd h.1.symm d102
  · rcases hn with rfl | rfl <;> rcases hm with rfl | rfl
    · exact ⟨rfl, rfl, rfl⟩
    · exact absurd h (by decide)
    · exact absurd h (by decide)
    · exact ⟨rfl, rfl, rfl⟩
  · split at h <;> simp [quoteL] at h
  · split at h <;> simp at h
  · simp [quoteL] at h
  · rw [hd] at h; simp only [quoteL, List.cons.injEq] at h; exact absurd h.1.symm d34
  · split at h <;> simp [quoteL] at h
  · exact ⟨rfl, rfl, quoteL_inj s t hv hw h⟩
  · simp [quoteL] at h
  · simp at h
  · rw [hd] at h; simp only [List.cons.injEq] at h; exact absurd h.1.symm d35
  · split at h <;> simp at h
  · simp [quoteL] at h
  · simp only [List.cons.injEq, true_and] at h; exact ⟨rfl, itoa_inj n m h0 h1 g0 g1 h, rfl⟩
end Go.Proofs.YtbeeeakcjeibgaaDoor
