/- Several texts in one: LexA, LexM. -/
import Derived.Test.YtindkpfmflcibaaGreatDoorGA
namespace Go.Proofs.YtindkpfmflcibaaGreatDoor
/- Plain mathematics: a formula's bytes and its pieces: what is ASCII; digits and what they come to; what stands behind a backslash; signs. No program stands in this text. -/
section
open Go.Lib

theorem dec_asc (b : UInt8) (r : List UInt8) (h : b.toNat < 128) : decodeL (b :: r) = (b.toNat, 1) := by
  rw [decodeL_N]; exact decodeN_one _ _ _ _ _ h
theorem pcs_asc (b : UInt8) (r : List UInt8) (h : b.toNat < 128) : pcs (b :: r) = (b.toNat, [b]) :: pcs r := by
  rw [pcs_step _ (by simp), dec_asc b r h]; rfl
theorem dec_high (b : UInt8) (r : List UInt8) (h : 128 ≤ b.toNat) : 128 ≤ (decodeL (b :: r)).1 := by
  rw [decodeL_N]
  simp only [List.getD_cons_zero]
  rcases decodeN_shape (b :: r).length b.toNat ((b :: r).getD 1 0).toNat ((b :: r).getD 2 0).toNat ((b :: r).getD 3 0).toNat with ⟨c, e⟩ | ⟨a1, a2, a3, av, e⟩ | ⟨a1, a2, a3, a4, av, asr, e⟩ | ⟨a1, a2, a3, a4, a5, av, aw, e⟩ | e
  all_goals rw [e]; dsimp only; omega
/-- A text's first piece, and its first byte. -/
theorem head_asc {l : List UInt8} {x : Pc} {R : List Pc} (h : pcs l = x :: R) (hx : x.1 < 128) : l = UInt8.ofNat x.1 :: flat R ∧ pcs (flat R) = R := by
  have hP : Pcd (x :: R) := h ▸ Pcd.of l
  refine ⟨?_, hP.tail⟩
  have := flat_pcs l
  rw [h, flat_cons, hP.head.one hx] at this
  exact this.symm
theorem head_byte {l : List UInt8} {x : Pc} {R : List Pc} (h : pcs l = x :: R) : ∃ b r, l = b :: r ∧ ((b.toNat < 128 ∧ x.1 = b.toNat ∧ x.2 = [b] ∧ R = pcs r) ∨ (128 ≤ b.toNat ∧ 128 ≤ x.1)) := by
  cases l with
  | nil => cases h
  | cons b r =>
    refine ⟨b, r, rfl, ?_⟩
    by_cases hb : b.toNat < 128
    · rw [pcs_asc b r hb] at h
      injection h with h1 h2
      rw [← h1]
      exact .inl ⟨hb, rfl, rfl, h2.symm⟩
    · have := dec_high b r (by omega)
      rw [pcs_step _ (by simp)] at h
      injection h with h1 h2
      rw [← h1]
      exact .inr ⟨by omega, this⟩

/- ### Digits -/
theorem flat_digs : ∀ (D : List Pc), (∀ x ∈ D, Fit x ∧ classZ (x.1 : Int) = 2) → ∀ b ∈ flat D, 48 ≤ b.toNat ∧ b.toNat ≤ 57
  | [], _, b, hb => by cases hb
  | x :: D, h, b, hb => by
    rw [flat_cons] at hb
    rcases List.mem_append.1 hb with hb | hb
    · obtain ⟨hf, hc⟩ := h x (by simp)
      have hr : (48 : Int) ≤ x.1 ∧ (x.1 : Int) ≤ 57 := by
        rcases class_cases (x.1 : Int) with ⟨_, h⟩ | ⟨h, _⟩ | ⟨h, _⟩ | ⟨h, _⟩
        · exact h
        all_goals omega
      rw [hf.one (by omega)] at hb
      simp only [List.mem_singleton] at hb
      subst hb
      rw [u8_nat _ (by omega)]; omega
    · exact flat_digs D (fun y hy => h y (by simp [hy])) b hb
def valFrom (a : Nat) (l : List UInt8) : Nat := l.foldl (fun a c => a * 10 + (c.toNat - 48)) a
theorem valFrom_ge (l : List UInt8) : ∀ a, a ≤ valFrom a l := by
  induction l with
  | nil => intro a; exact Nat.le_refl _
  | cons c l ih => intro a; exact Nat.le_trans (by omega) (ih (a * 10 + (c.toNat - 48)))
theorem parseM_ok (M : Nat) (hM : M ≤ 18446744073709551615) : ∀ (l : List UInt8) (a : Nat), (∀ b ∈ l, 48 ≤ b.toNat ∧ b.toNat ≤ 57) → (valFrom a l ≤ M → parseUintM M a l = .ok (valFrom a l)) ∧ (M < valFrom a l → (M < a → False) → ∀ u, parseUintM M a l ≠ .ok u)
  | [], a, _ => ⟨fun _ => rfl, fun h h2 => (h2 h).elim⟩
  | c :: l, a, h => by
    have hc := h c (by simp)
    have ih := parseM_ok M hM l (a * 10 + (c.toNat - 48)) (fun b hb => h b (by simp [hb]))
    have hge := valFrom_ge l (a * 10 + (c.toNat - 48))
    have e : valFrom a (c :: l) = valFrom (a * 10 + (c.toNat - 48)) l := rfl
    rw [e]
    unfold parseUintM
    rw [if_pos hc]
    constructor
    · intro hle
      rw [if_neg (by omega), if_neg (by omega)]
      exact ih.1 hle
    · intro hlt _ u
      by_cases h1 : 1844674407370955162 ≤ a
      · rw [if_pos h1]; intro e; cases e
      · rw [if_neg h1]
        by_cases h2 : M < a * 10 + (c.toNat - 48)
        · rw [if_pos h2]; intro e; cases e
        · rw [if_neg h2]; exact ih.2 hlt h2 u
theorem parse_digs (l : List UInt8) (hne : l ≠ []) (hd : ∀ b ∈ l, 48 ≤ b.toNat ∧ b.toNat ≤ 57) :
    (valN l < 9223372036854775808 → parseIntB 64 l = .ok (valN l : Int)) ∧ (9223372036854775808 ≤ valN l → ∀ z, parseIntB 64 l ≠ .ok z) := by
  have eC : (2 : Nat) ^ (64 - 1) = 9223372036854775808 := by decide
  have eM : (2 : Nat) ^ 64 - 1 = 18446744073709551615 := by decide
  cases l with
  | nil => exact absurd rfl hne
  | cons c r =>
    have hc := hd c (by simp)
    have hk := parseM_ok 18446744073709551615 (Nat.le_refl _) (c :: r) 0 hd
    have e : valFrom 0 (c :: r) = valN (c :: r) := rfl
    rw [e] at hk
    have hU : parseUintB 64 (c :: r) = parseUintM 18446744073709551615 0 (c :: r) := by unfold parseUintB; rw [if_neg hne, eM]
    constructor
    · intro hv
      simp only [parseIntB]
      rw [if_neg (by omega), hU, hk.1 (by omega), eC]
      dsimp only
      rw [if_neg (by omega), if_neg (by omega), if_neg (by omega)]
    · intro hv z
      simp only [parseIntB]
      rw [if_neg (by omega), hU]
      by_cases h1 : valN (c :: r) ≤ 18446744073709551615
      · rw [hk.1 h1, eC]
        dsimp only
        rw [if_pos (by omega)]
        intro e; cases e
      · have h2 := hk.2 (by omega) (by omega)
        cases hp : parseUintM 18446744073709551615 0 (c :: r) with
        | ok u => exact absurd hp (h2 u)
        | _ => intro e; cases e

/- ### Behind a backslash -/
def digsB : Nat → Nat → List UInt8 → Option Nat
  | 0, v, _ => some v
  | _ + 1, _, [] => none
  | n + 1, v, b :: r =>
    match hexV b.toNat with
    | none => none
    | some d => digsB n (v * 16 + d) r
theorem hexV_high {r : Nat} (h : 128 ≤ r) : hexV r = none := by unfold hexV; rw [if_neg (by omega), if_neg (by omega)]
theorem hexV_some {r d : Nat} (h : hexV r = some d) : r < 128 ∧ d < 16 := by
  unfold hexV at h
  split at h
  · injection h with h; omega
  · split at h
    · injection h with h; omega
    · cases h
theorem digs_bytes : ∀ (n v : Nat) (l : List UInt8), digsF n v (pcs l) = digsB n v l
  | 0, v, l => by simp [digsF, digsB]
  | n + 1, v, [] => rfl
  | n + 1, v, b :: r => by
    by_cases hb : b.toNat < 128
    · rw [pcs_asc b r hb]
      unfold digsF digsB
      dsimp only
      cases hexV b.toNat with
      | none => rfl
      | some d => exact digs_bytes n _ r
    · rw [pcs_step _ (by simp)]
      unfold digsF digsB
      dsimp only
      rw [hexV_high (dec_high b r (by omega)), hexV_high (show 128 ≤ b.toNat by omega)]
theorem digsB_lt : ∀ (n v : Nat) (l : List UInt8) (u : Nat), digsB n v l = some u → n ≤ l.length ∧ u < (v + 1) * 16 ^ n
  | 0, v, l, u, h => by
    injection h with h
    subst h; simp
  | n + 1, v, [], u, h => by cases h
  | n + 1, v, b :: r, u, h => by
    unfold digsB at h
    cases hh : hexV b.toNat with
    | none => rw [hh] at h; cases h
    | some d =>
      rw [hh] at h
      have hd := (hexV_some hh).2
      have ih := digsB_lt n (v * 16 + d) r u h
      refine ⟨by simp only [List.length_cons]; omega, Nat.lt_of_lt_of_le ih.2 ?_⟩
      rw [Nat.pow_succ, Nat.mul_comm (16 ^ n) 16, ← Nat.mul_assoc]
      exact Nat.mul_le_mul_right _ (by omega)
/-- The same of a text's bytes. -/
def escB : List UInt8 → Option (Nat × Nat)
  | [] => none
  | b :: l =>
    if b.toNat = 34 ∨ b.toNat = 92 then some (b.toNat, 1)
    else if b.toNat = 117 then
      match digsB 4 0 l with
      | some v => if 55296 ≤ v ∧ v ≤ 57343 then none else some (v, 5)
      | none => none
    else none
theorem esc_bytes (l : List UInt8) : escF (pcs l) = escB l := by
  cases l with
  | nil => rfl
  | cons b r =>
    by_cases hb : b.toNat < 128
    · rw [pcs_asc b r hb]
      unfold escF escB
      dsimp only
      rw [digs_bytes]
      cases digsB 4 0 r <;> rfl
    · have h2 := dec_high b r (by omega)
      rw [pcs_step _ (by simp)]
      unfold escF escB
      dsimp only
      rw [if_neg (by omega), if_neg (by omega), if_neg (by omega), if_neg (by omega)]
/-- The pieces that a backslash takes in are ASCII. -/
theorem digsF_len : ∀ (n v : Nat) (R : List Pc) (u : Nat), digsF n v R = some u → n ≤ R.length ∧ (∀ x ∈ R.take n, x.1 < 128) ∧ u < (v + 1) * 16 ^ n
  | 0, v, R, u, h => by
    simp only [digsF, Option.some.injEq] at h
    subst h
    exact ⟨Nat.zero_le _, fun x hx => by simp at hx, by simp⟩
  | n + 1, v, [], u, h => by cases h
  | n + 1, v, x :: R, u, h => by
    unfold digsF at h
    cases hh : hexV x.1 with
    | none => rw [hh] at h; cases h
    | some d =>
      rw [hh] at h
      have hd := hexV_some hh
      have ih := digsF_len n (v * 16 + d) R u h
      refine ⟨by simp only [List.length_cons]; omega, ?_, Nat.lt_of_lt_of_le ih.2.2 ?_⟩
      · intro y hy
        rw [List.take_succ_cons] at hy
        rcases List.mem_cons.1 hy with rfl | hy
        · exact hd.1
        · exact ih.2.1 y hy
      · rw [Nat.pow_succ, Nat.mul_comm (16 ^ n) 16, ← Nat.mul_assoc]
        exact Nat.mul_le_mul_right _ (by omega)
theorem escF_len {R : List Pc} {r m : Nat} (h : escF R = some (r, m)) : 1 ≤ m ∧ m ≤ R.length ∧ (∀ x ∈ R.take m, x.1 < 128) ∧ Scalar (r : Int) ∧ r < 65536 := by
  cases R with
  | nil => cases h
  | cons x R =>
    unfold escF at h
    dsimp only at h
    by_cases h1 : x.1 = 34 ∨ x.1 = 92
    · rw [if_pos h1] at h
      injection h with h
      injection h with h2 h3
      subst h2 h3
      refine ⟨Nat.le_refl _, by simp, ?_, by unfold Scalar; omega, by omega⟩
      intro y hy
      simp only [List.take_succ_cons, List.take_zero, List.mem_singleton] at hy
      subst hy; omega
    · rw [if_neg h1] at h
      by_cases h2 : x.1 = 117
      · rw [if_pos h2] at h
        cases hd : digsF 4 0 R with
        | none => rw [hd] at h; cases h
        | some v =>
          rw [hd] at h
          dsimp only at h
          have hl := digsF_len 4 0 R v hd
          by_cases h3 : 55296 ≤ v ∧ v ≤ 57343
          · rw [if_pos h3] at h; cases h
          · rw [if_neg h3] at h
            injection h with h
            injection h with h4 h5
            subst h4 h5
            refine ⟨by omega, by simp only [List.length_cons]; omega, ?_, by unfold Scalar; omega, by omega⟩
            intro y hy
            rw [List.take_succ_cons] at hy
            rcases List.mem_cons.1 hy with rfl | hy
            · omega
            · exact hl.2.1 y hy
      · rw [if_neg h2] at h; cases h
theorem flat_ascii {R : List Pc} (h : ∀ x ∈ R, Fit x) {m : Nat} (hm : m ≤ R.length) (ha : ∀ x ∈ R.take m, x.1 < 128) : (flat (R.take m)).length = m := by
  induction m generalizing R with
  | zero => rw [List.take_zero]; rfl
  | succ m ih =>
    cases R with
    | nil => simp at hm
    | cons x R =>
      rw [List.take_succ_cons] at ha ⊢
      rw [flat_cons, List.length_append, (h x (by simp)).len (ha x (by simp)), ih (fun y hy => h y (by simp [hy])) (by simpa using hm) (fun y hy => ha y (by simp [hy]))]
      omega
/-- Pieces are no fewer than their bytes are not none. -/
theorem flat_len {R : List Pc} (h : ∀ x ∈ R, Fit x) : R.length ≤ (flat R).length := by
  induction R with
  | nil => simp
  | cons x R ih =>
    have := (h x (by simp)).pos
    have := ih (fun y hy => h y (by simp [hy]))
    rw [flat_cons, List.length_append, List.length_cons]; omega

/- ### Signs -/
theorem isSign_iff (r : Nat) : isSign r = true ↔ (r = 43 ∨ r = 45 ∨ r = 42 ∨ r = 47 ∨ r = 37 ∨ r = 40 ∨ r = 41 ∨ r = 44 ∨ r = 61 ∨ r = 60 ∨ r = 62 ∨ r = 38 ∨ r = 124 ∨ r = 33) := by
  unfold isSign; simp
theorem isTwo_iff (r : Nat) : isTwo r = true ↔ (r = 60 ∨ r = 62 ∨ r = 33) := by
  unfold isTwo; simp
theorem isSign_lt {r : Nat} (h : isSign r = true) : r < 128 := by have := (isSign_iff r).1 h; omega
def sgnB : List UInt8 → Nat
  | [] => 0
  | b :: l => if isSign b.toNat then (if isTwo b.toNat ∧ l.head? = some 61 then 2 else 1) else 0
theorem sgnB_cons (b : UInt8) (l : List UInt8) : sgnB (b :: l) = if isSign b.toNat then (if isTwo b.toNat ∧ l.head? = some 61 then 2 else 1) else 0 := rfl
theorem head61 (l : List UInt8) : (pcs l).head?.map (·.1) = some 61 ↔ l.head? = some 61 := by
  cases l with
  | nil => simp [pcs_nil]
  | cons b r =>
    by_cases hb : b.toNat < 128
    · rw [pcs_asc b r hb]
      simp only [List.head?_cons, Option.map_some, Option.some.injEq]
      exact ⟨fun h => UInt8.toNat_inj.1 h, fun h => by rw [h]; rfl⟩
    · have h2 := dec_high b r (by omega)
      rw [pcs_step _ (by simp)]
      simp only [List.head?_cons, Option.map_some, Option.some.injEq]
      exact ⟨fun h => by omega, fun h => by subst h; exact absurd hb (by decide)⟩
/-- A sign's bytes. -/
theorem sgn_bytes {l : List UInt8} {x : Pc} {R : List Pc} (h : pcs l = x :: R) : match signF x R with
    | none => sgnB l = 0
    | some f => sgnB l = f.j + 1 ∧ f.k = 4 ∧ f.n = 0 ∧ f.s = l.take (f.j + 1) ∧ f.j ≤ R.length ∧ (flat (x :: R.take f.j)).length = f.j + 1 ∧ f.s = flat (x :: R.take f.j) := by
  obtain ⟨b, r, rfl, ⟨hb, h1, h2, h3⟩ | ⟨hb, hx⟩⟩ := head_byte h
  · subst h3
    unfold signF
    rw [sgnB_cons]
    rw [h1]
    by_cases hs : isSign b.toNat = true
    · rw [if_pos hs, if_pos hs]
      by_cases h4 : isTwo b.toNat = true ∧ (pcs r).head?.map (·.1) = some 61
      · rw [if_pos h4, if_pos ⟨h4.1, (head61 r).1 h4.2⟩]
        obtain ⟨r2, rfl⟩ : ∃ r2, r = 61 :: r2 := by
          have := (head61 r).1 h4.2
          cases r with
          | nil => cases this
          | cons c r2 => simp only [List.head?_cons, Option.some.injEq] at this; exact ⟨r2, by rw [this]⟩
        have e : pcs (61 :: r2) = (61, [61]) :: pcs r2 := pcs_asc 61 r2 (by decide)
        rw [e]
        refine ⟨rfl, rfl, rfl, ?_, by simp, ?_, ?_⟩
        · simp
        · simp [flat_cons, flat_nil, h2]
        · simp [flat_cons, flat_nil, h2]
      · rw [if_neg h4, if_neg (fun hh => h4 ⟨hh.1, (head61 r).2 hh.2⟩)]
        refine ⟨rfl, rfl, rfl, ?_, Nat.zero_le _, ?_, ?_⟩
        · simp
        · simp [flat_cons, flat_nil, h2]
        · simp [flat_cons, flat_nil, h2]
    · rw [if_neg hs, if_neg hs]
  · have n1 : ¬ isSign x.1 = true := fun hh => by have := isSign_lt hh; omega
    have n2 : ¬ isSign b.toNat = true := fun hh => by have := isSign_lt hh; omega
    unfold signF
    rw [sgnB_cons]
    rw [if_neg n1, if_neg n2]
end
/- Plain mathematics: formulas put one behind the other with a blank between have both one's tokens; what stands between two tokens is the first one's and blanks; a text that is quoted is one token. No program stands in this text. -/
section
open Go.Lib

theorem textF_len : ∀ (n : Nat) (R : List Pc) (Rs : List Nat) (k : Nat) (Rs' : List Nat) (k' : Nat), R.length ≤ n → textF R Rs k = some (Rs', k') → k ≤ k' ∧ k' + 1 ≤ k + R.length
  | n, [], Rs, k, Rs', k', _, h => by rw [textF_nil] at h; cases h
  | 0, x :: R, Rs, k, Rs', k', hl, _ => by simp at hl
  | n + 1, x :: R, Rs, k, Rs', k', hl, h => by
    rw [textF_cons] at h
    simp only [List.length_cons] at hl ⊢
    by_cases h1 : bad x ∨ Ctrl x.1
    · rw [if_pos h1] at h; cases h
    · rw [if_neg h1] at h
      by_cases h2 : x.1 = 34
      · rw [if_pos h2] at h
        injection h with h
        injection h with h3 h4
        omega
      · rw [if_neg h2] at h
        by_cases h3 : x.1 = 92
        · rw [if_pos h3] at h
          cases he : escF R with
          | none => rw [he] at h; cases h
          | some q =>
            obtain ⟨r, m⟩ := q
            rw [he] at h
            dsimp only at h
            obtain ⟨e1, e2, -⟩ := escF_len he
            have := textF_len n (R.drop m) _ _ Rs' k' (by rw [List.length_drop]; omega) h
            rw [List.length_drop] at this
            omega
        · rw [if_neg h3] at h
          have := textF_len n R _ _ Rs' k' (by omega) h
          omega
theorem takeWhile_len (p : Pc → Bool) (R : List Pc) : (R.takeWhile p).length ≤ R.length := (List.takeWhile_prefix p).length_le
theorem tokF_len {x : Pc} {R : List Pc} {f : Fd} (h : tokF x R = some f) : f.j ≤ R.length := by
  unfold tokF at h
  split at h
  · unfold numF at h
    split at h
    · injection h with h; subst h; exact takeWhile_len _ _
    · cases h
  · split at h
    · unfold nameF at h
      split at h
      · injection h with h; subst h; exact takeWhile_len _ _
      · cases h
    · split at h
      · unfold textT at h
        split at h
        · cases h
        · rename_i Rs k hz
          split at h
          · injection h with h; subst h
            have := textF_len R.length R [] 0 Rs k (Nat.le_refl _) hz
            dsimp only; omega
          · cases h
      · unfold signF at h
        split at h
        · split at h
          · rename_i h2
            injection h with h; subst h
            dsimp only
            cases R with
            | nil => simp at h2
            | cons y R => simp
          · injection h with h; subst h; exact Nat.zero_le _
        · cases h

/- ### With something behind -/
abbrev Blank (y : Pc) : Prop := classZ (y.1 : Int) = 3
theorem blank_dig {y : Pc} (h : Blank y) : isDig y = false := by unfold isDig; rw [h]; rfl
theorem blank_word {y : Pc} (h : Blank y) : isWord y = false := by unfold isWord; rw [h]; rfl
theorem takeWhile_stop (p : Pc → Bool) {y : Pc} (hy : p y = false) : ∀ (R Q : List Pc), (R ++ y :: Q).takeWhile p = R.takeWhile p
  | [], Q => by simp [hy]
  | x :: R, Q => by
    rw [List.cons_append, List.takeWhile_cons, List.takeWhile_cons, takeWhile_stop p hy R Q]
theorem numF_app {y : Pc} (hy : Blank y) (x : Pc) (R Q : List Pc) : numF x (R ++ y :: Q) = numF x R := by
  unfold numF; rw [takeWhile_stop _ (blank_dig hy)]
theorem nameF_app {y : Pc} (hy : Blank y) (x : Pc) (R Q : List Pc) : nameF x (R ++ y :: Q) = nameF x R := by
  unfold nameF; rw [takeWhile_stop _ (blank_word hy)]
theorem digsF_app : ∀ (n v : Nat) (R Q : List Pc) (u : Nat), digsF n v R = some u → digsF n v (R ++ Q) = some u
  | 0, v, R, Q, u, h => by simpa [digsF] using h
  | n + 1, v, [], Q, u, h => by cases h
  | n + 1, v, x :: R, Q, u, h => by
    rw [List.cons_append]
    unfold digsF at h ⊢
    cases hh : hexV x.1 with
    | none => rw [hh] at h; cases h
    | some d =>
      rw [hh] at h
      exact digsF_app n _ R Q u h
theorem escF_app {R : List Pc} (Q : List Pc) {z : Nat × Nat} (h : escF R = some z) : escF (R ++ Q) = some z := by
  cases R with
  | nil => cases h
  | cons x R =>
    rw [List.cons_append]
    unfold escF at h ⊢
    dsimp only at h ⊢
    by_cases h1 : x.1 = 34 ∨ x.1 = 92
    · rw [if_pos h1] at h ⊢; exact h
    · rw [if_neg h1] at h ⊢
      by_cases h2 : x.1 = 117
      · rw [if_pos h2] at h ⊢
        cases hd : digsF 4 0 R with
        | none => rw [hd] at h; cases h
        | some v => rw [hd] at h; rw [digsF_app 4 0 R Q v hd]; exact h
      · rw [if_neg h2] at h; cases h
theorem textF_app : ∀ (n : Nat) (R Q : List Pc) (Rs : List Nat) (k : Nat) (z : List Nat × Nat), R.length ≤ n → textF R Rs k = some z → textF (R ++ Q) Rs k = some z
  | n, [], Q, Rs, k, z, _, h => by rw [textF_nil] at h; cases h
  | 0, x :: R, Q, Rs, k, z, hl, _ => by simp at hl
  | n + 1, x :: R, Q, Rs, k, z, hl, h => by
    rw [textF_cons] at h
    rw [List.cons_append, textF_cons]
    simp only [List.length_cons] at hl
    by_cases h1 : bad x ∨ Ctrl x.1
    · rw [if_pos h1] at h; cases h
    · rw [if_neg h1] at h ⊢
      by_cases h2 : x.1 = 34
      · rw [if_pos h2] at h ⊢; exact h
      · rw [if_neg h2] at h ⊢
        by_cases h3 : x.1 = 92
        · rw [if_pos h3] at h ⊢
          cases he : escF R with
          | none => rw [he] at h; cases h
          | some q =>
            obtain ⟨r, m⟩ := q
            rw [he] at h
            rw [escF_app Q he]
            dsimp only at h ⊢
            obtain ⟨e1, e2, -⟩ := escF_len he
            rw [List.drop_append_of_le_length e2]
            exact textF_app n (R.drop m) Q _ _ z (by rw [List.length_drop]; omega) h
        · rw [if_neg h3] at h ⊢
          exact textF_app n R Q _ _ z (by omega) h
theorem textT_app {R : List Pc} (Q : List Pc) {f : Fd} (h : textT R = some f) : textT (R ++ Q) = some f := by
  unfold textT at h ⊢
  cases hz : textF R [] 0 with
  | none => rw [hz] at h; cases h
  | some z => rw [hz] at h; rw [textF_app _ R Q [] 0 z (Nat.le_refl _) hz]; exact h
theorem signF_app {y : Pc} (hy : y.1 ≠ 61) (x : Pc) (R Q : List Pc) : signF x (R ++ y :: Q) = signF x R := by
  unfold signF
  cases R with
  | nil =>
    have h1 : ¬ ((([] : List Pc) ++ y :: Q).head?.map (·.1) = some 61) := by simpa using hy
    have h2 : ¬ (([] : List Pc).head?.map (·.1) = some 61) := by simp
    simp only [h1, h2, and_false]
  | cons z R => rfl
theorem blank_61 {y : Pc} (h : Blank y) : y.1 ≠ 61 := by
  intro e
  unfold Blank at h
  rw [e] at h
  exact absurd h (by decide +kernel)
theorem tokF_app {y : Pc} (hy : Blank y) {x : Pc} {R : List Pc} (Q : List Pc) {f : Fd} (h : tokF x R = some f) : tokF x (R ++ y :: Q) = some f := by
  unfold tokF at h ⊢
  split at h
  · rename_i c; rw [if_pos c, numF_app hy]; exact h
  · rename_i c; rw [if_neg c]
    split at h
    · rename_i c; rw [if_pos c, nameF_app hy]; exact h
    · rename_i c; rw [if_neg c]
      split at h
      · rename_i c; rw [if_pos c]; exact textT_app _ h
      · rename_i c; rw [if_neg c, signF_app (blank_61 hy)]; exact h
theorem lexR_app {y : Pc} (hy : Blank y) (Q : List Pc) : ∀ (n : Nat) (R : List Pc) (p : Nat) (ts : List Tk), R.length ≤ n → lexR R p = .ok ts → lexR (R ++ y :: Q) p = ahead ts (lexR (y :: Q) (p + (flat R).length))
  | n, [], p, ts, _, h => by
    rw [lexR_nil] at h
    injection h with h
    subst h
    rw [ahead_nil, flat_nil]; rfl
  | 0, x :: R, p, ts, hl, _ => by simp at hl
  | n + 1, x :: R, p, ts, hl, h => by
    simp only [List.length_cons] at hl
    rw [List.cons_append, flat_cons, List.length_append]
    by_cases hc : classZ (x.1 : Int) = 3
    · rw [lexR_blank _ _ _ hc] at h ⊢
      rw [lexR_app hy Q n R _ ts (by omega) h, Nat.add_assoc]
    · cases ht : tokF x R with
      | none => rw [lexR_none _ _ _ hc ht] at h; cases h
      | some f =>
        have hj := tokF_len ht
        rw [lexR_some _ _ _ hc f ht] at h
        cases hr : lexR (R.drop f.j) (p + (flat (x :: R.take f.j)).length) with
        | error q => rw [hr] at h; cases h
        | ok us =>
          rw [hr] at h
          have e : [f.tk p] ++ us = ts := by injection h
          rw [lexR_some _ _ _ hc f (tokF_app hy Q ht), List.drop_append_of_le_length hj, List.take_append_of_le_length hj, lexR_app hy Q n (R.drop f.j) _ us (by rw [List.length_drop]; omega) hr, ahead_ahead, e]
          congr 2
          rw [Nat.add_assoc]
          congr 1
          have e2 := congrArg List.length (flat_take_drop R f.j)
          rw [List.length_append] at e2
          rw [flat_cons, List.length_append]; omega

/- ### The same from another place on -/
def Tk.sh (d : Nat) (t : Tk) : Tk := ⟨t.k, t.s, t.n, t.a + d⟩
def shE (d : Nat) : Except Nat (List Tk) → Except Nat (List Tk)
  | .ok l => .ok (l.map (Tk.sh d))
  | .error p => .error (p + d)
theorem shE_ahead (d : Nat) (a : List Tk) (r : Except Nat (List Tk)) : shE d (ahead a r) = ahead (a.map (Tk.sh d)) (shE d r) := by cases r <;> simp [shE, ahead]
theorem lexR_sh (d : Nat) : ∀ (n : Nat) (R : List Pc) (p : Nat), R.length ≤ n → lexR R (p + d) = shE d (lexR R p)
  | n, [], p, _ => by rw [lexR_nil, lexR_nil]; rfl
  | 0, x :: R, p, hl => by simp at hl
  | n + 1, x :: R, p, hl => by
    simp only [List.length_cons] at hl
    by_cases hc : classZ (x.1 : Int) = 3
    · rw [lexR_blank _ _ _ hc, lexR_blank _ _ _ hc, show p + d + x.2.length = p + x.2.length + d by omega]
      exact lexR_sh d n R _ (by omega)
    · cases ht : tokF x R with
      | none => rw [lexR_none _ _ _ hc ht, lexR_none _ _ _ hc ht]; rfl
      | some f =>
        rw [lexR_some _ _ _ hc f ht, lexR_some _ _ _ hc f ht, shE_ahead, show p + d + (flat (x :: R.take f.j)).length = p + (flat (x :: R.take f.j)).length + d by omega, lexR_sh d n (R.drop f.j) _ (by rw [List.length_drop]; omega)]
        rfl

/- ### What has tokens has no wrong bytes -/
theorem class_bad {x : Pc} (h : bad x) : classZ (x.1 : Int) = 0 := by rw [h.1]; decide +kernel
theorem small_good {x : Pc} (h : x.1 < 128) : ¬ bad x := fun hb => by have := hb.1; omega
theorem textF_good : ∀ (n : Nat) (R : List Pc) (Rs : List Nat) (k : Nat) (Rs' : List Nat) (k' : Nat), R.length ≤ n → textF R Rs k = some (Rs', k') → ∀ y ∈ R.take (k' - k + 1), ¬ bad y
  | n, [], Rs, k, Rs', k', _, h => by rw [textF_nil] at h; cases h
  | 0, x :: R, Rs, k, Rs', k', hl, _ => by simp at hl
  | n + 1, x :: R, Rs, k, Rs', k', hl, h => by
    have hlen := (textF_len _ _ _ _ _ _ (Nat.le_refl _) h).1
    rw [textF_cons] at h
    simp only [List.length_cons] at hl
    by_cases h1 : bad x ∨ Ctrl x.1
    · rw [if_pos h1] at h; cases h
    · rw [if_neg h1] at h
      have hx : ¬ bad x := fun hb => h1 (.inl hb)
      by_cases h2 : x.1 = 34
      · rw [if_pos h2] at h
        injection h with h
        injection h with h3 h4
        intro y hy
        rw [h4, Nat.sub_self] at hy
        simp only [Nat.zero_add, List.take_succ_cons, List.take_zero, List.mem_singleton] at hy
        subst hy; exact hx
      · rw [if_neg h2] at h
        by_cases h3 : x.1 = 92
        · rw [if_pos h3] at h
          cases he : escF R with
          | none => rw [he] at h; cases h
          | some q =>
            obtain ⟨r, m⟩ := q
            rw [he] at h
            dsimp only at h
            obtain ⟨e1, e2, e3, -⟩ := escF_len he
            have hl2 := (textF_len _ _ _ _ _ _ (Nat.le_refl _) h).1
            have ih := textF_good n (R.drop m) _ _ Rs' k' (by rw [List.length_drop]; omega) h
            intro y hy
            rw [List.take_succ_cons] at hy
            rcases List.mem_cons.1 hy with rfl | hy
            · exact hx
            · have e : R.take (k' - k) = R.take m ++ (R.drop m).take (k' - (k + 1 + m) + 1) := by
                rw [show k' - k = m + (k' - (k + 1 + m) + 1) by omega, List.take_add]
              rw [e] at hy
              rcases List.mem_append.1 hy with hy | hy
              · exact small_good (e3 y hy)
              · exact ih y hy
        · rw [if_neg h3] at h
          have hl2 := (textF_len _ _ _ _ _ _ (Nat.le_refl _) h).1
          have ih := textF_good n R _ _ Rs' k' (by omega) h
          intro y hy
          rw [List.take_succ_cons] at hy
          rcases List.mem_cons.1 hy with rfl | hy
          · exact hx
          · refine ih y ?_
            rwa [show k' - (k + 1) + 1 = k' - k by omega]
theorem all_take (p : Pc → Bool) (R : List Pc) : ∀ y ∈ R.take (R.takeWhile p).length, p y = true := by
  intro y hy
  rw [(List.prefix_iff_eq_take.1 (List.takeWhile_prefix p)).symm] at hy
  exact List.all_eq_true.1 (List.all_takeWhile (p := p) (l := R)) y hy
theorem tokF_good {x : Pc} {R : List Pc} {f : Fd} (h : tokF x R = some f) : ∀ y ∈ x :: R.take f.j, ¬ bad y := by
  have hcl : ∀ y : Pc, classZ (y.1 : Int) ≠ 0 → ¬ bad y := fun y h hb => h (class_bad hb)
  unfold tokF at h
  split at h
  · rename_i c
    unfold numF at h
    split at h
    · injection h with h; subst h
      dsimp only
      intro y hy
      rcases List.mem_cons.1 hy with rfl | hy
      · exact hcl _ (by omega)
      · have := all_take isDig R y hy
        unfold isDig at this
        exact hcl _ (by have := of_decide_eq_true this; omega)
    · cases h
  · split at h
    · rename_i c
      unfold nameF at h
      split at h
      · injection h with h; subst h
        dsimp only
        intro y hy
        rcases List.mem_cons.1 hy with rfl | hy
        · exact hcl _ (by omega)
        · have := all_take isWord R y hy
          unfold isWord at this
          exact hcl _ (by have := of_decide_eq_true this; omega)
      · cases h
    · split at h
      · rename_i c
        unfold textT at h
        split at h
        · cases h
        · rename_i Rs k hz
          split at h
          · injection h with h; subst h
            dsimp only
            have := textF_good R.length R [] 0 Rs k (Nat.le_refl _) hz
            intro y hy
            rcases List.mem_cons.1 hy with rfl | hy
            · exact small_good (by omega)
            · exact this y (by rwa [Nat.sub_zero])
          · cases h
      · unfold signF at h
        split at h
        · rename_i hs
          have hx := small_good (isSign_lt hs)
          split at h
          · rename_i h2
            injection h with h; subst h
            dsimp only
            intro y hy
            rcases List.mem_cons.1 hy with rfl | hy
            · exact hx
            · cases R with
              | nil => cases hy
              | cons z R =>
                simp only [List.take_succ_cons, List.take_zero, List.mem_singleton] at hy
                subst hy
                have := h2.2
                simp only [List.head?_cons, Option.map_some, Option.some.injEq] at this
                exact small_good (by omega)
          · injection h with h; subst h
            intro y hy
            simp only [List.take_zero, List.mem_singleton] at hy
            subst hy; exact hx
        · cases h
theorem lexR_good : ∀ (n : Nat) (R : List Pc) (p : Nat) (ts : List Tk), R.length ≤ n → lexR R p = .ok ts → ∀ y ∈ R, ¬ bad y
  | n, [], p, ts, _, h, y, hy => by cases hy
  | 0, x :: R, p, ts, hl, _, _, _ => by simp at hl
  | n + 1, x :: R, p, ts, hl, h, y, hy => by
    simp only [List.length_cons] at hl
    by_cases hc : classZ (x.1 : Int) = 3
    · rw [lexR_blank _ _ _ hc] at h
      rcases List.mem_cons.1 hy with rfl | hy
      · exact fun hb => by have := class_bad hb; omega
      · exact lexR_good n R _ ts (by omega) h y hy
    · cases ht : tokF x R with
      | none => rw [lexR_none _ _ _ hc ht] at h; cases h
      | some f =>
        rw [lexR_some _ _ _ hc f ht] at h
        cases hr : lexR (R.drop f.j) (p + (flat (x :: R.take f.j)).length) with
        | error q => rw [hr] at h; cases h
        | ok us =>
          have e : x :: R = (x :: R.take f.j) ++ R.drop f.j := by rw [List.cons_append, List.take_append_drop]
          rw [e] at hy
          rcases List.mem_append.1 hy with hy | hy
          · exact tokF_good ht y hy
          · exact lexR_good n (R.drop f.j) _ us (by rw [List.length_drop]; omega) hr y hy
theorem lexL_valid {l : List UInt8} {ts : List Tk} (h : lexL l = .ok ts) : validL l = true := by
  unfold validL
  exact List.all_eq_true.2 fun y hy => by
    have := lexR_good _ _ _ _ (Nat.le_refl _) h y hy
    simp [this]
/-- The blanks of one byte. -/
def BlankB (c : UInt8) : Prop := c = 32 ∨ c = 9 ∨ c = 10
theorem blankB_asc {c : UInt8} (h : BlankB c) : c.toNat < 128 ∧ Blank (c.toNat, [c]) := by
  rcases h with rfl | rfl | rfl
  all_goals exact ⟨by decide, by unfold Blank; decide +kernel⟩
theorem lexL_app {a : List UInt8} {ts : List Tk} (h : lexL a = .ok ts) {c : UInt8} (hc : BlankB c) (b : List UInt8) : lexL (a ++ c :: b) = ahead ts (shE (a.length + 1) (lexL b)) := by
  obtain ⟨h1, h2⟩ := blankB_asc hc
  unfold lexL at h ⊢
  rw [pcs_append a (c :: b) (lexL_valid h), pcs_asc c b h1, lexR_app h2 _ _ _ _ _ (Nat.le_refl _) h, lexR_blank _ _ _ h2, flat_pcs]
  have := lexR_sh (a.length + 1) _ (pcs b) 0 (Nat.le_refl _)
  rw [← this]
  congr 2
theorem lexL_nil : lexL [] = .ok [] := by unfold lexL; rw [pcs_nil, lexR_nil]
theorem lexL_blank {a : List UInt8} {ts : List Tk} (h : lexL a = .ok ts) {c : UInt8} (hc : BlankB c) : lexL (a ++ [c]) = .ok ts := by
  rw [lexL_app h hc, lexL_nil]
  simp [shE, ahead]
/-- A text whose tokens are these, and that a token may be put behind. -/
def Ready (t : List UInt8) (us : List Tk) : Prop := lexL t = .ok us ∧ (t = [] ∨ ∃ u c, t = u ++ [c] ∧ BlankB c ∧ lexL u = .ok us)
theorem Ready.nil : Ready [] [] := ⟨lexL_nil, .inl rfl⟩
theorem Ready.of {t : List UInt8} {us : List Tk} (h : lexL t = .ok us) {c : UInt8} (hc : BlankB c) : Ready (t ++ [c]) us := ⟨lexL_blank h hc, .inr ⟨t, c, rfl, hc, h⟩⟩
theorem Ready.add {t : List UInt8} {us : List Tk} (h : Ready t us) {g : List UInt8} {vs : List Tk} (hg : lexL g = .ok vs) : lexL (t ++ g) = .ok (us ++ vs.map (Tk.sh t.length)) := by
  obtain ⟨h1, rfl | ⟨u, c, rfl, hc, h2⟩⟩ := h
  · rw [lexL_nil] at h1
    injection h1 with h1
    subst h1
    have e : vs.map (Tk.sh ([] : List UInt8).length) = vs := by
      conv => rhs; rw [← List.map_id vs]
      rfl
    rw [e, List.nil_append, List.nil_append]; exact hg
  · rw [List.append_assoc, List.singleton_append, lexL_app h2 hc, hg, List.length_append]; rfl

/- ### What stands between two tokens -/
def Blanks (B : List Pc) : Prop := ∀ y ∈ B, Blank y
theorem lexR_blanks : ∀ (B : List Pc) (p : Nat), Blanks B → lexR B p = .ok []
  | [], p, _ => lexR_nil p
  | x :: B, p, h => by rw [lexR_blank _ _ _ (h x (by simp))]; exact lexR_blanks B _ (fun y hy => h y (by simp [hy]))
theorem take_stop (p : Pc → Bool) (R : List Pc) (B : List Pc) (hB : ∀ y ∈ B, p y = false) : (R.take (R.takeWhile p).length ++ B).takeWhile p = R.takeWhile p := by
  rw [(List.prefix_iff_eq_take.1 (List.takeWhile_prefix p)).symm, List.takeWhile_append_of_pos (fun y hy => List.all_eq_true.1 List.all_takeWhile y hy)]
  cases B with
  | nil => simp
  | cons y B => rw [List.takeWhile_cons_of_neg (by rw [hB y (by simp)]; simp), List.append_nil]
theorem digsF_cut : ∀ (n v : Nat) (R : List Pc) (u : Nat), digsF n v R = some u → digsF n v (R.take n) = some u
  | 0, v, R, u, h => by simpa [digsF] using h
  | n + 1, v, [], u, h => by cases h
  | n + 1, v, x :: R, u, h => by
    rw [List.take_succ_cons]
    unfold digsF at h ⊢
    cases hh : hexV x.1 with
    | none => rw [hh] at h; cases h
    | some d =>
      rw [hh] at h
      exact digsF_cut n _ R u h
theorem escF_cut {R : List Pc} {r m : Nat} (h : escF R = some (r, m)) : escF (R.take m) = some (r, m) := by
  cases R with
  | nil => cases h
  | cons x R =>
    unfold escF at h
    dsimp only at h
    by_cases h1 : x.1 = 34 ∨ x.1 = 92
    · rw [if_pos h1] at h
      injection h with h
      injection h with h2 h3
      subst h2 h3
      rw [List.take_succ_cons]
      unfold escF
      dsimp only
      rw [if_pos h1]
    · rw [if_neg h1] at h
      by_cases h2 : x.1 = 117
      · rw [if_pos h2] at h
        cases hd : digsF 4 0 R with
        | none => rw [hd] at h; cases h
        | some v =>
          rw [hd] at h
          dsimp only at h
          by_cases h3 : 55296 ≤ v ∧ v ≤ 57343
          · rw [if_pos h3] at h; cases h
          · rw [if_neg h3] at h
            injection h with h
            injection h with h4 h5
            subst h4 h5
            rw [List.take_succ_cons]
            unfold escF
            dsimp only
            rw [if_neg h1, if_pos h2, digsF_cut 4 0 R v hd]
            dsimp only
            rw [if_neg h3]
      · rw [if_neg h2] at h; cases h
theorem textF_cut : ∀ (n : Nat) (R : List Pc) (Rs : List Nat) (k : Nat) (Rs' : List Nat) (k' : Nat), R.length ≤ n → textF R Rs k = some (Rs', k') → textF (R.take (k' - k + 1)) Rs k = some (Rs', k')
  | n, [], Rs, k, Rs', k', _, h => by rw [textF_nil] at h; cases h
  | 0, x :: R, Rs, k, Rs', k', hl, _ => by simp at hl
  | n + 1, x :: R, Rs, k, Rs', k', hl, h => by
    have hlen := (textF_len _ _ _ _ _ _ (Nat.le_refl _) h).1
    rw [textF_cons] at h
    rw [List.take_succ_cons, textF_cons]
    simp only [List.length_cons] at hl
    by_cases h1 : bad x ∨ Ctrl x.1
    · rw [if_pos h1] at h; cases h
    · rw [if_neg h1] at h ⊢
      by_cases h2 : x.1 = 34
      · rw [if_pos h2] at h ⊢; exact h
      · rw [if_neg h2] at h ⊢
        by_cases h3 : x.1 = 92
        · rw [if_pos h3] at h ⊢
          cases he : escF R with
          | none => rw [he] at h; cases h
          | some q =>
            obtain ⟨r, m⟩ := q
            rw [he] at h
            dsimp only at h
            obtain ⟨e1, e2, e3, -⟩ := escF_len he
            have hl2 := (textF_len _ _ _ _ _ _ (Nat.le_refl _) h).1
            have ih := textF_cut n (R.drop m) _ _ Rs' k' (by rw [List.length_drop]; omega) h
            have e : R.take (k' - k) = R.take m ++ (R.drop m).take (k' - (k + 1 + m) + 1) := by
              rw [show k' - k = m + (k' - (k + 1 + m) + 1) by omega, List.take_add]
            have he2 : escF (R.take (k' - k)) = some (r, m) := by
              rw [e]; exact escF_app _ (escF_cut he)
            rw [he2]
            dsimp only
            rw [e, List.drop_append_of_le_length (by rw [List.length_take]; omega), List.drop_of_length_le (by rw [List.length_take]; omega), List.nil_append]
            exact ih
        · rw [if_neg h3] at h ⊢
          have hl2 := (textF_len _ _ _ _ _ _ (Nat.le_refl _) h).1
          have ih := textF_cut n R _ _ Rs' k' (by omega) h
          rwa [show k' - (k + 1) + 1 = k' - k by omega] at ih
theorem tokF_cut {x : Pc} {R : List Pc} {f : Fd} (h : tokF x R = some f) {B : List Pc} (hB : Blanks B) : tokF x (R.take f.j ++ B) = some f := by
  unfold tokF at h ⊢
  split at h
  · rename_i c; rw [if_pos c]
    unfold numF at h ⊢
    split at h
    · rename_i c2
      injection h with h; subst h
      dsimp only
      rw [take_stop isDig R B (fun y hy => blank_dig (hB y hy)), if_pos c2]
    · cases h
  · rename_i c; rw [if_neg c]
    split at h
    · rename_i c; rw [if_pos c]
      unfold nameF at h ⊢
      split at h
      · rename_i c2
        injection h with h; subst h
        dsimp only
        rw [take_stop isWord R B (fun y hy => blank_word (hB y hy)), if_pos c2]
      · cases h
    · rename_i c; rw [if_neg c]
      split at h
      · rename_i c; rw [if_pos c]
        refine textT_app B ?_
        unfold textT at h ⊢
        split at h
        · cases h
        · rename_i Rs k hz
          split at h
          · rename_i c2
            injection h with h; subst h
            dsimp only
            have := textF_cut R.length R [] 0 Rs k (Nat.le_refl _) hz
            rw [Nat.sub_zero] at this
            rw [this]
            dsimp only
            rw [if_pos c2]
          · cases h
      · rename_i c; rw [if_neg c]
        unfold signF at h ⊢
        split at h
        · rename_i hs
          rw [if_pos hs]
          split at h
          · rename_i h2
            injection h with h; subst h
            dsimp only
            cases R with
            | nil => have := h2.2; simp at this
            | cons z R =>
              rw [List.take_succ_cons, List.take_zero, List.cons_append]
              rw [if_pos]
              exact ⟨h2.1, h2.2⟩
          · rename_i h2
            injection h with h; subst h
            dsimp only
            rw [List.take_zero, List.nil_append, if_neg]
            rintro ⟨h3, h4⟩
            cases B with
            | nil => simp at h4
            | cons y B =>
              simp only [List.head?_cons, Option.map_some, Option.some.injEq] at h4
              exact blank_61 (hB y (by simp)) h4
        · cases h
/-- The blanks ahead of the first token. -/
theorem lexR_head : ∀ (R : List Pc) (p : Nat) (ts : List Tk), lexR R p = .ok ts → ∃ B Y, R = B ++ Y ∧ Blanks B ∧ (ts = [] → Y = []) ∧ ∀ t, ts.head? = some t → t.a = p + (flat B).length
  | [], p, ts, h => by
    rw [lexR_nil] at h
    injection h with h; subst h
    exact ⟨[], [], rfl, (fun y hy => by cases hy), (fun _ => rfl), (fun t ht => by cases ht)⟩
  | x :: R, p, ts, h => by
    by_cases hc : classZ (x.1 : Int) = 3
    · rw [lexR_blank _ _ _ hc] at h
      obtain ⟨B, Y, h1, h2, h3, h4⟩ := lexR_head R _ ts h
      refine ⟨x :: B, Y, by rw [h1]; rfl, ?_, h3, ?_⟩
      · intro y hy
        rcases List.mem_cons.1 hy with rfl | hy
        · exact hc
        · exact h2 y hy
      · intro t ht
        rw [h4 t ht, flat_cons, List.length_append]; omega
    · cases ht : tokF x R with
      | none => rw [lexR_none _ _ _ hc ht] at h; cases h
      | some f =>
        rw [lexR_some _ _ _ hc f ht] at h
        cases hr : lexR (R.drop f.j) (p + (flat (x :: R.take f.j)).length) with
        | error q => rw [hr] at h; cases h
        | ok us =>
          rw [hr] at h
          have e : [f.tk p] ++ us = ts := by injection h
          subst e
          refine ⟨[], x :: R, rfl, (fun y hy => by cases hy), (fun h => by cases h), ?_⟩
          intro t ht
          simp only [List.cons_append, List.nil_append, List.head?_cons, Option.some.injEq] at ht
          subst ht; rfl
theorem tokF_kind {x : Pc} {R : List Pc} {f : Fd} (h : tokF x R = some f) (hP : Pcd (x :: R)) : (f.k = 1 ∨ f.k = 2 ∨ f.k = 3 ∨ f.k = 4) ∧ ((f.k = 3 ∨ f.k = 4) → f.s = flat (x :: R.take f.j)) ∧ f.n < 9223372036854775808 := by
  unfold tokF at h
  split at h
  · unfold numF at h
    split at h
    · injection h with h; subst h
      exact ⟨.inl rfl, fun h => by simp at h, by assumption⟩
    · cases h
  · split at h
    · unfold nameF at h
      split at h
      · injection h with h; subst h
        refine ⟨.inr (.inr (.inl rfl)), fun _ => ?_, Nat.zero_lt_succ _⟩
        dsimp only
        rw [(List.prefix_iff_eq_take.1 (List.takeWhile_prefix isWord)).symm]
      · cases h
    · split at h
      · unfold textT at h
        split at h
        · cases h
        · split at h
          · injection h with h; subst h
            exact ⟨.inr (.inl rfl), fun h => by simp at h, Nat.zero_lt_succ _⟩
          · cases h
      · have := sgn_bytes (l := flat (x :: R)) hP
        rw [h] at this
        obtain ⟨-, h1, h2, -, -, -, h3⟩ := this
        exact ⟨.inr (.inr (.inr h1)), fun _ => h3, by rw [h2]; exact Nat.zero_lt_succ _⟩
/-- The part of a formula that a token and the blanks behind it take. -/
structure Seg (R : List Pc) (p : Nat) (ts : List Tk) (i : Nat) (t : Tk) (X S Y : List Pc) : Prop where
  all : R = X ++ (S ++ Y)
  at_ : t.a = p + (flat X).length
  pos : 0 < (flat S).length
  one : lexR S 0 = .ok [⟨t.k, t.s, t.n, 0⟩]
  next : ∀ u, ts[i + 1]? = some u → u.a = p + (flat X).length + (flat S).length
  last : ts[i + 1]? = none → Y = []
  kind : t.k = 1 ∨ t.k = 2 ∨ t.k = 3 ∨ t.k = 4
  pre : (t.k = 3 ∨ t.k = 4) → t.s <+: flat S
  num : t.n < 9223372036854775808
theorem lexR_seg : ∀ (n : Nat) (R : List Pc) (p : Nat) (ts : List Tk) (i : Nat) (t : Tk), R.length ≤ n → Pcd R → lexR R p = .ok ts → ts[i]? = some t → ∃ X S Y, Seg R p ts i t X S Y
  | n, [], p, ts, i, t, _, _, h, ht => by
    rw [lexR_nil] at h
    injection h with h; subst h
    simp at ht
  | 0, x :: R, p, ts, i, t, hl, _, _, _ => by simp at hl
  | n + 1, x :: R, p, ts, i, t, hl, hP, h, hti => by
    simp only [List.length_cons] at hl
    by_cases hc : classZ (x.1 : Int) = 3
    · rw [lexR_blank _ _ _ hc] at h
      obtain ⟨X, S, Y, hS⟩ := lexR_seg n R _ ts i t (by omega) hP.tail h hti
      refine ⟨x :: X, S, Y, ⟨by rw [hS.all]; rfl, ?_, hS.pos, hS.one, ?_, hS.last, hS.kind, hS.pre, hS.num⟩⟩
      · rw [hS.at_, flat_cons, List.length_append]; omega
      · intro u hu
        rw [hS.next u hu, flat_cons, List.length_append]; omega
    · cases ht : tokF x R with
      | none => rw [lexR_none _ _ _ hc ht] at h; cases h
      | some f =>
        have hj := tokF_len ht
        rw [lexR_some _ _ _ hc f ht] at h
        obtain ⟨hk1, hk2, hk3⟩ := tokF_kind ht hP
        cases hr : lexR (R.drop f.j) (p + (flat (x :: R.take f.j)).length) with
        | error q => rw [hr] at h; cases h
        | ok us =>
          rw [hr] at h
          have e : [f.tk p] ++ us = ts := by injection h
          subst e
          cases i with
          | zero =>
            simp only [List.cons_append, List.nil_append, List.getElem?_cons_zero, Option.some.injEq] at hti
            subst hti
            obtain ⟨B, Y, h1, h2, h3, h4⟩ := lexR_head _ _ _ hr
            refine ⟨[], x :: R.take f.j ++ B, Y, ⟨?_, ?_, ?_, ?_, ?_, ?_, hk1, ?_, hk3⟩⟩
            · rw [List.nil_append, List.append_assoc, ← h1, List.cons_append, List.take_append_drop]
            · rfl
            · have := hP.head.pos
              rw [List.cons_append, flat_cons, List.length_append]; omega
            · rw [List.cons_append, lexR_some _ _ _ hc f (tokF_cut ht h2), List.drop_append_of_le_length (by rw [List.length_take]; omega), List.drop_of_length_le (by rw [List.length_take]; omega), List.nil_append, lexR_blanks _ _ h2]
              rfl
            · intro u hu
              have : us.head? = some u := by
                rw [← hu]; cases us <;> rfl
              rw [h4 u this, flat_append, List.length_append, flat_nil]
              simp only [List.length_nil]; omega
            · intro hn
              refine h3 ?_
              cases us with
              | nil => rfl
              | cons a us => simp at hn
            · intro h5
              show f.s <+: _
              rw [hk2 h5, flat_append]
              exact ⟨_, rfl⟩
          | succ i =>
            obtain ⟨X, S, Y, hS⟩ := lexR_seg n (R.drop f.j) _ us i t (by rw [List.length_drop]; omega) (hP.drop (f.j + 1)) hr (by simpa using hti)
            refine ⟨x :: R.take f.j ++ X, S, Y, ⟨?_, ?_, hS.pos, hS.one, ?_, ?_, hS.kind, hS.pre, hS.num⟩⟩
            · rw [List.append_assoc, ← hS.all, List.cons_append, List.take_append_drop]
            · rw [hS.at_, flat_append, List.length_append]; omega
            · intro u hu
              rw [hS.next u (by simpa using hu), flat_append, List.length_append]; omega
            · intro hn
              exact hS.last (by simpa using hn)
/-- The same of a formula's bytes. -/
theorem lexL_seg {l : List UInt8} {ts : List Tk} (h : lexL l = .ok ts) {i : Nat} {t : Tk} (ht : ts[i]? = some t) :
    ∃ b, t.a < b ∧ b ≤ l.length ∧ (∀ u, ts[i + 1]? = some u → u.a = b) ∧ (ts[i + 1]? = none → b = l.length) ∧ lexL ((l.take b).drop t.a) = .ok [⟨t.k, t.s, t.n, 0⟩] ∧ (t.k = 1 ∨ t.k = 2 ∨ t.k = 3 ∨ t.k = 4) ∧ ((t.k = 3 ∨ t.k = 4) → t.s <+: (l.take b).drop t.a) ∧ t.n < 9223372036854775808 := by
  obtain ⟨X, S, Y, hS⟩ := lexR_seg _ (pcs l) 0 ts i t (Nat.le_refl _) (Pcd.of l) h ht
  have hl : l = flat X ++ (flat S ++ flat Y) := by
    rw [← flat_append, ← flat_append, ← hS.all, flat_pcs]
  have hPS : pcs (flat S) = S := by
    have h1 := (Pcd.of l).drop X.length
    rw [hS.all, List.drop_left] at h1
    have h2 := h1.take S.length
    rwa [List.take_left] at h2
  have ha := hS.at_
  rw [Nat.zero_add] at ha
  have hcut : (l.take ((flat X).length + (flat S).length)).drop t.a = flat S := by
    have e : l = (flat X ++ flat S) ++ flat Y := by rw [List.append_assoc]; exact hl
    rw [ha, e, show (flat X).length + (flat S).length = (flat X ++ flat S).length by rw [List.length_append], List.take_left, List.drop_left]
  have hp := hS.pos
  have hln := congrArg List.length hl
  rw [List.length_append, List.length_append] at hln
  refine ⟨(flat X).length + (flat S).length, by omega, by omega, ?_, ?_, ?_, hS.kind, ?_, hS.num⟩
  · intro u hu
    rw [hS.next u hu]; omega
  · intro hn
    rw [hS.last hn, flat_nil, List.length_nil] at hln
    omega
  · rw [hcut]; unfold lexL; rw [hPS]; exact hS.one
  · intro h5; rw [hcut]; exact hS.pre h5
/-- Where the first wrong token begins. -/
theorem lexR_err : ∀ (n : Nat) (R : List Pc) (p q : Nat), R.length ≤ n → lexR R p = .error q → q ≤ p + (flat R).length
  | n, [], p, q, _, h => by rw [lexR_nil] at h; cases h
  | 0, x :: R, p, q, hl, _ => by simp at hl
  | n + 1, x :: R, p, q, hl, h => by
    simp only [List.length_cons] at hl
    rw [flat_cons, List.length_append]
    by_cases hc : classZ (x.1 : Int) = 3
    · rw [lexR_blank _ _ _ hc] at h
      have := lexR_err n R _ q (by omega) h
      omega
    · cases ht : tokF x R with
      | none =>
        rw [lexR_none _ _ _ hc ht] at h
        injection h with h; omega
      | some f =>
        rw [lexR_some _ _ _ hc f ht] at h
        cases hr : lexR (R.drop f.j) (p + (flat (x :: R.take f.j)).length) with
        | ok us => rw [hr] at h; cases h
        | error q2 =>
          rw [hr] at h
          have e : q2 = q := by injection h
          subst e
          have := lexR_err n (R.drop f.j) _ _ (by rw [List.length_drop]; omega) hr
          have e2 := congrArg List.length (flat_take_drop R f.j)
          rw [List.length_append] at e2
          rw [flat_cons, List.length_append] at this
          omega
theorem lexL_err {l : List UInt8} {q : Nat} (h : lexL l = .error q) : q ≤ l.length := by
  have := lexR_err _ (pcs l) 0 q (Nat.le_refl _) h
  rw [flat_pcs] at this; omega
/-- What is one name is no more. -/
theorem name_alone {l : List UInt8} {t : Tk} {ts : List Tk} (h : lexL l = .ok (t :: ts)) (hk : t.k = 3) (hs : t.s = l) : ts = [] := by
  cases ts with
  | nil => rfl
  | cons u ts =>
    obtain ⟨b, h1, h2, h3, -, -, -, h4, -⟩ := lexL_seg (i := 0) (t := t) h rfl
    obtain ⟨c, g1, g2, -⟩ := lexL_seg (i := 1) (t := u) h rfl
    have := h3 u rfl
    have hp := (h4 (.inl hk)).length_le
    rw [hs, List.length_drop, List.length_take] at hp
    omega

/- ### A text that is quoted -/
def qP (r : Nat) : List Pc :=
  if r = 34 ∨ r = 92 then [(92, [92]), (r, [UInt8.ofNat r])] else if Ctrl r then (92, [92]) :: (117, [117]) :: (hexL r).map (fun b => (b.toNat, [b])) else [(r, encodeRune (r : Int))]
theorem flat_bytes (l : List UInt8) : flat (l.map fun b => (b.toNat, [b])) = l := by
  induction l with
  | nil => rfl
  | cons b l ih => rw [List.map_cons, flat_cons, ih]; rfl
theorem flat_qP (r : Nat) : flat (qP r) = quoteR r := by
  unfold qP quoteR
  split
  · rfl
  · split
    · rw [flat_cons, flat_cons, flat_bytes]; rfl
    · rw [flat_cons, flat_nil, List.append_nil]
theorem solid_asc (b : UInt8) (h : b.toNat < 128) : Solid (b.toNat, [b]) := ⟨by simp, fun t => dec_asc b t h⟩
theorem hx_val : ∀ d : Fin 16, (hx d.val).toNat < 128 ∧ hexV (hx d.val).toNat = some d.val := by decide +kernel
theorem hx_asc (d : Nat) : (hx (d % 16)).toNat < 128 := (hx_val ⟨d % 16, Nat.mod_lt _ (by decide)⟩).1
theorem hexV_hx (d : Nat) : hexV (hx (d % 16)).toNat = some (d % 16) := (hx_val ⟨d % 16, Nat.mod_lt _ (by decide)⟩).2
theorem solid_qP (r : Nat) (h : Scalar (r : Int)) : ∀ x ∈ qP r, Solid x := by
  have a92 : Solid ((92 : Nat), [(92 : UInt8)]) := solid_asc 92 (by decide)
  unfold qP
  split
  · rename_i c
    intro x hx
    simp only [List.mem_cons, List.not_mem_nil, or_false] at hx
    rcases hx with rfl | rfl
    · exact a92
    · have := solid_asc (UInt8.ofNat r) (by rw [u8_nat _ (by omega)]; omega)
      rwa [u8_nat _ (by omega)] at this
  · split
    · intro x hx
      rcases List.mem_cons.1 hx with rfl | hx
      · exact a92
      rcases List.mem_cons.1 hx with rfl | hx
      · exact solid_asc 117 (by decide)
      · obtain ⟨b, hb, rfl⟩ := List.mem_map.1 hx
        refine solid_asc b ?_
        unfold hexL at hb
        simp only [List.mem_cons, List.not_mem_nil, or_false] at hb
        rcases hb with rfl | rfl | rfl | rfl
        all_goals exact hx_asc _
    · intro x hx
      simp only [List.mem_singleton] at hx
      subst hx
      have := solid_encode (r : Int) h
      rwa [Int.toNat_natCast] at this
theorem digs_hexL (r : Nat) (h : r < 65536) (R : List Pc) : digsF 4 0 ((hexL r).map (fun b => (b.toNat, [b])) ++ R) = some r := by
  unfold hexL
  simp only [List.map_cons, List.map_nil, List.cons_append, List.nil_append, digsF, hexV_hx]
  congr 1
  omega
theorem textF_qP (r : Nat) (_ : Scalar (r : Int)) (hb : ¬ bad (r, encodeRune (r : Int))) (R : List Pc) (Rs : List Nat) (k : Nat) : textF (qP r ++ R) Rs k = textF R (Rs ++ [r]) (k + (qP r).length) := by
  have n92 : ∀ l, ¬ (bad ((92 : Nat), l) ∨ Ctrl (92 : Nat)) := fun l hh => by
    rcases hh with hh | hh
    · exact absurd hh.1 (show ¬ (92 : Nat) = 65533 by decide)
    · exact absurd hh (by decide)
  unfold qP
  split
  · rename_i c
    have he : escF ((r, [UInt8.ofNat r]) :: R) = some (r, 1) := by unfold escF; dsimp only; rw [if_pos c]
    rw [List.cons_append, List.cons_append, List.nil_append, textF_cons, if_neg (n92 _), if_neg (by decide), if_pos rfl, he]
    rfl
  · rename_i c
    split
    · rename_i c2
      have hr : r < 160 := by unfold Ctrl at c2; omega
      have he : escF ((117, [117]) :: ((hexL r).map (fun b => (b.toNat, [b])) ++ R)) = some (r, 5) := by
        unfold escF
        dsimp only
        rw [if_neg (by decide), if_pos rfl, digs_hexL r (by omega)]
        dsimp only
        rw [if_neg (by omega)]
      rw [List.cons_append, List.cons_append, textF_cons, if_neg (n92 _), if_neg (by decide), if_pos rfl, he]
      dsimp only
      have e : ((117, [117]) :: ((hexL r).map (fun b => ((b.toNat : Nat), [b])) ++ R)).drop 5 = R := by
        unfold hexL
        simp only [List.map_cons, List.map_nil, List.cons_append, List.nil_append, List.drop_succ_cons, List.drop_zero]
      rw [e]
      unfold hexL
      rfl
    · rename_i c2
      rw [List.cons_append, List.nil_append, textF_cons, if_neg (fun hh => hh.elim hb c2), if_neg (by dsimp only; omega), if_neg (by dsimp only; omega)]
      rfl
theorem textF_qPs : ∀ (Q : List Nat) (R : List Pc) (Rs : List Nat) (k : Nat), (∀ r ∈ Q, Scalar (r : Int) ∧ ¬ bad (r, encodeRune (r : Int))) → textF (Q.flatMap qP ++ R) Rs k = textF R (Rs ++ Q) (k + (Q.flatMap qP).length)
  | [], R, Rs, k, _ => by simp
  | r :: Q, R, Rs, k, h => by
    obtain ⟨h1, h2⟩ := h r (by simp)
    rw [List.flatMap_cons, List.append_assoc, textF_qP r h1 h2, textF_qPs Q R _ _ (fun q hq => h q (by simp [hq])), List.append_assoc, List.length_append, Nat.add_assoc]
    rfl
theorem good_runes {l : List UInt8} (hv : validL l = true) : (∀ r ∈ runesL l, Scalar (r : Int) ∧ ¬ bad (r, encodeRune (r : Int))) ∧ encs (runesL l) = l := by
  have hg : ∀ x ∈ pcs l, ¬ bad x := by
    intro x hx hb
    have := List.all_eq_true.1 hv x hx
    simp [hb] at this
  have hf := fit_mem l
  constructor
  · intro r hr
    obtain ⟨x, hx, rfl⟩ := List.mem_map.1 hr
    refine ⟨(hf x hx).sc, ?_⟩
    have e := (hf x hx).enc (hg x hx)
    intro hb
    exact hg x hx ⟨hb.1, by rw [e]; exact hb.2⟩
  · unfold encs runesL
    rw [List.flatMap_map]
    conv => rhs; rw [← flat_pcs l]
    unfold flat
    have : ∀ P : List Pc, (∀ x ∈ P, encodeRune (x.1 : Int) = x.2) → P.flatMap (fun x => encodeRune (x.1 : Int)) = P.flatMap (·.2) := by
      intro P
      induction P with
      | nil => intro _; rfl
      | cons x P ih => intro h; rw [List.flatMap_cons, List.flatMap_cons, h x (by simp), ih (fun y hy => h y (by simp [hy]))]
    exact this _ fun x hx => ((hf x hx).enc (hg x hx)).symm
theorem flat_qPs : ∀ P : List Pc, flat ((P.map (·.1)).flatMap qP) = P.flatMap (fun x => quoteR x.1)
  | [] => rfl
  | x :: P => by rw [List.map_cons, List.flatMap_cons, flat_append, flat_qP, flat_qPs P, List.flatMap_cons]
theorem pcs_quote {l : List UInt8} (hv : validL l = true) : pcs (quoteL l) = (34, [34]) :: ((runesL l).flatMap qP ++ [(34, [34])]) := by
  have h34 : Solid ((34 : Nat), [(34 : UInt8)]) := solid_asc 34 (by decide)
  have e : quoteL l = flat ((34, [34]) :: ((runesL l).flatMap qP ++ [(34, [34])])) := by
    rw [flat_cons, flat_append, flat_cons, flat_nil]
    unfold runesL
    rw [flat_qPs]
    rfl
  rw [e]
  refine pcs_solid _ ?_
  intro x hx
  rcases List.mem_cons.1 hx with rfl | hx
  · exact h34
  rcases List.mem_append.1 hx with hx | hx
  · obtain ⟨r, hr, hx⟩ := List.mem_flatMap.1 hx
    exact solid_qP r ((good_runes hv).1 r hr).1 x hx
  · simp only [List.mem_singleton] at hx
    subst hx; exact h34
theorem lexL_quote {l : List UInt8} (hv : validL l = true) (hc : countL l ≤ 100) : lexL (quoteL l) = .ok [⟨2, l, 0, 0⟩] := by
  obtain ⟨h1, h2⟩ := good_runes hv
  have hlen : (runesL l).length ≤ 100 := by unfold runesL; rw [List.length_map]; exact hc
  unfold lexL
  rw [pcs_quote hv]
  have hT : textT ((runesL l).flatMap qP ++ [((34 : Nat), [(34 : UInt8)])]) = some ⟨2, l, 0, ((runesL l).flatMap qP).length + 1⟩ := by
    unfold textT
    rw [textF_qPs _ _ _ _ h1, textF_cons, if_neg (by rintro (h | h); exact absurd h.1 (by decide); exact absurd h (by decide)), if_pos rfl]
    dsimp only
    rw [List.nil_append, if_pos hlen, h2, Nat.zero_add]
  have hF : tokF ((34 : Nat), [(34 : UInt8)]) ((runesL l).flatMap qP ++ [((34 : Nat), [(34 : UInt8)])]) = some ⟨2, l, 0, ((runesL l).flatMap qP).length + 1⟩ := by
    unfold tokF
    rw [if_neg (by decide +kernel), if_neg (by decide +kernel), if_pos rfl, hT]
  rw [lexR_some _ _ _ (by decide +kernel) _ hF]
  dsimp only
  rw [List.drop_of_length_le (by simp), lexR_nil]
  rfl
end
end Go.Proofs.YtindkpfmflcibaaGreatDoor
