/- Plain mathematics: a formula's bytes and its pieces: what is ASCII; digits and what they come to; what stands behind a backslash; signs. No program stands in this text. -/
import Derived.Test.YtbeeeakcjeibgaaDoorLexP
namespace Go.Proofs.YtbeeeakcjeibgaaDoor
open Go.Lib

theorem dec_asc (b : UInt8) (r : List UInt8) (h : b.toNat < 128) : decodeL (b :: r) = (b.toNat, 1) := by
  rw [decodeL_N]; exact decodeN_one _ _ _ _ _ h
theorem pcs_asc (b : UInt8) (r : List UInt8) (h : b.toNat < 128) : pcs (b :: r) = (b.toNat, [b]) :: pcs r := by
  rw [pcs_step _ (by simp), dec_asc b r h]; rfl
theorem dec_high (b : UInt8) (r : List UInt8) (h : 128 ≤ b.toNat) : 128 ≤ (decodeL (b :: r)).1 := by
  rw [decodeL_N]
  simp only [List.getD_cons_zero]
  rcases decodeN_shape (b :: r).length b.toNat ((b :: r).getD 1 0).toNat ((b :: r).getD 2 0).toNat ((b :: r).getD 3 0).toNat with ⟨c, e⟩ | ⟨a1, a2, a3, av, e⟩ | ⟨a1, a2, a3, a4, av, asr, e⟩ | ⟨a1, a2, a3, a4, a5, av, aw, e⟩ | e
  all_goals rw [e]; dsimp only; omega
/-- A text's first piece, and its first byte. -/
theorem head_asc {l : List UInt8} {x : Pc} {R : List Pc} (h : pcs l = x :: R) (hx : x.1 < 128) : l = UInt8.ofNat x.1 :: flat R ∧ pcs (flat R) = R := by
  have hP : Pcd (x :: R) := h ▸ Pcd.of l
  refine ⟨?_, hP.tail⟩
  have := flat_pcs l
  rw [h, flat_cons, hP.head.one hx] at this
  exact this.symm
theorem head_byte {l : List UInt8} {x : Pc} {R : List Pc} (h : pcs l = x :: R) : ∃ b r, l = b :: r ∧ ((b.toNat < 128 ∧ x.1 = b.toNat ∧ x.2 = [b] ∧ R = pcs r) ∨ (128 ≤ b.toNat ∧ 128 ≤ x.1)) := by
  cases l with
  | nil => cases h
  | cons b r =>
    refine ⟨b, r, rfl, ?_⟩
    by_cases hb : b.toNat < 128
    · rw [pcs_asc b r hb] at h
      injection h with h1 h2
      rw [← h1]
      exact .inl ⟨hb, rfl, rfl, h2.symm⟩
    · have := dec_high b r (by omega)
      rw [pcs_step _ (by simp)] at h
      injection h with h1 h2
      rw [← h1]
      exact .inr ⟨by omega, this⟩

/- ### Digits -/
theorem flat_digs : ∀ (D : List Pc), (∀ x ∈ D, Fit x ∧ classZ (x.1 : Int) = 2) → ∀ b ∈ flat D, 48 ≤ b.toNat ∧ b.toNat ≤ 57
  | [], _, b, hb => by cases hb
  | x :: D, h, b, hb => by
    rw [flat_cons] at hb
    rcases List.mem_append.1 hb with hb | hb
    · obtain ⟨hf, hc⟩ := h x (by simp)
      have hr : (48 : Int) ≤ x.1 ∧ (x.1 : Int) ≤ 57 := by
        rcases class_cases (x.1 : Int) with ⟨_, h⟩ | ⟨h, _⟩ | ⟨h, _⟩ | ⟨h, _⟩
        · exact h
        all_goals omega
      rw [hf.one (by omega)] at hb
      simp only [List.mem_singleton] at hb
      subst hb
      rw [u8_nat _ (by omega)]; omega
    · exact flat_digs D (fun y hy => h y (by simp [hy])) b hb
def valFrom (a : Nat) (l : List UInt8) : Nat := l.foldl (fun a c => a * 10 + (c.toNat - 48)) a
theorem valFrom_ge (l : List UInt8) : ∀ a, a ≤ valFrom a l := by
  induction l with
  | nil => intro a; exact Nat.le_refl _
  | cons c l ih => intro a; exact Nat.le_trans (by omega) (ih (a * 10 + (c.toNat - 48)))
theorem parseM_ok (M : Nat) (hM : M ≤ 18446744073709551615) : ∀ (l : List UInt8) (a : Nat), (∀ b ∈ l, 48 ≤ b.toNat ∧ b.toNat ≤ 57) → (valFrom a l ≤ M → parseUintM M a l = .ok (valFrom a l)) ∧ (M < valFrom a l → (M < a → False) → ∀ u, parseUintM M a l ≠ .ok u)
  | [], a, _ => ⟨fun _ => rfl, fun h h2 => (h2 h).elim⟩
  | c :: l, a, h => by
    have hc := h c (by simp)
    have ih := parseM_ok M hM l (a * 10 + (c.toNat - 48)) (fun b hb => h b (by simp [hb]))
    have hge := valFrom_ge l (a * 10 + (c.toNat - 48))
    have e : valFrom a (c :: l) = valFrom (a * 10 + (c.toNat - 48)) l := rfl
    rw [e]
    unfold parseUintM
    rw [if_pos hc]
    constructor
    · intro hle
      rw [if_neg (by omega), if_neg (by omega)]
      exact ih.1 hle
    · intro hlt _ u
      by_cases h1 : 1844674407370955162 ≤ a
      · rw [if_pos h1]; intro e; cases e
      · rw [if_neg h1]
        by_cases h2 : M < a * 10 + (c.toNat - 48)
        · rw [if_pos h2]; intro e; cases e
        · rw [if_neg h2]; exact ih.2 hlt h2 u
theorem parse_digs (l : List UInt8) (hne : l ≠ []) (hd : ∀ b ∈ l, 48 ≤ b.toNat ∧ b.toNat ≤ 57) :
    (valN l < 9223372036854775808 → parseIntB 64 l = .ok (valN l : Int)) ∧ (9223372036854775808 ≤ valN l → ∀ z, parseIntB 64 l ≠ .ok z) := by
  have eC : (2 : Nat) ^ (64 - 1) = 9223372036854775808 := by decide
  have eM : (2 : Nat) ^ 64 - 1 = 18446744073709551615 := by decide
  cases l with
  | nil => exact absurd rfl hne
  | cons c r =>
    have hc := hd c (by simp)
    have hk := parseM_ok 18446744073709551615 (Nat.le_refl _) (c :: r) 0 hd
    have e : valFrom 0 (c :: r) = valN (c :: r) := rfl
    rw [e] at hk
    have hU : parseUintB 64 (c :: r) = parseUintM 18446744073709551615 0 (c :: r) := by unfold parseUintB; rw [if_neg hne, eM]
    constructor
    · intro hv
      simp only [parseIntB]
      rw [if_neg (by omega), hU, hk.1 (by omega), eC]
      dsimp only
      rw [if_neg (by omega), if_neg (by omega), if_neg (by omega)]
    · intro hv z
      simp only [parseIntB]
      rw [if_neg (by omega), hU]
      by_cases h1 : valN (c :: r) ≤ 18446744073709551615
      · rw [hk.1 h1, eC]
        dsimp only
        rw [if_pos (by omega)]
        intro e; cases e
      · have h2 := hk.2 (by omega) (by omega)
        cases hp : parseUintM 18446744073709551615 0 (c :: r) with
        | ok u => exact absurd hp (h2 u)
        | _ => intro e; cases e

/- ### Behind a backslash -/
def digsB : Nat → Nat → List UInt8 → Option Nat
  | 0, v, _ => some v
  | _ + 1, _, [] => none
  | n + 1, v, b :: r =>
    match hexV b.toNat with
    | none => none
    | some d => digsB n (v * 16 + d) r
theorem hexV_high {r : Nat} (h : 128 ≤ r) : hexV r = none := by unfold hexV; rw [if_neg (by omega), if_neg (by omega)]
theorem hexV_some {r d : Nat} (h : hexV r = some d) : r < 128 ∧ d < 16 := by
  unfold hexV at h
  split at h
  · injection h with h; omega
  · split at h
    · injection h with h; omega
    · cases h
theorem digs_bytes : ∀ (n v : Nat) (l : List UInt8), digsF n v (pcs l) = digsB n v l
  | 0, v, l => by simp [digsF, digsB]
  | n + 1, v, [] => rfl
  | n + 1, v, b :: r => by
    by_cases hb : b.toNat < 128
    · rw [pcs_asc b r hb]
      unfold digsF digsB
      dsimp only
      cases hexV b.toNat with
      | none => rfl
      | some d => exact digs_bytes n _ r
    · rw [pcs_step _ (by simp)]
      unfold digsF digsB
      dsimp only
      rw [hexV_high (dec_high b r (by omega)), hexV_high (show 128 ≤ b.toNat by omega)]
theorem digsB_lt : ∀ (n v : Nat) (l : List UInt8) (u : Nat), digsB n v l = some u → n ≤ l.length ∧ u < (v + 1) * 16 ^ n
  | 0, v, l, u, h => by
    injection h with h
    subst h; simp
  | n + 1, v, [], u, h => by cases h
  | n + 1, v, b :: r, u, h => by
    unfold digsB at h
    cases hh : hexV b.toNat with
    | none => rw [hh] at h; cases h
    | some d =>
      rw [hh] at h
      have hd := (hexV_some hh).2
      have ih := digsB_lt n (v * 16 + d) r u h
      refine ⟨by simp only [List.length_cons]; omega, Nat.lt_of_lt_of_le ih.2 ?_⟩
      rw [Nat.pow_succ, Nat.mul_comm (16 ^ n) 16, ← Nat.mul_assoc]
      exact Nat.mul_le_mul_right _ (by omega)
/-- The same of a text's bytes. -/
def escB : List UInt8 → Option (Nat × Nat)
  | [] => none
  | b :: l =>
    if b.toNat = 34 ∨ b.toNat = 92 then some (b.toNat, 1)
    else if b.toNat = 117 then
      match digsB 4 0 l with
      | some v => if 55296 ≤ v ∧ v ≤ 57343 then none else some (v, 5)
      | none => none
    else none
theorem esc_bytes (l : List UInt8) : escF (pcs l) = escB l := by
  cases l with
  | nil => rfl
  | cons b r =>
    by_cases hb : b.toNat < 128
    · rw [pcs_asc b r hb]
      unfold escF escB
      dsimp only
      rw [digs_bytes]
      cases digsB 4 0 r <;> rfl
    · have h2 := dec_high b r (by omega)
      rw [pcs_step _ (by simp)]
      unfold escF escB
      dsimp only
      rw [if_neg (by omega), if_neg (by omega), if_neg (by omega), if_neg (by omega)]
/-- The pieces that a backslash takes in are ASCII. -/
theorem digsF_len : ∀ (n v : Nat) (R : List Pc) (u : Nat), digsF n v R = some u → n ≤ R.length ∧ (∀ x ∈ R.take n, x.1 < 128) ∧ u < (v + 1) * 16 ^ n
  | 0, v, R, u, h => by
    simp only [digsF, Option.some.injEq] at h
    subst h
    exact ⟨Nat.zero_le _, fun x hx => by simp at hx, by simp⟩
  | n + 1, v, [], u, h => by cases h
  | n + 1, v, x :: R, u, h => by
    unfold digsF at h
    cases hh : hexV x.1 with
    | none => rw [hh] at h; cases h
    | some d =>
      rw [hh] at h
      have hd := hexV_some hh
      have ih := digsF_len n (v * 16 + d) R u h
      refine ⟨by simp only [List.length_cons]; omega, ?_, Nat.lt_of_lt_of_le ih.2.2 ?_⟩
      · intro y hy
        rw [List.take_succ_cons] at hy
        rcases List.mem_cons.1 hy with rfl | hy
        · exact hd.1
        · exact ih.2.1 y hy
      · rw [Nat.pow_succ, Nat.mul_comm (16 ^ n) 16, ← Nat.mul_assoc]
        exact Nat.mul_le_mul_right _ (by omega)
theorem escF_len {R : List Pc} {r m : Nat} (h : escF R = some (r, m)) : 1 ≤ m ∧ m ≤ R.length ∧ (∀ x ∈ R.take m, x.1 < 128) ∧ Scalar (r : Int) ∧ r < 65536 := by
  cases R with
  | nil => cases h
  | cons x R =>
    unfold escF at h
    dsimp only at h
    by_cases h1 : x.1 = 34 ∨ x.1 = 92
    · rw [if_pos h1] at h
      injection h with h
      injection h with h2 h3
      subst h2 h3
      refine ⟨Nat.le_refl _, by simp, ?_, by unfold Scalar; omega, by omega⟩
      intro y hy
      simp only [List.take_succ_cons, List.take_zero, List.mem_singleton] at hy
      subst hy; omega
    · rw [if_neg h1] at h
      by_cases h2 : x.1 = 117
      · rw [if_pos h2] at h
        cases hd : digsF 4 0 R with
        | none => rw [hd] at h; cases h
        | some v =>
          rw [hd] at h
          dsimp only at h
          have hl := digsF_len 4 0 R v hd
          by_cases h3 : 55296 ≤ v ∧ v ≤ 57343
          · rw [if_pos h3] at h; cases h
          · rw [if_neg h3] at h
            injection h with h
            injection h with h4 h5
            subst h4 h5
            refine ⟨by omega, by simp only [List.length_cons]; omega, ?_, by unfold Scalar; omega, by omega⟩
            intro y hy
            rw [List.take_succ_cons] at hy
            rcases List.mem_cons.1 hy with rfl | hy
            · omega
            · exact hl.2.1 y hy
      · rw [if_neg h2] at h; cases h
theorem flat_ascii {R : List Pc} (h : ∀ x ∈ R, Fit x) {m : Nat} (hm : m ≤ R.length) (ha : ∀ x ∈ R.take m, x.1 < 128) : (flat (R.take m)).length = m := by
  induction m generalizing R with
  | zero => rw [List.take_zero]; rfl
  | succ m ih =>
    cases R with
    | nil => simp at hm
    | cons x R =>
      rw [List.take_succ_cons] at ha ⊢
      rw [flat_cons, List.length_append, (h x (by simp)).len (ha x (by simp)), ih (fun y hy => h y (by simp [hy])) (by simpa using hm) (fun y hy => ha y (by simp [hy]))]
      omega
/-- Pieces are no fewer than their bytes are not none. -/
theorem flat_len {R : List Pc} (h : ∀ x ∈ R, Fit x) : R.length ≤ (flat R).length := by
  induction R with
  | nil => simp
  | cons x R ih =>
    have := (h x (by simp)).pos
    have := ih (fun y hy => h y (by simp [hy]))
    rw [flat_cons, List.length_append, List.length_cons]; omega

/- ### Signs -/
theorem isSign_iff (r : Nat) : isSign r = true ↔ (r = 43 ∨ r = 45 ∨ r = 42 ∨ r = 47 ∨ r = 37 ∨ r = 40 ∨ r = 41 ∨ r = 44 ∨ r = 61 ∨ r = 60 ∨ r = 62 ∨ r = 38 ∨ r = 124 ∨ r = 33) := by
  unfold isSign; simp
theorem isTwo_iff (r : Nat) : isTwo r = true ↔ (r = 60 ∨ r = 62 ∨ r = 33) := by
  unfold isTwo; simp
theorem isSign_lt {r : Nat} (h : isSign r = true) : r < 128 := by have := (isSign_iff r).1 h; omega
def sgnB : List UInt8 → Nat
  | [] => 0
  | b :: l => if isSign b.toNat then (if isTwo b.toNat ∧ l.head? = some 61 then 2 else 1) else 0
theorem sgnB_cons (b : UInt8) (l : List UInt8) : sgnB (b :: l) = if isSign b.toNat then (if isTwo b.toNat ∧ l.head? = some 61 then 2 else 1) else 0 := rfl
theorem head61 (l : List UInt8) : (pcs l).head?.map (·.1) = some 61 ↔ l.head? = some 61 := by
  cases l with
  | nil => simp [pcs_nil]
  | cons b r =>
    by_cases hb : b.toNat < 128
    · rw [pcs_asc b r hb]
      simp only [List.head?_cons, Option.map_some, Option.some.injEq]
      exact ⟨fun h => UInt8.toNat_inj.1 h, fun h => by rw [h]; rfl⟩
    · have h2 := dec_high b r (by omega)
      rw [pcs_step _ (by simp)]
      simp only [List.head?_cons, Option.map_some, Option.some.injEq]
      exact ⟨fun h => by omega, fun h => by subst h; exact absurd hb (by decide)⟩
/-- A sign's bytes. -/
theorem sgn_bytes {l : List UInt8} {x : Pc} {R : List Pc} (h : pcs l = x :: R) : match signF x R with
    | none => sgnB l = 0
    | some f => sgnB l = f.j + 1 ∧ f.k = 4 ∧ f.n = 0 ∧ f.s = l.take (f.j + 1) ∧ f.j ≤ R.length ∧ (flat (x :: R.take f.j)).length = f.j + 1 ∧ f.s = flat (x :: R.take f.j) := by
  obtain ⟨b, r, rfl, ⟨hb, h1, h2, h3⟩ | ⟨hb, hx⟩⟩ := head_byte h
  · subst h3
    unfold signF
    rw [sgnB_cons]
    rw [h1]
    by_cases hs : isSign b.toNat = true
    · rw [if_pos hs, if_pos hs]
      by_cases h4 : isTwo b.toNat = true ∧ (pcs r).head?.map (·.1) = some 61
      · rw [if_pos h4, if_pos ⟨h4.1, (head61 r).1 h4.2⟩]
        obtain ⟨r2, rfl⟩ : ∃ r2, r = 61 :: r2 := by
          have := (head61 r).1 h4.2
          cases r with
          | nil => cases this
          | cons c r2 => simp only [List.head?_cons, Option.some.injEq] at this; exact ⟨r2, by rw [this]⟩
        have e : pcs (61 :: r2) = (61, [61]) :: pcs r2 := pcs_asc 61 r2 (by decide)
        rw [e]
        refine ⟨rfl, rfl, rfl, ?_, by simp, ?_, ?_⟩
        · simp
        · simp [flat_cons, flat_nil, h2]
        · simp [flat_cons, flat_nil, h2]
      · rw [if_neg h4, if_neg (fun hh => h4 ⟨hh.1, (head61 r).2 hh.2⟩)]
        refine ⟨rfl, rfl, rfl, ?_, Nat.zero_le _, ?_, ?_⟩
        · simp
        · simp [flat_cons, flat_nil, h2]
        · simp [flat_cons, flat_nil, h2]
    · rw [if_neg hs, if_neg hs]
  · have n1 : ¬ isSign x.1 = true := fun hh => by have := isSign_lt hh; omega
    have n2 : ¬ isSign b.toNat = true := fun hh => by have := isSign_lt hh; omega
    unfold signF
    rw [sgnB_cons]
    rw [if_neg n1, if_neg n2]
end Go.Proofs.YtbeeeakcjeibgaaDoor
