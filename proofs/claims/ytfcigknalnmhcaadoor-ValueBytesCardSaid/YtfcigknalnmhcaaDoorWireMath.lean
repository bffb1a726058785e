/- Plain mathematics of the wire: a number without sign as seven bits a byte, the lowest first; what reading gives; both ways are one another's. Nothing of the program. -/
import Derived.WalkKit
namespace Go.Proofs.YtfcigknalnmhcaaDoor

/-- A number without sign, seven bits a byte. -/
def enc (u : Nat) : List UInt8 := if h : u < 128 then [UInt8.ofNat u] else UInt8.ofNat (u % 128 + 128) :: enc (u / 128)
termination_by u
decreasing_by omega
theorem enc_low {u : Nat} (h : u < 128) : enc u = [UInt8.ofNat u] := by rw [enc, dif_pos h]
theorem enc_high {u : Nat} (h : ¬ u < 128) : enc u = UInt8.ofNat (u % 128 + 128) :: enc (u / 128) := by rw [enc, dif_neg h]
theorem enc_pos (u : Nat) : 1 ≤ (enc u).length := by
  by_cases h : u < 128
  · rw [enc_low h]; simp
  · rw [enc_high h]; simp
theorem enc_one (u : Nat) : (enc u).length = 1 ↔ u < 128 := by
  by_cases h : u < 128
  · rw [enc_low h]; simp [h]
  · rw [enc_high h]
    have := enc_pos (u / 128)
    simp only [List.length_cons]
    omega
theorem enc_len_pow : ∀ (k u : Nat), u < 128 ^ (k + 1) → (enc u).length ≤ k + 1
  | 0, u, h => by rw [enc_low (by simpa using h)]; simp
  | k + 1, u, h => by
    by_cases hl : u < 128
    · rw [enc_low hl]; simp
    · rw [enc_high hl]
      have h2 : u / 128 < 128 ^ (k + 1) := by
        rw [Nat.div_lt_iff_lt_mul (by decide)]
        rw [Nat.pow_succ] at h
        exact h
      have := enc_len_pow k (u / 128) h2
      simp only [List.length_cons]
      omega
theorem enc_ten {u : Nat} (h : u < 18446744073709551616) : (enc u).length ≤ 10 :=
  enc_len_pow 9 u (Nat.lt_of_lt_of_le h (by decide))
theorem enc_mono : ∀ (n u v : Nat), u ≤ n → u ≤ v → (enc u).length ≤ (enc v).length := by
  intro n
  induction n with
  | zero =>
    intro u v hu _
    have h0 : u = 0 := by omega
    subst h0
    have := enc_pos v
    rw [enc_low (by decide)]
    simpa using this
  | succ n ih =>
    intro u v hu huv
    by_cases hl : u < 128
    · have := enc_pos v
      rw [enc_low hl]
      simpa using this
    · have hv : ¬ v < 128 := by omega
      rw [enc_high hl, enc_high hv]
      have := ih (u / 128) (v / 128) (by omega) (by omega)
      simp only [List.length_cons]
      omega

/-- What is read as a number without sign: k bytes were read, they made u. -/
def rdU : Nat → Nat → List UInt8 → Option (Nat × List UInt8)
  | _, _, [] => none
  | k, u, c :: R =>
    if k = 9 ∧ 1 < c.toNat then none
    else if 128 ≤ c.toNat then rdU (k + 1) (u + (c.toNat % 128) * 2 ^ (7 * k)) R
    else if 0 < k ∧ c.toNat = 0 then none
    else some (u + (c.toNat % 128) * 2 ^ (7 * k), R)

theorem u8w_of {n : Nat} (h : n < 256) : (UInt8.ofNat n).toNat = n := by simp; omega
theorem pow7 (k : Nat) : (2 : Nat) ^ (7 * (k + 1)) = 2 ^ (7 * k) * 128 := by rw [Nat.mul_succ, Nat.pow_add]
/-- Seven bits more have room below 64, ahead of the last place. -/
theorem room64 {k x r : Nat} (hk : k ≤ 8 ∧ r < 128) (h : x * 2 ^ (7 * (k + 1)) < 18446744073709551616) : (x * 128 + r) * 2 ^ (7 * k) < 18446744073709551616 := by
  obtain ⟨hk, hr⟩ := hk
  have hPQ : 2 ^ (7 * (k + 1)) * 2 ^ (64 - 7 * (k + 1)) = 18446744073709551616 := by
    rw [← Nat.pow_add, show 7 * (k + 1) + (64 - 7 * (k + 1)) = 64 by omega]
  have hx : x < 2 ^ (64 - 7 * (k + 1)) := by
    rw [← hPQ, Nat.mul_comm] at h
    exact Nat.lt_of_mul_lt_mul_left h
  have h1 : (x + 1) * 2 ^ (7 * (k + 1)) ≤ 18446744073709551616 := by
    rw [← hPQ, Nat.mul_comm]
    exact Nat.mul_le_mul_left _ hx
  have hp : 0 < 2 ^ (7 * k) := Nat.pow_pos (by decide)
  have h2 : (x * 128 + r) * 2 ^ (7 * k) < (x + 1) * 128 * 2 ^ (7 * k) := Nat.mul_lt_mul_of_pos_right (by omega) hp
  have h3 : (x + 1) * 128 * 2 ^ (7 * k) = (x + 1) * 2 ^ (7 * (k + 1)) := by rw [pow7, Nat.mul_assoc, Nat.mul_comm 128]
  omega
/-- What was put is read. -/
theorem rdU_enc : ∀ (n k u x : Nat) (R : List UInt8), x ≤ n → k ≤ 9 → (0 < k → 0 < x) → x * 2 ^ (7 * k) < 18446744073709551616 → rdU k u (enc x ++ R) = some (u + x * 2 ^ (7 * k), R) := by
  intro n
  induction n with
  | zero =>
    intro k u x R hx hk h0 _
    have hx0 : x = 0 := by omega
    subst hx0
    rw [enc_low (by decide)]
    show rdU k u (UInt8.ofNat 0 :: R) = _
    have hk0 : ¬ 0 < k := fun h => absurd (h0 h) (by decide)
    unfold rdU
    rw [show (UInt8.ofNat 0).toNat = 0 from rfl, if_neg (by omega), if_neg (by decide), if_neg (by omega)]
  | succ n ih =>
    intro k u x R hx hk h0 hlt
    have h9 : k = 9 → x ≤ 1 := by
      rintro rfl
      have h2 : x * 9223372036854775808 < 18446744073709551616 := hlt
      omega
    by_cases hl : x < 128
    · rw [enc_low hl]
      show rdU k u (UInt8.ofNat x :: R) = _
      unfold rdU
      rw [u8w_of (by omega), if_neg (by omega), if_neg (by omega), if_neg (by omega), Nat.mod_eq_of_lt hl]
    · have hk9 : k ≠ 9 := fun h => by have := h9 h; omega
      rw [enc_high hl]
      show rdU k u (UInt8.ofNat (x % 128 + 128) :: (enc (x / 128) ++ R)) = _
      unfold rdU
      rw [u8w_of (by omega), if_neg (by omega), if_pos (by omega)]
      have hm : (x % 128 + 128) % 128 = x % 128 := by omega
      have hs : x / 128 * 2 ^ (7 * (k + 1)) + x % 128 * 2 ^ (7 * k) = x * 2 ^ (7 * k) := by
        have h3 : (x / 128 * 128 + x % 128) * 2 ^ (7 * k) = x * 2 ^ (7 * k) := by rw [Nat.mul_comm (x / 128) 128, Nat.div_add_mod]
        rw [← h3, Nat.add_mul, pow7, Nat.mul_comm (2 ^ (7 * k)) 128, Nat.mul_assoc]
      rw [hm, ih (k + 1) _ (x / 128) R (by omega) (by omega) (fun _ => by omega) (by omega)]
      congr 2
      omega
/-- What is read was put so. -/
theorem rdU_back : ∀ (L : List UInt8) (k u v : Nat) (R : List UInt8), k ≤ 9 → rdU k u L = some (v, R) → ∃ x, L = enc x ++ R ∧ v = u + x * 2 ^ (7 * k) ∧ (0 < k → 0 < x) ∧ x * 2 ^ (7 * k) < 18446744073709551616 := by
  intro L
  induction L with
  | nil => intro k u v R _ h; cases h
  | cons c L ih =>
    intro k u v R hk h
    unfold rdU at h
    have hc := c.toNat_lt
    by_cases h1 : k = 9 ∧ 1 < c.toNat
    · rw [if_pos h1] at h; cases h
    · rw [if_neg h1] at h
      by_cases h2 : 128 ≤ c.toNat
      · rw [if_pos h2] at h
        have hk9 : k ≠ 9 := fun e => h1 ⟨e, by omega⟩
        obtain ⟨x, e1, e2, e3, e4⟩ := ih (k + 1) _ v R (by omega) h
        have e3' := e3 (by omega)
        refine ⟨x * 128 + c.toNat % 128, ?_, ?_, fun _ => by omega, ?_⟩
        · have hge : ¬ x * 128 + c.toNat % 128 < 128 := by omega
          rw [enc_high hge, e1]
          have ea : (x * 128 + c.toNat % 128) % 128 + 128 = c.toNat := by omega
          have eb : (x * 128 + c.toNat % 128) / 128 = x := by omega
          rw [ea, eb]
          have ec : UInt8.ofNat c.toNat = c := by simp
          rw [ec]
          rfl
        · rw [e2, pow7, Nat.add_mul, Nat.mul_comm (2 ^ (7 * k)) 128, Nat.mul_assoc]
          omega
        · have e5 : (x * 128 + c.toNat % 128) * 2 ^ (7 * k) = x * 2 ^ (7 * (k + 1)) + c.toNat % 128 * 2 ^ (7 * k) := by
            rw [pow7, Nat.add_mul, Nat.mul_comm (2 ^ (7 * k)) 128, Nat.mul_assoc]
          exact room64 (by omega) e4
      · rw [if_neg h2] at h
        by_cases h3 : 0 < k ∧ c.toNat = 0
        · rw [if_pos h3] at h; cases h
        · rw [if_neg h3] at h
          injection h with h
          injection h with h4 h5
          have hm : c.toNat % 128 = c.toNat := Nat.mod_eq_of_lt (by omega)
          rw [hm] at h4
          refine ⟨c.toNat, ?_, h4.symm, fun h0 => by omega, ?_⟩
          · rw [enc_low (by omega), h5]
            have ec : UInt8.ofNat c.toNat = c := by simp
            rw [ec]
            rfl
          · by_cases h9 : k = 9
            · subst h9
              have : c.toNat ≤ 1 := by omega
              simp only [Nat.reduceMul, Nat.reducePow]
              omega
            · have hkk : k = 0 ∨ k = 1 ∨ k = 2 ∨ k = 3 ∨ k = 4 ∨ k = 5 ∨ k = 6 ∨ k = 7 ∨ k = 8 := by omega
              rcases hkk with rfl | rfl | rfl | rfl | rfl | rfl | rfl | rfl | rfl <;> simp only [Nat.reduceMul, Nat.reducePow] <;> omega

/-- A number of either sign as one without, and back. -/
def uz (v : Int) : Nat := if v < 0 then (2 * (-(v + 1)) + 1).toNat else (2 * v).toNat
def zz (u : Nat) : Int := if u % 2 = 1 then -((u / 2 : Nat) : Int) - 1 else ((u / 2 : Nat) : Int)
theorem zz_uz (v : Int) : zz (uz v) = v := by
  unfold zz uz
  by_cases h : v < 0
  · rw [if_pos h, if_pos (by omega)]; omega
  · rw [if_neg h, if_neg (by omega)]; omega
theorem uz_zz (u : Nat) : uz (zz u) = u := by
  unfold zz uz
  by_cases h : u % 2 = 1
  · rw [if_pos h, if_pos (by omega)]; omega
  · rw [if_neg h, if_neg (by omega)]; omega
theorem uz_lt {v : Int} (h0 : -9223372036854775808 ≤ v) (h1 : v ≤ 9223372036854775807) : uz v < 18446744073709551616 := by
  unfold uz
  by_cases h : v < 0
  · rw [if_pos h]; omega
  · rw [if_neg h]; omega
theorem zz_lo {u : Nat} (h : u < 18446744073709551616) : -9223372036854775808 ≤ zz u ∧ zz u ≤ 9223372036854775807 := by
  unfold zz
  by_cases h2 : u % 2 = 1
  · rw [if_pos h2]; omega
  · rw [if_neg h2]; omega
theorem uz_pos {v : Int} (h : 0 ≤ v) : uz v = (2 * v).toNat := by unfold uz; rw [if_neg (by omega)]
theorem uz_neg {v : Int} (h : v < 0) : uz v = (2 * (-(v + 1)) + 1).toNat := by unfold uz; rw [if_pos h]
theorem uz_small (v : Int) : uz v < 128 ↔ -64 ≤ v ∧ v < 64 := by
  by_cases h : v < 0
  · rw [uz_neg h]; omega
  · rw [uz_pos (by omega)]; omega

/-- PutInt's bytes; PutBool's; PutText's. -/
def putI (v : Int) : List UInt8 := enc (uz v)
def putB (t : Bool) : List UInt8 := [if t then 1 else 0]
def putT (s : List UInt8) : List UInt8 := putI (s.length : Int) ++ s
theorem putI_pos (v : Int) : 1 ≤ (putI v).length := enc_pos _
theorem putI_ten {v : Int} (h0 : -9223372036854775808 ≤ v) (h1 : v ≤ 9223372036854775807) : (putI v).length ≤ 10 := enc_ten (uz_lt h0 h1)
theorem putI_one (v : Int) : (putI v).length = 1 ↔ -64 ≤ v ∧ v < 64 := (enc_one _).trans (uz_small v)
theorem putI_up {a b : Int} (h0 : 0 ≤ a) (h : a ≤ b) : (putI a).length ≤ (putI b).length := enc_mono (uz a) _ _ (Nat.le_refl _) (by rw [uz_pos h0, uz_pos (by omega)]; omega)
theorem putI_down {a b : Int} (h0 : a < 0) (h : b ≤ a) : (putI a).length ≤ (putI b).length := enc_mono (uz a) _ _ (Nat.le_refl _) (by rw [uz_neg h0, uz_neg (by omega)]; omega)
theorem putB_len (t : Bool) : (putB t).length = 1 := rfl

/-- A reader's state: what is left; whether it failed (then nothing is left). -/
abbrev St : Type := List UInt8 × Bool
def stI (s : St) : Int × St := match rdU 0 0 s.1 with
  | some (u, R) => (zz u, (R, s.2))
  | none => (0, ([], true))
def stB (s : St) : Bool × St := match s.1 with
  | [] => (false, ([], true))
  | c :: R => if 1 < c.toNat then (false, ([], true)) else (c.toNat == 1, (R, s.2))
def okC (most : Int) (s : St) : Bool := decide (0 ≤ (stI s).1 ∧ (stI s).1 ≤ most ∧ (stI s).1 ≤ ((stI s).2.1.length : Int))
def stC (most : Int) (s : St) : Int × St := if okC most s then stI s else (0, ([], true))
def stT (most : Int) (s : St) : List UInt8 × St := ((stC most s).2.1.take (stC most s).1.toNat, ((stC most s).2.1.drop (stC most s).1.toNat, (stC most s).2.2))

theorem stI_some {s : St} {u : Nat} {R : List UInt8} (h : rdU 0 0 s.1 = some (u, R)) : stI s = (zz u, (R, s.2)) := by unfold stI; simp only [h]
theorem stI_none {s : St} (h : rdU 0 0 s.1 = none) : stI s = (0, ([], true)) := by unfold stI; simp only [h]
theorem stI_put {v : Int} (h0 : -9223372036854775808 ≤ v) (h1 : v ≤ 9223372036854775807) (R : List UInt8) (f : Bool) : stI (putI v ++ R, f) = (v, (R, f)) := by
  have h := rdU_enc (uz v) 0 0 (uz v) R (Nat.le_refl _) (by decide) (fun h => absurd h (by decide)) (by simpa using uz_lt h0 h1)
  have h2 : rdU 0 0 (putI v ++ R, f).1 = some (uz v, R) := by
    show rdU 0 0 (enc (uz v) ++ R) = _
    rw [h]; simp
  rw [stI_some h2, zz_uz]
theorem stI_back {L : List UInt8} {f : Bool} (h : (stI (L, f)).2.2 = false) : L = putI (stI (L, f)).1 ++ (stI (L, f)).2.1 ∧ -9223372036854775808 ≤ (stI (L, f)).1 ∧ (stI (L, f)).1 ≤ 9223372036854775807 := by
  cases e : rdU 0 0 L with
  | none => rw [stI_none (s := (L, f)) e] at h; cases h
  | some p =>
    obtain ⟨u, R⟩ := p
    have hs := stI_some (s := (L, f)) e
    rw [hs]
    obtain ⟨x, e1, e2, _, e4⟩ := rdU_back L 0 0 u R (by decide) e
    have e5 : u = x := by rw [e2]; simp
    have e6 : x < 18446744073709551616 := by simpa using e4
    subst e5
    refine ⟨?_, zz_lo e6⟩
    show L = enc (uz (zz u)) ++ R
    rw [uz_zz]; exact e1
theorem stI_lo (s : St) : -9223372036854775808 ≤ (stI s).1 ∧ (stI s).1 ≤ 9223372036854775807 := by
  cases e : rdU 0 0 s.1 with
  | none => rw [stI_none e]; exact ⟨by decide, by decide⟩
  | some p =>
    obtain ⟨u, R⟩ := p
    rw [stI_some e]
    obtain ⟨x, _, e2, _, e4⟩ := rdU_back s.1 0 0 u R (by decide) e
    have e5 : u = x := by rw [e2]; simp
    subst e5
    exact zz_lo (by simpa using e4)
theorem stI_left (s : St) : (stI s).2.1.length ≤ s.1.length := by
  cases e : rdU 0 0 s.1 with
  | none => rw [stI_none e]; simp
  | some p =>
    obtain ⟨u, R⟩ := p
    rw [stI_some e]
    obtain ⟨x, e1, _⟩ := rdU_back s.1 0 0 u R (by decide) e
    rw [e1]; simp
end Go.Proofs.YtfcigknalnmhcaaDoor
