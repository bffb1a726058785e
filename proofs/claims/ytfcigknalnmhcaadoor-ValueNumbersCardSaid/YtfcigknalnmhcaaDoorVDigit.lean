/- Plain mathematics: a number's digits, one by one from its end. -/
import Derived.Test.YtfcigknalnmhcaaDoorVShow
import Derived.Lib.ItoaLen
namespace Go.Proofs.YtfcigknalnmhcaaDoor
open Go.Lib

theorem dig_at (u : Nat) : ∀ k, k < (decDigits u).length → (decDigits u)[(decDigits u).length - 1 - k]? = some (UInt8.ofNat (48 + u / 10 ^ k % 10)) := by
  induction u using Nat.strongRecOn with
  | _ u ih =>
    intro k hk
    by_cases h : u < 10
    · rw [decDigits_one h] at hk ⊢
      simp only [List.length_singleton] at hk ⊢
      obtain rfl : k = 0 := by omega
      simp [Nat.mod_eq_of_lt h]
    · have hb := decDigits_big u (by omega)
      rw [hb] at hk ⊢
      rw [List.length_append, List.length_singleton] at hk ⊢
      cases k with
      | zero =>
        rw [List.getElem?_append_right (by omega), show (decDigits (u / 10)).length + 1 - 1 - 0 - (decDigits (u / 10)).length = 0 by omega]
        simp
      | succ k =>
        rw [List.getElem?_append_left (by omega), show (decDigits (u / 10)).length + 1 - 1 - (k + 1) = (decDigits (u / 10)).length - 1 - k by omega, ih (u / 10) (by omega) k (by omega)]
        rw [Nat.div_div_eq_div_mul, Nat.pow_succ, Nat.mul_comm (10 ^ k) 10]
theorem dig_end (u : Nat) : u / 10 ^ (decDigits u).length = 0 := by
  induction u using Nat.strongRecOn with
  | _ u ih =>
    by_cases h : u < 10
    · rw [decDigits_one h]
      simp only [List.length_singleton]
      omega
    · rw [decDigits_big u (by omega), List.length_append, List.length_singleton, Nat.pow_succ, Nat.mul_comm, ← Nat.div_div_eq_div_mul]
      exact ih (u / 10) (by omega)

/-- What is left of a number when k digits are struck. -/
def leftN (n : Int) (k : Nat) : Int := if n < 0 then -((n.natAbs / 10 ^ k : Nat) : Int) else ((n.natAbs / 10 ^ k : Nat) : Int)
/-- How many digits it has. -/
def lenN (n : Int) : Nat := (decDigits n.natAbs).length
theorem leftN_zero (n : Int) : leftN n 0 = n := by
  unfold leftN; rw [Nat.pow_zero, Nat.div_one]; split <;> omega
theorem leftN_end (n : Int) : leftN n (lenN n) = 0 := by
  unfold leftN lenN; rw [dig_end]; split <;> rfl
theorem leftN_div (n : Int) (k : Nat) : (leftN n k).tdiv 10 = leftN n (k + 1) := by
  unfold leftN
  rw [Nat.pow_succ, ← Nat.div_div_eq_div_mul]
  generalize n.natAbs / 10 ^ k = v
  split
  · rw [Int.neg_tdiv]; rfl
  · rfl
/-- The digit that is struck. -/
def digN (n : Int) (k : Nat) : Nat := n.natAbs / 10 ^ k % 10
theorem leftN_mod (n : Int) (k : Nat) : (leftN n k).tmod 10 = if n < 0 then -(digN n k : Int) else (digN n k : Int) := by
  unfold leftN digN
  generalize n.natAbs / 10 ^ k = v
  split
  · rw [Int.neg_tmod]; rfl
  · rfl
theorem leftN_le (n : Int) (k : Nat) (h0 : -9223372036854775808 ≤ n) (h1 : n ≤ 9223372036854775807) : -9223372036854775808 ≤ leftN n k ∧ leftN n k ≤ 9223372036854775807 := by
  unfold leftN
  have : n.natAbs / 10 ^ k ≤ n.natAbs := Nat.div_le_self _ _
  generalize n.natAbs / 10 ^ k = v at *
  split <;> omega
theorem itoa_abs (n : Int) : itoa n = if n < 0 then 45 :: decDigits n.natAbs else decDigits n.natAbs := by
  unfold itoa
  split
  · rfl
  · rw [show n.toNat = n.natAbs by omega]
/-- The bytes of a shown number. -/
theorem itoa_len (n : Int) : (itoa n).length = lenN n + (if n < 0 then 1 else 0) := by
  rw [itoa_abs]; unfold lenN; split <;> simp
theorem itoa_at (n : Int) (k : Nat) (hk : k < lenN n) : (itoa n)[(itoa n).length - 1 - k]? = some (UInt8.ofNat (48 + digN n k)) := by
  rw [itoa_len, itoa_abs]
  have h := dig_at n.natAbs k hk
  unfold lenN at *
  unfold digN
  split
  · rw [show (decDigits n.natAbs).length + 1 - 1 - k = ((decDigits n.natAbs).length - 1 - k) + 1 by omega, List.getElem?_cons_succ]; exact h
  · exact h
theorem itoa_neg0 (n : Int) (h : n < 0) : (itoa n)[0]? = some 45 := by rw [itoa_abs, if_pos h]; rfl
theorem lenN_pos (n : Int) : 0 < lenN n := List.length_pos_iff.2 (decDigits_ne _)
end Go.Proofs.YtfcigknalnmhcaaDoor
