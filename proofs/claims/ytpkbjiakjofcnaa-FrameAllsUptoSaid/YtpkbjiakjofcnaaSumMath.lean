/- Plain mathematics of the sum of 32 bits: one step on a register, a byte, a list of bytes; that a step is one to one and adds bit by bit; what a turned bit does. Nothing of the program. -/
import Derived.WalkKit
import Derived.Laws.BitsAllLaws
namespace Go.Proofs.Ytpkbjiakjofcnaa
open Go.RowKit

def polyB : BitVec 32 := 3988292384#32
def st (x : BitVec 32) : BitVec 32 := if x.getLsbD 0 then (x >>> 1) ^^^ polyB else x >>> 1
def stN : Nat → BitVec 32 → BitVec 32
  | 0, x => x
  | n + 1, x => st (stN n x)
def by8 (c : UInt8) : BitVec 32 := BitVec.ofNat 32 c.toNat
def ab (r : BitVec 32) (c : UInt8) : BitVec 32 := stN 8 (r ^^^ by8 c)
def fd (r : BitVec 32) (l : List UInt8) : BitVec 32 := l.foldl ab r
def onesB : BitVec 32 := 4294967295#32
def moreB (s : BitVec 32) (l : List UInt8) : BitVec 32 := fd (s ^^^ onesB) l ^^^ onesB
def Z (x : BitVec 32) : Int := (x.toNat : Int)

theorem Z_lo (x : BitVec 32) : 0 ≤ Z x := Int.natCast_nonneg _
theorem Z_hi (x : BitVec 32) : Z x ≤ 4294967295 := by have := x.isLt; unfold Z; omega
theorem Z_inj {x y : BitVec 32} (h : Z x = Z y) : x = y := BitVec.eq_of_toNat_eq (Int.ofNat.inj h)
theorem Z_of (n : Int) (h0 : 0 ≤ n) (h1 : n ≤ 4294967295) : ∃ x : BitVec 32, n = Z x :=
  ⟨BitVec.ofNat 32 n.toNat, by unfold Z; rw [BitVec.toNat_ofNat]; omega⟩
theorem Z_xor (x y : BitVec 32) : bits .xor .u32 (Z x) (Z y) = Z (x ^^^ y) := by
  unfold Z; rw [BitVec.toNat_xor]; exact u32_xor_nat _ _ x.isLt y.isLt
theorem Z_shr (x : BitVec 32) : Z x / (2 : Int) = Z (x >>> (1 : Nat)) := by
  unfold Z; rw [BitVec.toNat_ushiftRight, Nat.shiftRight_eq_div_pow]; omega
theorem Z_poly : (3988292384 : Int) = Z polyB := by decide
theorem Z_ones : (4294967295 : Int) = Z onesB := by decide
theorem lsb_mod (x : BitVec 32) : Z x % 2 = if x.getLsbD 0 then 1 else 0 := by
  unfold Z
  have h : x.getLsbD 0 = x.toNat.testBit 0 := rfl
  rw [h, Nat.testBit_zero]
  by_cases h2 : x.toNat % 2 = 1 <;> simp [h2] <;> omega
theorem by8_Z (c : UInt8) : Z (by8 c) = (c.toNat : Int) := by
  have := c.toNat_lt
  unfold Z by8; rw [BitVec.toNat_ofNat]; omega

theorem xor4 (a b c d : BitVec 32) : (a ^^^ b) ^^^ (c ^^^ d) = (a ^^^ c) ^^^ (b ^^^ d) := by
  rw [BitVec.xor_assoc, BitVec.xor_assoc, ← BitVec.xor_assoc b c d, BitVec.xor_comm b c, BitVec.xor_assoc c b d]
theorem st_xor (x y : BitVec 32) : st (x ^^^ y) = st x ^^^ st y := by
  unfold st
  rw [BitVec.getLsbD_xor, BitVec.ushiftRight_xor_distrib]
  cases hx : x.getLsbD 0 <;> cases hy : y.getLsbD 0 <;> simp
  · exact BitVec.xor_assoc _ _ _
  · rw [BitVec.xor_assoc, BitVec.xor_comm (y >>> 1), BitVec.xor_assoc]
  · rw [xor4]; simp
theorem st_zero : st 0#32 = 0#32 := by decide
theorem st_ne {x : BitVec 32} (h : x ≠ 0#32) : st x ≠ 0#32 := by
  intro h0
  apply h
  unfold st at h0
  split at h0
  · rename_i hl
    exfalso
    have e := congrArg (fun b : BitVec 32 => b.getLsbD 31) h0
    simp [polyB] at e
  · rename_i hl
    apply BitVec.eq_of_toNat_eq
    have e := congrArg BitVec.toNat h0
    rw [BitVec.toNat_ushiftRight, Nat.shiftRight_eq_div_pow] at e
    have hm := lsb_mod x
    rw [if_neg hl] at hm
    unfold Z at hm
    simp at e ⊢
    omega
theorem stN_xor (n : Nat) (x y : BitVec 32) : stN n (x ^^^ y) = stN n x ^^^ stN n y := by
  induction n with
  | zero => rfl
  | succ n ih => unfold stN; rw [ih, st_xor]
theorem stN_zero (n : Nat) : stN n 0#32 = 0#32 := by
  induction n with
  | zero => rfl
  | succ n ih => unfold stN; rw [ih, st_zero]
theorem stN_ne (n : Nat) {x : BitVec 32} (h : x ≠ 0#32) : stN n x ≠ 0#32 := by
  induction n with
  | zero => exact h
  | succ n ih => unfold stN; exact st_ne ih
theorem stN_add (m n : Nat) (x : BitVec 32) : stN (m + n) x = stN m (stN n x) := by
  induction m with
  | zero => simp [stN]
  | succ m ih => rw [Nat.succ_add]; unfold stN; rw [ih]
theorem stN_two_all : ∀ i : Fin 32, stN i.val (BitVec.twoPow 32 i.val) = 1#32 := by decide +kernel
theorem stN_two (i : Nat) (h : i < 32) : stN i (BitVec.twoPow 32 i) = 1#32 := stN_two_all ⟨i, h⟩

theorem ab_xor (r d : BitVec 32) (c : UInt8) : ab (r ^^^ d) c = ab r c ^^^ stN 8 d := by
  unfold ab; rw [← stN_xor, BitVec.xor_assoc, BitVec.xor_comm d, ← BitVec.xor_assoc]
theorem fd_cons (r : BitVec 32) (c : UInt8) (l : List UInt8) : fd r (c :: l) = fd (ab r c) l := rfl
theorem fd_append (r : BitVec 32) (a b : List UInt8) : fd r (a ++ b) = fd (fd r a) b := List.foldl_append
theorem fd_xor (l : List UInt8) : ∀ r d : BitVec 32, fd (r ^^^ d) l = fd r l ^^^ stN (8 * l.length) d := by
  induction l with
  | nil => intro r d; rfl
  | cons c l ih =>
    intro r d
    rw [fd_cons, fd_cons, ab_xor, ih, ← stN_add]
    congr 2
theorem fd_snoc (r : BitVec 32) (l : List UInt8) (k : Nat) (h : k < l.length) : fd r (l.take (k + 1)) = ab (fd r (l.take k)) l[k] := by
  rw [List.take_succ_eq_append_getElem h, fd_append]; rfl

/-- A byte that is turned: what becomes of the register. -/
theorem fd_set (r : BitVec 32) (l : List UInt8) (j : Nat) (h : j < l.length) (e x : UInt8) (he : by8 x = by8 l[j] ^^^ by8 e) :
    fd r (l.set j x) = fd r l ^^^ stN (8 * (l.length - j)) (by8 e) := by
  have h1 : l.set j x = l.take j ++ x :: l.drop (j + 1) := List.set_eq_take_append_cons_drop .. |>.trans (by rw [if_pos h])
  have h2 : fd r l = fd r (l.take j ++ l[j] :: l.drop (j + 1)) := by rw [List.getElem_cons_drop, List.take_append_drop]
  rw [h1, h2, fd_append, fd_append, fd_cons, fd_cons]
  have h3 : ab (fd r (l.take j)) x = ab (fd r (l.take j)) l[j] ^^^ stN 8 (by8 e) := by
    unfold ab; rw [he, ← stN_xor, BitVec.xor_assoc]
  rw [h3, fd_xor, ← stN_add]
  congr 2
  rw [List.length_drop]
  omega

/-- Sums go on. -/
theorem more_more (s : BitVec 32) (a b : List UInt8) : moreB (moreB s a) b = moreB s (a ++ b) := by
  unfold moreB; rw [fd_append, BitVec.xor_assoc, BitVec.xor_self, BitVec.xor_zero]
theorem more_nil (s : BitVec 32) : moreB s [] = s := by
  unfold moreB fd; simp [BitVec.xor_assoc]

/-- Three rows, added bit by bit. -/
def x3 : List UInt8 → List UInt8 → List UInt8 → List UInt8
  | a :: l, b :: m, c :: n => (a ^^^ b ^^^ c) :: x3 l m n
  | _, _, _ => []
theorem by8_xor (a b : UInt8) : by8 (a ^^^ b) = by8 a ^^^ by8 b := by
  apply BitVec.eq_of_toNat_eq
  have ha := a.toNat_lt
  have hb := b.toNat_lt
  have hx : a.toNat ^^^ b.toNat < 2 ^ 8 := Nat.xor_lt_two_pow ha hb
  unfold by8
  rw [BitVec.toNat_xor, BitVec.toNat_ofNat, BitVec.toNat_ofNat, BitVec.toNat_ofNat, UInt8.toNat_xor, Nat.mod_eq_of_lt (by omega), Nat.mod_eq_of_lt (by omega), Nat.mod_eq_of_lt (by omega)]
theorem fd_three (n : Nat) : ∀ (a b c : List UInt8) (r q t : BitVec 32), a.length = n → b.length = n → c.length = n →
    fd r a ^^^ fd q b ^^^ fd t c = fd (r ^^^ q ^^^ t) (x3 a b c) := by
  induction n with
  | zero =>
    intro a b c r q t ha hb hc
    obtain rfl := List.eq_nil_of_length_eq_zero ha
    obtain rfl := List.eq_nil_of_length_eq_zero hb
    obtain rfl := List.eq_nil_of_length_eq_zero hc
    rfl
  | succ n ih =>
    intro a b c r q t ha hb hc
    cases a with
    | nil => simp at ha
    | cons x a =>
    cases b with
    | nil => simp at hb
    | cons y b =>
    cases c with
    | nil => simp at hc
    | cons z c =>
    rw [x3, fd_cons, fd_cons, fd_cons, fd_cons, ih a b c _ _ _ (by simpa using ha) (by simpa using hb) (by simpa using hc)]
    congr 1
    unfold ab
    rw [← stN_xor, ← stN_xor, by8_xor, by8_xor]
    congr 1
    rw [xor4 r (by8 x) q (by8 y), xor4 (r ^^^ q)]
theorem more_three (a b c : List UInt8) (n : Nat) (ha : a.length = n) (hb : b.length = n) (hc : c.length = n) :
    moreB 0#32 a ^^^ moreB 0#32 b ^^^ moreB 0#32 c = moreB 0#32 (x3 a b c) := by
  unfold moreB
  rw [xor4 (fd (0#32 ^^^ onesB) a) onesB, xor4 (fd (0#32 ^^^ onesB) a ^^^ fd (0#32 ^^^ onesB) b), fd_three n a b c _ _ _ ha hb hc]
  congr 1

/-- Bits of a row, below a place. -/
def rowLow (row : BitVec 32) (i : Nat) : BitVec 32 := (row.setWidth i).setWidth 32
theorem rowLow_bit (row : BitVec 32) (i j : Nat) : (rowLow row i).getLsbD j = (decide (j < 32) && (decide (j < i) && row.getLsbD j)) := by
  unfold rowLow; rw [BitVec.getLsbD_setWidth, BitVec.getLsbD_setWidth]
theorem rowLow_zero (row : BitVec 32) : rowLow row 0 = 0#32 := by
  apply BitVec.eq_of_getLsbD_eq; intro j hj; rw [rowLow_bit]; simp
theorem rowLow_no (row : BitVec 32) (i : Nat) (h : row.getLsbD i = false) : rowLow row (i + 1) = rowLow row i := by
  apply BitVec.eq_of_getLsbD_eq; intro j hj; rw [rowLow_bit, rowLow_bit]
  by_cases e : j = i
  · subst e; simp [h]
  · have : (j < i + 1) = (j < i) := by simp; omega
    simp [this]
theorem rowLow_yes (row : BitVec 32) (i : Nat) (h : row.getLsbD i = true) : rowLow row (i + 1) = rowLow row i ^^^ BitVec.twoPow 32 i := by
  apply BitVec.eq_of_getLsbD_eq; intro j hj; rw [BitVec.getLsbD_xor, rowLow_bit, rowLow_bit, BitVec.getLsbD_twoPow]
  by_cases e : j = i
  · subst e; simp [h, hj]
  · have h1 : (j < i + 1) = (j < i) := by simp; omega
    have h2 : ¬ i = j := fun h => e h.symm
    simp [h1, h2]
theorem rowLow_ne (row : BitVec 32) (i : Nat) (hi : i < 32) (h : row.getLsbD i = true) : rowLow row (i + 1) ≠ 0#32 := by
  intro e
  have h1 := rowLow_bit row (i + 1) i
  rw [e, h] at h1
  simp [hi] at h1

/-- What is turned of b, behind i bits of the row from the bit k on: the list c. -/
structure Turned (row : BitVec 32) (b : List UInt8) (k i : Nat) (c : List UInt8) : Prop where
  len : c.length = b.length
  reg : ∀ r, fd r c = fd r b ^^^ stN (8 * b.length - k) (rowLow row i)
  same : rowLow row i = 0#32 → c = b
theorem Turned.start (row : BitVec 32) (b : List UInt8) (k : Nat) : Turned row b k 0 b :=
  ⟨rfl, fun r => by rw [rowLow_zero, stN_zero, BitVec.xor_zero], fun _ => rfl⟩
theorem Turned.no {row : BitVec 32} {b c : List UInt8} {k i : Nat} (h : Turned row b k i c) (hb : row.getLsbD i = false) : Turned row b k (i + 1) c :=
  ⟨h.len, fun r => by rw [h.reg, rowLow_no _ _ hb], fun e => h.same (by rw [← rowLow_no _ _ hb]; exact e)⟩
theorem by8_two (q : Nat) (hq : q < 8) : by8 (UInt8.ofNat (2 ^ q)) = BitVec.twoPow 32 q := by
  have : ∀ q : Fin 8, by8 (UInt8.ofNat (2 ^ q.val)) = BitVec.twoPow 32 q.val := by decide +kernel
  exact this ⟨q, hq⟩
theorem Turned.yes {row : BitVec 32} {b c : List UInt8} {k i j q : Nat} (h : Turned row b k i c) (hi : i < 32) (hp : k + i < 8 * b.length) (hb : row.getLsbD i = true)
    (hj : j = (k + i) / 8) (hq : q = (k + i) % 8) (hjl : j < c.length) : Turned row b k (i + 1) (c.set j (c[j] ^^^ UInt8.ofNat (2 ^ q))) := by
  refine ⟨by rw [List.length_set]; exact h.len, fun r => ?_, fun e => absurd e (rowLow_ne row i hi hb)⟩
  have hl := h.len
  rw [fd_set r c j hjl (UInt8.ofNat (2 ^ q)) _ (by8_xor _ _), h.reg, rowLow_yes _ _ hb, stN_xor, BitVec.xor_assoc]
  congr 2
  rw [by8_two q (by omega)]
  have e1 : 8 * (c.length - j) = (8 * b.length - k - i) + q := by omega
  have e2 : stN (8 * b.length - k) (BitVec.twoPow 32 i) = stN (8 * b.length - k - i) 1#32 := by
    have e3 : 8 * b.length - k = (8 * b.length - k - i) + i := by omega
    have e4 := stN_add (8 * b.length - k - i) i (BitVec.twoPow 32 i)
    rw [← e3, stN_two i hi] at e4
    exact e4
  rw [e1, e2, stN_add, stN_two q (by omega)]
/-- What is asked: the sums are the same just where the bytes are. -/
theorem Turned.told {row : BitVec 32} {b c : List UInt8} {k i : Nat} (h : Turned row b k i c) : moreB 0#32 c = moreB 0#32 b ↔ c = b := by
  constructor
  · intro e
    apply h.same
    apply Classical.byContradiction
    intro hn
    apply stN_ne (8 * b.length - k) hn
    unfold moreB at e
    have e2 := congrArg (· ^^^ onesB) e
    simp only [BitVec.xor_assoc, BitVec.xor_self, BitVec.xor_zero, h.reg] at e2
    have e3 := congrArg (fd (0#32 ^^^ onesB) b ^^^ ·) e2
    simp only [← BitVec.xor_assoc, BitVec.xor_self, BitVec.zero_xor] at e3
    exact e3
  · rintro rfl; rfl
end Go.Proofs.Ytpkbjiakjofcnaa
