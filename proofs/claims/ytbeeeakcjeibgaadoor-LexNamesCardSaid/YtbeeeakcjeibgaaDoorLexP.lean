/- Plain mathematics: the tokens of a formula, told by its pieces. No program stands in this text. -/
import Derived.Test.YtbeeeakcjeibgaaDoorCls
namespace Go.Proofs.YtbeeeakcjeibgaaDoor
open Go.Lib

/- ### Pieces of a text -/
/-- Pieces that are some text's. -/
def Pcd (R : List Pc) : Prop := pcs (flat R) = R
theorem Pcd.of (l : List UInt8) : Pcd (pcs l) := by unfold Pcd; rw [flat_pcs]
theorem flat_take_drop (R : List Pc) (m : Nat) : flat (R.take m) ++ flat (R.drop m) = flat R := by rw [← flat_append, List.take_append_drop]
theorem Pcd.drop {R : List Pc} (h : Pcd R) (m : Nat) : Pcd (R.drop m) := by
  unfold Pcd at h ⊢
  have := pcs_drop (flat R) m
  rw [h] at this
  rw [← this]
  have e := flat_take_drop R m
  rw [← e, List.drop_left, flat_pcs]
theorem Pcd.take {R : List Pc} (h : Pcd R) (m : Nat) : Pcd (R.take m) := by
  unfold Pcd at h ⊢
  have := pcs_take (flat R) m
  rwa [h] at this
theorem Pcd.tail {x : Pc} {R : List Pc} (h : Pcd (x :: R)) : Pcd R := h.drop 1

/-- What a piece is. -/
structure Fit (x : Pc) : Prop where
  ne : x.2 ≠ []
  le : x.2.length ≤ 4
  sc : Scalar (x.1 : Int)
  enc : ¬ bad x → x.2 = encodeRune (x.1 : Int)
  solid : ¬ bad x → Solid x
theorem Fit.one {x : Pc} (h : Fit x) (hx : x.1 < 128) : x.2 = [UInt8.ofNat x.1] := by
  rw [h.enc (fun hb => by have := hb.1; omega), encode_byte x.1 hx]
theorem Fit.len {x : Pc} (h : Fit x) (hx : x.1 < 128) : x.2.length = 1 := by rw [h.one hx]; rfl
theorem Fit.pos {x : Pc} (h : Fit x) : 0 < x.2.length := List.length_pos_iff.2 h.ne
theorem fit_head (l : List UInt8) (hne : l ≠ []) : Fit ((decodeL l).1, l.take (decodeL l).2) := by
  have hw1 := decodeL_width l
  have hw2 := decodeL_le l hne
  have hl : (l.take (decodeL l).2).length = (decodeL l).2 := by rw [List.length_take, Nat.min_eq_left hw2]
  refine ⟨?_, ?_, scalar_of l, ?_, ?_⟩
  · intro e; have := congrArg List.length e; dsimp only at this; rw [hl] at this; simp only [List.length_nil] at this; omega
  · dsimp only; rw [hl]; rw [decodeL_N]; unfold decodeN; repeat' split
    all_goals simp
  · intro hb; exact (encode_decode l hne (fun hc => hb ((bad_iff l hne).2 hc))).symm
  · intro hb; exact solid_of_good l hne (fun hc => hb ((bad_iff l hne).2 hc))
theorem fit_mem (l : List UInt8) : ∀ x ∈ pcs l, Fit x := by
  induction l using pcs_induct with
  | h0 => intro x hx; cases hx
  | h1 l hne ih =>
    intro x hx
    rw [pcs_step l hne] at hx
    rcases List.mem_cons.1 hx with rfl | hx
    · exact fit_head l hne
    · exact ih x hx
theorem Pcd.fit {R : List Pc} (h : Pcd R) : ∀ x ∈ R, Fit x := by
  unfold Pcd at h
  intro x hx
  rw [← h] at hx
  exact fit_mem _ x hx
theorem Pcd.head {x : Pc} {R : List Pc} (h : Pcd (x :: R)) : Fit x := h.fit x (by simp)

/- ### Runes by their bytes -/
def encs (Rs : List Nat) : List UInt8 := Rs.flatMap fun (r : Nat) => encodeRune (r : Int)
theorem encs_nil : encs [] = [] := rfl
theorem encs_append (a b : List Nat) : encs (a ++ b) = encs a ++ encs b := by simp [encs]
theorem encs_snoc (a : List Nat) (r : Nat) : encs (a ++ [r]) = encs a ++ encodeRune (r : Int) := by simp [encs]
theorem pcs_encs (Rs : List Nat) (h : ∀ r ∈ Rs, Scalar (r : Int)) : pcs (encs Rs) = Rs.map fun (r : Nat) => (r, encodeRune (r : Int)) := by
  have e : encs Rs = flat (Rs.map fun (r : Nat) => (r, encodeRune (r : Int))) := by unfold encs flat; rw [List.flatMap_map]
  rw [e]
  refine pcs_solid _ ?_
  intro x hx
  obtain ⟨r, hr, rfl⟩ := List.mem_map.1 hx
  have := solid_encode (r : Int) (h r hr)
  rwa [Int.toNat_natCast] at this
theorem count_encs (Rs : List Nat) (h : ∀ r ∈ Rs, Scalar (r : Int)) : countL (encs Rs) = Rs.length := by
  unfold countL; rw [pcs_encs Rs h, List.length_map]

/- ### Digits -/
/-- What digits come to. -/
def valN (l : List UInt8) : Nat := l.foldl (fun a c => a * 10 + (c.toNat - 48)) 0
theorem valN_snoc (l : List UInt8) (c : UInt8) : valN (l ++ [c]) = valN l * 10 + (c.toNat - 48) := by simp [valN]
theorem valN_nil : valN [] = 0 := rfl
theorem valN_mono (a : List UInt8) : ∀ b : List UInt8, valN a ≤ valN (a ++ b) := by
  intro b
  have : ∀ (b : List UInt8) (x : Nat), x ≤ b.foldl (fun a c => a * 10 + (c.toNat - 48)) x := by
    intro b
    induction b with
    | nil => intro x; exact Nat.le_refl _
    | cons c b ih => intro x; exact Nat.le_trans (by omega) (ih (x * 10 + (c.toNat - 48)))
  unfold valN; rw [List.foldl_append]; exact this b _

/- ### The tokens -/
/-- A token that is found at a piece: its kind, its text, its number, how many pieces it has behind the first one. -/
structure Fd where
  k : Nat
  s : List UInt8
  n : Nat
  j : Nat
def isDig (x : Pc) : Bool := decide (classZ (x.1 : Int) = 2)
def isWord (x : Pc) : Bool := decide (classZ (x.1 : Int) = 1 ∨ classZ (x.1 : Int) = 2)
def numF (x : Pc) (R : List Pc) : Option Fd :=
  if valN (flat (x :: R.takeWhile isDig)) < 9223372036854775808 then some ⟨1, [], valN (flat (x :: R.takeWhile isDig)), (R.takeWhile isDig).length⟩ else none
def nameF (x : Pc) (R : List Pc) : Option Fd :=
  if (flat (x :: R.takeWhile isWord)).length ≤ 24 then some ⟨3, flat (x :: R.takeWhile isWord), 0, (R.takeWhile isWord).length⟩ else none
def hexV (r : Nat) : Option Nat := if 48 ≤ r ∧ r ≤ 57 then some (r - 48) else if 97 ≤ r ∧ r ≤ 102 then some (r - 87) else none
/-- n digits, behind those that come to v. -/
def digsF : Nat → Nat → List Pc → Option Nat
  | 0, v, _ => some v
  | _ + 1, _, [] => none
  | n + 1, v, x :: R =>
    match hexV x.1 with
    | none => none
    | some d => digsF n (v * 16 + d) R
/-- What stands behind a backslash: the rune that it says, how many pieces it has. -/
def escF : List Pc → Option (Nat × Nat)
  | [] => none
  | x :: R =>
    if x.1 = 34 ∨ x.1 = 92 then some (x.1, 1)
    else if x.1 = 117 then
      match digsF 4 0 R with
      | some v => if 55296 ≤ v ∧ v ≤ 57343 then none else some (v, 5)
      | none => none
    else none
/-- A text behind its first sign: its runes behind those that were told already; how many pieces stand ahead of its last sign. -/
def textF : List Pc → List Nat → Nat → Option (List Nat × Nat)
  | [], _, _ => none
  | x :: R, Rs, k =>
    if bad x ∨ Ctrl x.1 then none
    else if x.1 = 34 then some (Rs, k)
    else if x.1 = 92 then
      match escF R with
      | none => none
      | some (r, m) => textF (R.drop m) (Rs ++ [r]) (k + 1 + m)
    else textF R (Rs ++ [x.1]) (k + 1)
termination_by R => R.length
decreasing_by all_goals simp; try omega
def textT (R : List Pc) : Option Fd :=
  match textF R [] 0 with
  | none => none
  | some (Rs, k) => if Rs.length ≤ 100 then some ⟨2, encs Rs, 0, k + 1⟩ else none
def isSign (r : Nat) : Bool := [43, 45, 42, 47, 37, 40, 41, 44, 61, 60, 62, 38, 124, 33].contains r
def isTwo (r : Nat) : Bool := [60, 62, 33].contains r
def signF (x : Pc) (R : List Pc) : Option Fd :=
  if isSign x.1 then
    if isTwo x.1 ∧ R.head?.map (·.1) = some 61 then some ⟨4, [UInt8.ofNat x.1, 61], 0, 1⟩ else some ⟨4, [UInt8.ofNat x.1], 0, 0⟩
  else none
def tokF (x : Pc) (R : List Pc) : Option Fd :=
  if classZ (x.1 : Int) = 2 then numF x R else if classZ (x.1 : Int) = 1 then nameF x R else if x.1 = 34 then textT R else signF x R

/-- A token in a formula: its kind, its text, its number, where it begins. -/
structure Tk where
  k : Nat
  s : List UInt8
  n : Nat
  a : Nat
def Fd.tk (f : Fd) (a : Nat) : Tk := ⟨f.k, f.s, f.n, a⟩
def ahead (a : List Tk) : Except Nat (List Tk) → Except Nat (List Tk)
  | .ok l => .ok (a ++ l)
  | .error p => .error p
theorem ahead_nil (r : Except Nat (List Tk)) : ahead [] r = r := by cases r <;> rfl
theorem ahead_ahead (a b : List Tk) (r : Except Nat (List Tk)) : ahead a (ahead b r) = ahead (a ++ b) r := by cases r <;> simp [ahead]
/-- The tokens of a formula, the last one aside; or where the first wrong one begins. -/
def lexR : List Pc → Nat → Except Nat (List Tk)
  | [], _ => .ok []
  | x :: R, p =>
    if classZ (x.1 : Int) = 3 then lexR R (p + x.2.length)
    else
      match tokF x R with
      | none => .error p
      | some f => ahead [f.tk p] (lexR (R.drop f.j) (p + (flat (x :: R.take f.j)).length))
termination_by R => R.length
decreasing_by all_goals simp; try omega
def lexL (l : List UInt8) : Except Nat (List Tk) := lexR (pcs l) 0

theorem textF_nil (Rs : List Nat) (k : Nat) : textF [] Rs k = none := by rw [textF]
theorem textF_cons (x : Pc) (R : List Pc) (Rs : List Nat) (k : Nat) : textF (x :: R) Rs k =
    if bad x ∨ Ctrl x.1 then none
    else if x.1 = 34 then some (Rs, k)
    else if x.1 = 92 then
      match escF R with
      | none => none
      | some (r, m) => textF (R.drop m) (Rs ++ [r]) (k + 1 + m)
    else textF R (Rs ++ [x.1]) (k + 1) := by
  rw [textF]
theorem lexR_nil (p : Nat) : lexR [] p = .ok [] := by rw [lexR]
theorem lexR_blank (x : Pc) (R : List Pc) (p : Nat) (h : classZ (x.1 : Int) = 3) : lexR (x :: R) p = lexR R (p + x.2.length) := by rw [lexR, if_pos h]
theorem lexR_none (x : Pc) (R : List Pc) (p : Nat) (h : classZ (x.1 : Int) ≠ 3) (ht : tokF x R = none) : lexR (x :: R) p = .error p := by rw [lexR, if_neg h, ht]
theorem lexR_some (x : Pc) (R : List Pc) (p : Nat) (h : classZ (x.1 : Int) ≠ 3) (f : Fd) (ht : tokF x R = some f) :
    lexR (x :: R) p = ahead [f.tk p] (lexR (R.drop f.j) (p + (flat (x :: R.take f.j)).length)) := by rw [lexR, if_neg h, ht]
end Go.Proofs.YtbeeeakcjeibgaaDoor
