/- What is put one behind the other of three lists, and read again. Nothing of the program but the wire's bytes. -/
import Derived.Test.YtamejodgilnchaaWireMath
import Derived.Test.YtamejodgilnchaaBulk
namespace Go.Proofs.Ytamejodgilnchaa

def item (Z : List Int) (S : List ByteArray) (T : List Bool) (i : Nat) : List UInt8 :=
  (if i < Z.length then putI (Z.getD i 0) else []) ++ ((if i < S.length then putT (S.getD i ByteArray.empty).data.toList else []) ++ (if i < T.length then putB (T.getD i false) else []))
def rest (Z : List Int) (S : List ByteArray) (T : List Bool) : Nat → Nat → List UInt8
  | _, 0 => []
  | i, n + 1 => item Z S T i ++ rest Z S T (i + 1) n
section
variable {Z : List Int} {S : List ByteArray} {T : List Bool}
theorem rest_snoc : ∀ (n i : Nat), rest Z S T i (n + 1) = rest Z S T i n ++ item Z S T (i + n)
  | 0, i => by simp [rest]
  | n + 1, i => by
    show item Z S T i ++ rest Z S T (i + 1) (n + 1) = (item Z S T i ++ rest Z S T (i + 1) n) ++ item Z S T (i + (n + 1))
    rw [rest_snoc n (i + 1), List.append_assoc, show i + 1 + n = i + (n + 1) by omega]
theorem letters_drop (i : Nat) (h : i < S.length) : letters (S.drop i) = (S.getD i ByteArray.empty).size + letters (S.drop (i + 1)) := by
  rw [List.drop_eq_getElem_cons h, List.getD_eq_getElem?_getD, List.getElem?_eq_getElem h]; rfl
theorem letters_none (i : Nat) (h : ¬ i < S.length) : letters (S.drop i) = 0 ∧ letters (S.drop (i + 1)) = 0 := by
  rw [List.drop_eq_nil_of_le (by omega), List.drop_eq_nil_of_le (by omega)]; exact ⟨rfl, rfl⟩
theorem letters_le (i : Nat) : letters (S.drop i) ≤ letters S := by
  induction i with
  | zero => simp
  | succ i ih =>
    by_cases h : i < S.length
    · have := letters_drop i h; omega
    · have := letters_none i h; omega
theorem letters_at (i : Nat) (h : i < S.length) : (S.getD i ByteArray.empty).size ≤ letters S := by
  have h1 := letters_drop i h
  have h2 := letters_le (S := S) i
  omega
theorem bytes_size (x : ByteArray) : x.data.toList.length = x.size := by simp
theorem putT_len {x : ByteArray} (h : x.size ≤ 1048576) : (putT x.data.toList).length ≤ 10 + x.size := by
  have h1 := bytes_size x
  have h2 := putI_ten (v := (x.data.toList.length : Int)) (by omega) (by omega)
  unfold putT
  rw [List.length_append]; omega
theorem item_len (hZ : ∀ z ∈ Z, -9223372036854775808 ≤ z ∧ z ≤ 9223372036854775807) (hS : letters S ≤ 1048576) (i : Nat) : (item Z S T i).length + letters (S.drop (i + 1)) ≤ 21 + letters (S.drop i) := by
  unfold item
  rw [List.length_append, List.length_append]
  have h1 : (if i < Z.length then putI (Z.getD i 0) else []).length ≤ 10 := by
    by_cases h : i < Z.length
    · rw [if_pos h]
      have hz := hZ (Z.getD i 0) (by rw [List.getD_eq_getElem?_getD, List.getElem?_eq_getElem h]; exact List.getElem_mem h)
      exact putI_ten hz.1 hz.2
    · rw [if_neg h]; simp
  have h3 : (if i < T.length then putB (T.getD i false) else []).length ≤ 1 := by
    by_cases h : i < T.length
    · rw [if_pos h]; exact Nat.le_refl 1
    · rw [if_neg h]; simp
  by_cases h : i < S.length
  · rw [if_pos h]
    have h4 := letters_drop i h
    have h5 := letters_at i h
    have h6 := putT_len (x := S.getD i ByteArray.empty) (by omega)
    omega
  · rw [if_neg h]
    have h4 := letters_none i h
    simp only [List.length_nil]
    omega
theorem rest_len (hZ : ∀ z ∈ Z, -9223372036854775808 ≤ z ∧ z ≤ 9223372036854775807) (hS : letters S ≤ 1048576) : ∀ (n i : Nat), (rest Z S T i n).length ≤ 21 * n + letters (S.drop i)
  | 0, i => by simp [rest]
  | n + 1, i => by
    have h1 := rest_len hZ hS n (i + 1)
    have h2 := item_len (T := T) hZ hS i
    show (item Z S T i ++ rest Z S T (i + 1) n).length ≤ _
    rw [List.length_append]; omega
end
end Go.Proofs.Ytamejodgilnchaa
