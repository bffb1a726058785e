/- Three rows of bytes, added bit by bit, in a row of the call's own: plain facts, and the row's cells. -/
import Derived.Test.YtmmclglbjjfcgaaSumFrame
import Derived.Laws.MakeOwn
namespace Go.Proofs.Ytmmclglbjjfcgaa
open Go.ChangeShapes Go.WideShapes Go.ChangeAt Go.RowKit

theorem info_u8 : (Try.prog.info? 5).map (fun i => (i.zero, i.size, i.bytes)) = some (some (.int .u8 0), 1, 1) := by kernel_rfl
theorem mk_bytes (n : Nat) (hn : n ≤ 140737488351232) (u : World) : (Instr.makeSlice 23 (.int .i64 (n : Int)) (.int .i64 (n : Int))).run Try.prog u =
      .ok (.slice (some ⟨u.heap.size, 0, none⟩) n n) (u.alloc (.cells (madeCells #[.int .u8 0] n) 5)) := by
  obtain ⟨i0, hi, hz0, hz1, hz2⟩ := info_parts info_u8
  have h := run_make (P := Try.prog) u 23 5 i0 (.int .u8 0) Try.underlying23 hi hz0 .i64 .i64 (n : Int) (n : Int) (by omega) (Int.le_refl _) (by rw [hz2]; omega) (by omega)
  simpa [hz1, Value.cells] using h
theorem min_three (a b c n : Nat) (h : min a (min b c) = n) (ts : Array TypeId) (t : TypeId) (u : World) : (Builtin.min_ ts t #[.int .i64 (a : Int), .int .i64 (b : Int), .int .i64 (c : Int)]).run Try.prog u = .ok (.int .i64 (n : Int)) u := by
  rw [run_min_int3]
  have e : (if (c : Int) < (if (b : Int) < (a : Int) then (b : Int) else (a : Int)) then (c : Int) else (if (b : Int) < (a : Int) then (b : Int) else (a : Int))) = (n : Int) := by
    split <;> split at * <;> omega
  rw [e]

theorem x3_length (n : Nat) : ∀ a b c : List UInt8, a.length = n → b.length = n → c.length = n → (x3 a b c).length = n := by
  induction n with
  | zero =>
    intro a b c ha hb hc
    obtain rfl := List.eq_nil_of_length_eq_zero ha
    rfl
  | succ n ih =>
    intro a b c ha hb hc
    cases a with
    | nil => simp at ha
    | cons x a =>
    cases b with
    | nil => simp at hb
    | cons y b =>
    cases c with
    | nil => simp at hc
    | cons z c =>
    rw [x3, List.length_cons, ih a b c (by simpa using ha) (by simpa using hb) (by simpa using hc)]
theorem x3_at (n : Nat) : ∀ (a b c : List UInt8) (k : Nat), a.length = n → b.length = n → c.length = n → k < n → (x3 a b c).getD k 0 = a.getD k 0 ^^^ b.getD k 0 ^^^ c.getD k 0 := by
  induction n with
  | zero => intro a b c k ha hb hc hk; omega
  | succ n ih =>
    intro a b c k ha hb hc hk
    cases a with
    | nil => simp at ha
    | cons x a =>
    cases b with
    | nil => simp at hb
    | cons y b =>
    cases c with
    | nil => simp at hc
    | cons z c =>
    cases k with
    | zero => rfl
    | succ k =>
      rw [x3, List.getD_cons_succ, List.getD_cons_succ, List.getD_cons_succ, List.getD_cons_succ]
      exact ih a b c k (by simpa using ha) (by simpa using hb) (by simpa using hc) (by omega)
theorem xor_u8 (a b c : UInt8) : bits .xor .u8 (bits .xor .u8 (a.toNat : Int) (b.toNat : Int)) (c.toNat : Int) = ((a ^^^ b ^^^ c).toNat : Int) := by
  have hab : a.toNat ^^^ b.toNat < 2 ^ 8 := Nat.xor_lt_two_pow a.toNat_lt b.toNat_lt
  rw [u8_xor_nat _ _ a.toNat_lt b.toNat_lt, u8_xor_nat _ _ (by omega) c.toNat_lt, UInt8.toNat_xor, UInt8.toNat_xor]

/-- So much of the row is written. -/
def part (X : List UInt8) (n k : Nat) : List UInt8 := X.take k ++ List.replicate (n - k) 0
theorem part_len {X : List UInt8} {n k : Nat} (hX : X.length = n) (hk : k ≤ n) : (part X n k).length = n := by
  unfold part; rw [List.length_append, List.length_take, List.length_replicate]; omega
theorem part_set {X : List UInt8} {n k : Nat} (hX : X.length = n) (hk : k < n) : (part X n k).set k (X.getD k 0) = part X n (k + 1) := by
  unfold part
  have h1 : (X.take k).length = k := by rw [List.length_take]; omega
  have h2 : n - k = (n - (k + 1)) + 1 := by omega
  rw [List.set_append_right _ _ (by omega), h1, Nat.sub_self, h2, List.replicate_succ, List.set_cons_zero, List.take_succ_eq_append_getElem (by omega), List.append_assoc, List.getD_eq_getElem?_getD, List.getElem?_eq_getElem (by omega)]
  rfl
theorem part_full {X : List UInt8} {n : Nat} (hX : X.length = n) : part X n n = X := by
  unfold part; rw [Nat.sub_self, List.take_of_length_le (by omega)]; simp
theorem part_none (X : List UInt8) (n : Nat) : part X n 0 = List.replicate n 0 := by unfold part; simp

def Row (w : World) (g : Nat) (l : List UInt8) : Prop := w.heap[g]? = some (.cells (Lib.byteCells l).toArray 5 (0, 0))
theorem made_bytes (n : Nat) : madeCells #[.int .u8 0] n = (Lib.byteCells (List.replicate n 0)).toArray := by
  apply Array.ext
  · simp [madeCells, Lib.byteCells]
  · intro i h1 h2
    simp [madeCells, Lib.byteCells, Nat.mod_one]
theorem row_made (w : World) (n : Nat) : Row (w.alloc (.cells (madeCells #[.int .u8 0] n) 5)) w.heap.size (List.replicate n 0) := by
  unfold Row
  rw [heap_alloc_new, made_bytes]
theorem row_set {w : World} {g : Nat} {l : List UInt8} (h : Row w g l) (k : Nat) (c : UInt8) : Row (w.setCell ⟨g, k, none⟩ (.int .u8 (c.toNat : Int))) g (l.set k c) := by
  unfold Row at h ⊢
  rw [heap_setCell_same w g k _ _ _ h]
  congr 2
  unfold Lib.byteCells
  rw [List.map_set]
  simp
theorem row_cell {w : World} {g : Nat} {l : List UInt8} (h : Row w g l) (k : Nat) (hk : k < l.length) : w.cell? ⟨g, k, none⟩ = some (.int .u8 ((l.getD k 0).toNat : Int)) := by
  rw [cell_of_row w g k _ _ _ h]
  unfold Lib.byteCells
  rw [List.getElem?_toArray, List.getElem?_map, List.getElem?_eq_getElem hk, List.getD_eq_getElem?_getD, List.getElem?_eq_getElem hk]
  rfl
theorem row_frozen {w : World} {g : Nat} {l : List UInt8} (h : Row w g l) (k : Nat) : w.frozen? ⟨g, k, none⟩ = false := frozen_of_row w g k _ _ h
theorem row_bs {w : World} {g : Nat} {l : List UInt8} (h : Row w g l) : Bs w (some ⟨g, 0, none⟩) l := fun _ => ⟨g, 0, rfl, fun j hj => by rw [Nat.zero_add]; exact row_cell h j hj⟩
end Go.Proofs.Ytmmclglbjjfcgaa
