/- What the laws of numbers share: a value in a block; two, as it is told by cases. -/
import Derived.Test.YtepppianhafdjaaGreatDoorMEvAwk
import Derived.Test.YtepppianhafdjaaGreatDoorGR
namespace Go.Proofs.YtepppianhafdjaaGreatDoor
open Go.RowKit

/-- A value's cells. -/
structure At3 (w : World) (g : Nat) (K n : Int) (s : ByteArray) : Prop where
  lt : g < w.heap.size
  c0 : w.cell? ⟨g, 0, none⟩ = some (.int .i64 K)
  c1 : w.cell? ⟨g, 1, none⟩ = some (.int .i64 n)
  c2 : w.cell? ⟨g, 2, none⟩ = some (.string s)
theorem At3.new (w : World) (K n : Int) (s : ByteArray) : At3 (w.alloc (.cells #[.int .i64 K, .int .i64 n, .string s] 23)) w.heap.size K n s :=
  ⟨by rw [alloc_size]; omega, by rw [cells_of_alloc]; rfl, by rw [cells_of_alloc]; rfl, by rw [cells_of_alloc]; rfl⟩
theorem At3.later {w w' : World} {g : Nat} {K n : Int} {s : ByteArray} (h : At3 w g K n s) (hb : Below w.heap.size w w') : At3 w' g K n s :=
  ⟨Nat.lt_of_lt_of_le h.lt hb.size, (hb.cell (p := ⟨g, 0, none⟩) h.lt).trans h.c0, (hb.cell (p := ⟨g, 1, none⟩) h.lt).trans h.c1, (hb.cell (p := ⟨g, 2, none⟩) h.lt).trans h.c2⟩
theorem op_num {op a b : Int} (h7 : 7 ≤ op) (h11 : op ≤ 11) : opV op [⟨1, a, []⟩, ⟨1, b, []⟩] = numOp op a b := by
  unfold opV
  rw [if_neg (by omega), if_pos ⟨h7, h11⟩]
  rfl
theorem op_cmp {op a b : Int} (h12 : 12 ≤ op) (h15 : op ≤ 15) : opV op [⟨1, a, []⟩, ⟨1, b, []⟩] = truV (holdB op (decide (a < b)) (decide (a = b))) := by
  unfold opV
  rw [if_neg (by omega), if_neg (by omega), if_neg (by omega), if_neg (by omega), if_neg (by omega), if_pos ⟨h12, h15⟩]
  rfl
theorem nv_in {n : Int} (h0 : -9223372036854775808 ≤ n) (h1 : n ≤ 9223372036854775807) : numV n = ⟨1, n, []⟩ := if_pos ⟨h0, h1⟩
theorem nv_out {n : Int} (h : ¬ (-9223372036854775808 ≤ n ∧ n ≤ 9223372036854775807)) : numV n = ⟨4, 1, []⟩ := if_neg h
theorem op_add (a b : Int) : opV 7 [⟨1, a, []⟩, ⟨1, b, []⟩] = numV (a + b) := op_num (by decide) (by decide)
theorem op_sub (a b : Int) : opV 8 [⟨1, a, []⟩, ⟨1, b, []⟩] = numV (a - b) := op_num (by decide) (by decide)
theorem op_mul (a b : Int) : opV 9 [⟨1, a, []⟩, ⟨1, b, []⟩] = numV (a * b) := op_num (by decide) (by decide)
theorem op_div (a b : Int) : opV 10 [⟨1, a, []⟩, ⟨1, b, []⟩] = if b = 0 then ⟨4, 2, []⟩ else numV (Int.tdiv a b) := op_num (by decide) (by decide)
theorem op_mod (a b : Int) : opV 11 [⟨1, a, []⟩, ⟨1, b, []⟩] = if b = 0 then ⟨4, 2, []⟩ else numV (Int.tmod a b) := op_num (by decide) (by decide)
theorem two_val {op a b K n : Int} {s : List UInt8} (h : opV op [⟨1, a, []⟩, ⟨1, b, []⟩] = ⟨K, n, s⟩) (h7 : 7 ≤ op) (h17 : op ≤ 17) (a0 : -9223372036854775808 ≤ a) (a1 : a ≤ 9223372036854775807) (b0 : -9223372036854775808 ≤ b) (b1 : b ≤ 9223372036854775807) (w : World) (hE : EnvP w) :
    Calls Tryz.prog 9 #[.int .i64 op, .int .i64 a, .int .i64 b] w fun e w' => e = .returned (V3 K n ⟨s.toArray⟩) ∧ Below w.heap.size w w' := by
  have c := two_any op a b w h7 h17 a0 a1 b0 b1 hE
  rw [h] at c
  exact c
theorem same_yes (K n : Int) (s : ByteArray) (w : World) : (binOp .eql 23 (V3 K n s) (V3 K n s)).run Tryz.prog w = .ok (.bool true) w := by rw [eql_val, sameV_refl]
theorem same_no (K n : Int) (s : ByteArray) (w : World) : (binOp .neq 23 (V3 K n s) (V3 K n s)).run Tryz.prog w = .ok (.bool false) w := by rw [neq_val, sameV_refl]; rfl
end Go.Proofs.YtepppianhafdjaaGreatDoor
