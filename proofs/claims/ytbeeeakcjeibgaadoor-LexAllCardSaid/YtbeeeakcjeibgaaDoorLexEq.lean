/- Two tokens compared: an equation of the operation. -/
import Derived.Test.YtbeeeakcjeibgaaDoorLexN
import Derived.Laws.StructEq
import Derived.Deep.LoopGhost
namespace Go.Proofs.YtbeeeakcjeibgaaDoor
open Go.RowKit
theorem beqB (s t : ByteArray) : (s == t) = true ↔ s = t := by
  rw [beq_toListBytes, beq_iff_eq, ByteArray.toList_eq, ByteArray.toList_eq]
  constructor
  · intro h; apply ByteArray.ext; exact Array.ext' h
  · rintro rfl; rfl
theorem beqB_refl (s : ByteArray) : (s == s) = true := (beqB s s).2 rfl
def sameT (K : Int) (s : ByteArray) (n a : Int) (L : Int) (t : ByteArray) (m b : Int) : Bool := K == L && (s == t && (n == m && a == b))
theorem sameT_refl (K : Int) (s : ByteArray) (n a : Int) : sameT K s n a K s n a = true := by simp [sameT, beqB_refl]
set_option maxRecDepth 100000 in
theorem eqlIn_tok (K : Int) (s : ByteArray) (n a : Int) (L : Int) (t : ByteArray) (m b : Int) (w : World) : (Op.equalIn 10000 32 (T4 K s n a) (T4 L t m b)).run Tryd.prog w = .ok (sameT K s n a L t m b) w := by
  unfold sameT
  rw [run_equalIn_agg w 9999 32 _ _ (by kernel_rfl) (by kernel_rfl)]
  simp [Program.fieldsOf, Tryd.underlying32, Op.eqFields, part, run_equalIn_int _ _ _ _ _ _ _ Tryd.underlying3, run_equalIn_int _ _ _ _ _ _ _ Tryd.underlying2, run_equalIn_string _ _ _ _ _ Tryd.underlying9, Tryd.isAgg3, Tryd.isAgg2, Tryd.isAgg9, beq_toListBytes]
  by_cases h1 : K = L <;> by_cases h2 : n = m <;> by_cases h3 : s.toList = t.toList <;> by_cases h4 : a = b <;> simp [h1, h2, h3, h4]
theorem eql_tok (K : Int) (s : ByteArray) (n a : Int) (L : Int) (t : ByteArray) (m b : Int) (w : World) : (binOp .eql 32 (T4 K s n a) (T4 L t m b)).run Tryd.prog w = .ok (.bool (sameT K s n a L t m b)) w := by
  rw [run_eql_struct, eqlIn_tok]; rfl
theorem neq_tok (K : Int) (s : ByteArray) (n a : Int) (L : Int) (t : ByteArray) (m b : Int) (w : World) : (binOp .neq 32 (T4 K s n a) (T4 L t m b)).run Tryd.prog w = .ok (.bool (!(sameT K s n a L t m b))) w := by
  rw [run_neq_struct, eqlIn_tok]; rfl

set_option maxHeartbeats 1000000 in
set_option maxRecDepth 100000 in
/-- Rows of the same tokens are the same. -/
theorem same_any (ao bo : Option Addr) (ts : List Tk) (n cap cap2 : Nat) (w : World) (hn : ts.length = n) (hA : TkAt w ao ts) (hB : TkAt w bo ts) (h4 : n ≤ 1000) :
    Calls Tryd.prog 12 #[.slice ao n cap, .slice bo n cap2] w fun e w' => e = .returned (.bool true) ∧ ∃ q, w' = w.drewN q := by
  have HA := Lib.hid hA
  have HB := Lib.hid hB
  clear hA hB
  go_enter Tryd.func12, Tryd.ntmps12
  go_wp2_with fail
  go_loopg [5] (n) (fun m iv wr => ∃ i : Nat, i + m = n ∧ iv = .int .i64 (i : Int) ∧ ∃ q, wr = w.drewN q)
  case atStart => exact ⟨0, Nat.zero_add _, rfl, 0, rfl⟩
  case round =>
    obtain ⟨i, hi, rfl, q, rfl⟩ := hrel
    by_cases hlt : i < n
    · have hiz : (i : Int) < (n : Int) := by omega
      obtain ⟨t, ht⟩ : ∃ t, ts[i]? = some t := ⟨_, List.getElem?_eq_getElem (by omega)⟩
      obtain ⟨a, rfl, ha, hca⟩ := HA.out (by omega)
      obtain ⟨b, rfl, hb, hcb⟩ := HB.out (by omega)
      obtain ⟨x0, x1, x2, x3⟩ := hca i t ht
      obtain ⟨y0, y1, y2, y3⟩ := hcb i t ht
      have hqi := fun w => eqlIn_tok (t.k : Int) ⟨t.s.toArray⟩ (t.n : Int) (t.a : Int) (t.k : Int) ⟨t.s.toArray⟩ (t.n : Int) (t.a : Int) w
      have hqn := fun w => neq_tok (t.k : Int) ⟨t.s.toArray⟩ (t.n : Int) (t.a : Int) (t.k : Int) ⟨t.s.toArray⟩ (t.n : Int) (t.a : Int) w
      simp only [sameT_refl] at hqi hqn
      generalize (⟨t.s.toArray⟩ : ByteArray) = S at *
      generalize (t.k : Int) = K at *
      generalize (t.n : Int) = N at *
      generalize (t.a : Int) = A at *
      have HI := Lib.hid hi
      clear hca hcb ht
      go_wp2_with fail
      go_quiet (fail)
      go_wp2_with fail
      go_roundg (gk - 1)
      case measure => have := HI.out; omega
      case rel => exact ⟨i + 1, by have := HI.out; omega, by go_num, _, rfl⟩
    · have hiz : ¬ (i : Int) < (n : Int) := by omega
      go_wp2_with fail
      go_ret
      exact ⟨rfl, q, rfl⟩
end Go.Proofs.YtbeeeakcjeibgaaDoor
