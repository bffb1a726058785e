/- What the laws of frames share: a byte that came in; a cell of a row of the call's own; its turn. -/
import Derived.Test.YtpkbjiakjofcnaaFRefPut
import Derived.Deep.AppendLies
namespace Go.Proofs.Ytpkbjiakjofcnaa
open Go.RowKit

theorem byte_is (n : Int) (h0 : 0 ≤ n) (h1 : n ≤ 255) : ∃ c : UInt8, n = (c.toNat : Int) := ⟨UInt8.ofNat n.toNat, by simp; omega⟩
theorem own_cell {w : World} {B : Nat} {e : TypeId} {g n cap : Nat} {C : List UInt8} (h : w.ownsRow B e 1 (.slice (some ⟨g, 0, none⟩) n cap) n (Lib.byteCells C)) (p : Nat) (hp : p < n) (hn : C.length = n) : w.cell? ⟨g, p, none⟩ = some (.int .u8 ((C.getD p 0).toNat : Int)) := by
  rw [h.cellAt p (by omega)]
  unfold Lib.byteCells
  rw [List.getElem?_map, List.getElem?_eq_getElem (by omega), List.getD_eq_getElem?_getD, List.getElem?_eq_getElem (by omega)]
  rfl
theorem xor_byte (a c : UInt8) : bits .xor .u8 (a.toNat : Int) (c.toNat : Int) = ((a ^^^ c).toNat : Int) := by
  rw [u8_xor_nat _ _ a.toNat_lt c.toNat_lt, UInt8.toNat_xor]
theorem xor_ne {a c : UInt8} (h : c ≠ 0) : a ^^^ c ≠ a := fun e => h (by
  have h2 := congrArg (a ^^^ ·) e
  simp only [← UInt8.xor_assoc, UInt8.xor_self, UInt8.zero_xor] at h2
  exact h2)
theorem own_bs {w : World} {B : Nat} {e : TypeId} {g n cap : Nat} {C : List UInt8} (h : w.ownsRow B e 1 (.slice (some ⟨g, 0, none⟩) n cap) n (Lib.byteCells C)) (hn : C.length = n) : Bs w (some ⟨g, 0, none⟩) C :=
  fun _ => ⟨g, 0, rfl, fun i hi => by rw [Nat.zero_add]; exact own_cell h i (by omega) hn⟩
end Go.Proofs.Ytpkbjiakjofcnaa
