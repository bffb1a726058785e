/- Contract of Reader's Bool. -/
import Derived.Test.YtfcigknalnmhcaaDoorReadSmall
import Derived.Outline
import Derived.Scope
import Derived.ScopeJumps
import Derived.FnLit
namespace Go.Proofs.YtfcigknalnmhcaaDoor
open Go.RowKit

/-- At the label: the frame, whatever its slots hold but the first. -/
def AtBool (g : Nat) (w : World) (a : Act) (w' : World) : Prop := w' = w ∧ ∃ u1 u2 u3 u4 u5 u6 u7 u8 u9 u10 u11 u12 u13 u14 u15 u16 u17 u18 u19 u20 u21 u22 u23 u24 u25 u26 u27 u28 u29 u30 u31 u32 u33 u34 u35 u36 : Value, a = { tmps := #[.pointer (some ⟨g, 0, none⟩), u1, u2, u3, u4, u5, u6, u7, u8, u9, u10, u11, u12, u13, u14, u15, u16, u17, u18, u19, u20, u21, u22, u23, u24, u25, u26, u27, u28, u29, u30, u31, u32, u33, u34, u35, u36], defers := [] }
theorem AtBool.mk {g : Nat} {w : World} {u1 u2 u3 u4 u5 u6 u7 u8 u9 u10 u11 u12 u13 u14 u15 u16 u17 u18 u19 u20 u21 u22 u23 u24 u25 u26 u27 u28 u29 u30 u31 u32 u33 u34 u35 u36 : Value} : AtBool g w { tmps := #[.pointer (some ⟨g, 0, none⟩), u1, u2, u3, u4, u5, u6, u7, u8, u9, u10, u11, u12, u13, u14, u15, u16, u17, u18, u19, u20, u21, u22, u23, u24, u25, u26, u27, u28, u29, u30, u31, u32, u33, u34, u35, u36], defers := [] } w := ⟨rfl, _, _, _, _, _, _, _, _, _, _, _, _, _, _, _, _, _, _, _, _, _, _, _, _, _, _, _, _, _, _, _, _, _, _, _, _, rfl⟩

theorem stB_nil (b : Bool) : stB ([], b) = (false, ([], true)) := rfl
theorem stB_bad {c : UInt8} {R : List UInt8} {b : Bool} (h : 1 < c.toNat) : stB (c :: R, b) = (false, ([], true)) := if_pos h
theorem stB_good {c : UInt8} {R : List UInt8} {b : Bool} (h : ¬ 1 < c.toNat) : stB (c :: R, b) = (c.toNat == 1, (R, b)) := if_neg h
end Go.Proofs.YtfcigknalnmhcaaDoor
