/- The contract of the document's own 'one' at every byte. -/
import Derived.Test.YtbeeeakcjeibgaaDoorRefThree
import Derived.Test.YtbeeeakcjeibgaaDoorRefFour
namespace Go.Proofs.YtbeeeakcjeibgaaDoor
open Go.RowKit
theorem one_any (s : ByteArray) (pos : Nat) (w : World) (hp : pos < s.size) (hs : s.size < 9223372036854775800) :
    Calls Tryd.prog 45 #[.string s, .int .i64 (pos : Int)] w fun e w' => e = .returned (oneV s pos) ∧ Below w.heap.size w w' := by
  by_cases h1 : byteAt s pos < 128
  · exact one_ascii s pos w hp h1
  by_cases h2 : byteAt s pos < 194 ∨ 244 < byteAt s pos
  · exact one_none s pos w hp (by omega) h2
  by_cases h3 : byteAt s pos ≤ 223
  · exact one_two s pos w hp hs (by omega) h3
  by_cases h4 : byteAt s pos ≤ 239
  · exact one_three s pos w hp hs (by omega) h4
  · exact one_four s pos w hp hs (by omega) (by omega)
end Go.Proofs.YtbeeeakcjeibgaaDoor
