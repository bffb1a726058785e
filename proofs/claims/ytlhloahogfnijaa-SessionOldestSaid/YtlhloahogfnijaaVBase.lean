/- What is shared. -/
import Derived.Test.YtlhloahogfnijaaBytes
namespace Go.Proofs.Ytlhloahogfnijaa
open Go.RowKit
theorem below_to {w w0 w1 : World} (h : Below w.heap.size w w0) (hb : Below w0.heap.size w0 w1) : Below w.heap.size w w1 := h.trans (hb.mono h.size)
end Go.Proofs.Ytlhloahogfnijaa
