/- TyName -/
import Derived.Test.YtjmfpgalepahoaaGreatDoorSGJ
import Derived.Test.YtjmfpgalepahoaaGreatDoorSGB
import Derived.Test.YtjmfpgalepahoaaGreatDoorSGG
import Derived.Deep.LoopGhost
import Derived.WalkMore
namespace Go.Proofs.YtjmfpgalepahoaaGreatDoor
section
open Go.RowKit
theorem nodesL_len (es : List Ex) : es.length ≤ nodesL es := by
 induction es with
 | nil => simp [nodesL]
 | cons e es ih => rw [nodesL, List.length_cons]; have := nodes_pos e; omega
end
end Go.Proofs.YtjmfpgalepahoaaGreatDoor
