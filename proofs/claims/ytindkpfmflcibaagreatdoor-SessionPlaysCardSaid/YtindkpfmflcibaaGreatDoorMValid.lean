/- The contract of runes.Valid (utf8.ValidString): for every string it tells whether no piece is a byte that is none. -/
import Derived.Test.YtindkpfmflcibaaGreatDoorGB
import Derived.Test.YtindkpfmflcibaaGreatDoorGA
import Derived.Shelf.Unicode.ValidAny
namespace Go.Proofs.YtindkpfmflcibaaGreatDoor
open Go.RowKit

theorem validString_any (s : ByteArray) (w : World) (hs : s.size ≤ 9223372036854775807) (hT : Tabs w) :
    Calls Tryz.prog 92 #[.string s] w fun e w' => e = .returned (.bool (validL s.data.toList)) ∧ Below w.heap.size w w' := by
  have := Any.utf8_ValidString Tryz.more196 s w hs hT
  rw [validD_eq] at this
  exact this
set_option maxHeartbeats 400000 in
theorem valid_any (s : ByteArray) (w : World) (hs : s.size ≤ 9223372036854775807) (hT : Tabs w) :
    Calls Tryz.prog 72 #[.string s] w fun e w' => e = .returned (.bool (validL s.data.toList)) ∧ Below w.heap.size w w' := by
  have c := validString_any s w hs hT
  generalize validL s.data.toList = V at c ⊢
  go_enter Tryz.func72, Tryz.ntmps72
  go_wp2_with (go_at_call 92; refine c.mono ?_; rintro e w' ⟨rfl, hb⟩)
  go_ret
  exact ⟨rfl, hb⟩
end Go.Proofs.YtindkpfmflcibaaGreatDoor
