/- The contract of the document's own Get of a command: of any bytes. -/
import Derived.Test.YtkbeemkmcnfiiaaGreatDoorMCmR0
import Derived.Test.YtkbeemkmcnfiiaaGreatDoorMCmR1
import Derived.Test.YtkbeemkmcnfiiaaGreatDoorMCmR2
import Derived.Test.YtkbeemkmcnfiiaaGreatDoorMCmR3
import Derived.Test.YtkbeemkmcnfiiaaGreatDoorMCmR4
namespace Go.Proofs.YtkbeemkmcnfiiaaGreatDoor
open Go.RowKit

theorem rgetc_any (A : Option Addr) (L : List UInt8) (cap : Nat) (w : World) (hl : L.length ≤ 140737488355328) (hlc : L.length ≤ cap) (hB : Bs w A L) (hE : Env7 w) :
    Calls Tryz.prog 18 #[.slice A L.length cap] w (GotC w (getC L)) := by
  by_cases h1 : (stI (L, false)).1 = 1
  · exact rgetc_1 A L cap w h1 hl hlc hB hE
  by_cases h2 : (stI (L, false)).1 = 2
  · exact rgetc_2 A L cap w h2 hl hlc hB hE
  by_cases h3 : (stI (L, false)).1 = 3
  · exact rgetc_3 A L cap w h3 hl hlc hB hE
  by_cases h4 : (stI (L, false)).1 = 4
  · exact rgetc_4 A L cap w h4 hl hlc hB hE
  exact rgetc_0 A L cap w (by omega) hl hlc hB hE
end Go.Proofs.YtkbeemkmcnfiiaaGreatDoor
