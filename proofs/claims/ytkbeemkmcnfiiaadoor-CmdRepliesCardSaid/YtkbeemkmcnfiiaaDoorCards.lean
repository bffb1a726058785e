/-
  DERIVED. GIVEN WITH THE SEED: THE CARDS: each row of YtkbeemkmcnfiiaaDoorRows.lean that lists a variable, with what it lists TIED to the program's text (the seventh form; the later family's looks); each row that meets fmt, with fmt's text TOLD by the authors' own Lean function (tested against real Go, not proved from fmt's source: count such statements apart). THE CARD IS WHAT COUNTS. Prove the row's statement (the work); the ties are given (YtkbeemkmcnfiiaaDoorTie.lean); close each card by the builder's one call (the guide's Derived/Test/ToyasCard.lean, 'card_holds'). Laid BY PROGRAM, IN A SANDBOX (cutbox-door.mjs). By AI agents, Wed Nov 11 2026. No macro, syntax, notation, axiom, sorry.
-/
import Derived.Test.YtkbeemkmcnfiiaaDoorRows
import GoSem.ClaimSeven
namespace Go.Proofs.YtkbeemkmcnfiiaaDoor
namespace Rows

/-- THE TIED CARD OF 'palaverlaw14.CmdReplies'. -/
def cmdRepliesCard : Claim7 := { stood := { row := cmdRepliesRow, standIns := [], harness := (true, "bbbf0ef105572f14e6a6f756df437aed16b16d386c444af65dd8543eb4520ef8"), looks := true }, kinds := [], alts := [], laidByText := true, laidKinds := [.data, .data, .data, .data, .sentinel, .sentinel, .pinned], laidTests := true, laidLooks := .later }
def CmdRepliesCardSaid : Prop := Claim7.holds Tryd.pinned (.plain (OpenSpec.ofChange cmdRepliesSpec)) cmdRepliesCard

/-- THE SECOND FORM's CARD OF 'palaverlaw14.CmdReplies'. -/
def cmdRepliesUptoCard : Claim7 := { stood := { row := cmdRepliesUptoRow, standIns := [], harness := (true, "bbbf0ef105572f14e6a6f756df437aed16b16d386c444af65dd8543eb4520ef8"), looks := true }, kinds := [], alts := [], laidByText := true, laidKinds := [.data, .data, .data, .data, .sentinel, .sentinel, .pinned], laidTests := true, laidLooks := .later }
def CmdRepliesUptoCardSaid : Prop := Claim7.holds Tryd.pinned (.plain (OpenSpec.upto cmdRepliesSpec)) cmdRepliesUptoCard
end Rows
end Go.Proofs.YtkbeemkmcnfiiaaDoor
