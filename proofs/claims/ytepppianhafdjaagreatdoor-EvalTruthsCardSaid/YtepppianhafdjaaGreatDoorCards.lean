/-
  DERIVED. GIVEN WITH THE SEED: THE CARDS: each row of YtepppianhafdjaaGreatDoorRows.lean that lists a variable, with what it lists TIED to the program's text (the seventh form; the later family's looks); each row that meets fmt, with fmt's text TOLD by the authors' own Lean function (tested against real Go, not proved from fmt's source: count such statements apart). THE CARD IS WHAT COUNTS. Prove the row's statement (the work); the ties are given (YtepppianhafdjaaGreatDoorTie.lean); close each card by the builder's one call (the guide's Derived/Test/ToyasCard.lean, 'card_holds'). Laid BY PROGRAM, IN A SANDBOX (cutbox-door.mjs). By AI agents, Wed Nov 11 2026. No macro, syntax, notation, axiom, sorry.
-/
import Derived.Test.YtepppianhafdjaaGreatDoorRows
import GoSem.ClaimSeven
namespace Go.Proofs.YtepppianhafdjaaGreatDoor
namespace Rows

/-- THE TIED CARD OF 'palaverlaw09.EvalNumbers'. -/
def evalNumbersCard : Claim7 := { stood := { row := evalNumbersRow, standIns := [], harness := (true, "150ad5874a2254d745b95cf99bbc2109cbac832d5b5f5db2f5d119fdb0d5b29b"), looks := true }, kinds := [], alts := [], laidByText := true, laidKinds := [.data, .data, .data, .data, .sentinel, .sentinel, .data, .pinned], laidTests := true, laidLooks := .later }
def EvalNumbersCardSaid : Prop := Claim7.holds Tryz.pinned (.plain (OpenSpec.ofChange evalNumbersSpec)) evalNumbersCard

/-- THE TIED CARD OF 'palaverlaw09.EvalProducts'. -/
def evalProductsCard : Claim7 := { stood := { row := evalProductsRow, standIns := [], harness := (true, "150ad5874a2254d745b95cf99bbc2109cbac832d5b5f5db2f5d119fdb0d5b29b"), looks := true }, kinds := [], alts := [], laidByText := true, laidKinds := [.data, .data, .data, .data, .sentinel, .sentinel, .data, .pinned], laidTests := true, laidLooks := .later }
def EvalProductsCardSaid : Prop := Claim7.holds Tryz.pinned (.plain (OpenSpec.ofChange evalProductsSpec)) evalProductsCard

/-- THE TIED CARD OF 'palaverlaw09.EvalLazy'. -/
def evalLazyCard : Claim7 := { stood := { row := evalLazyRow, standIns := [], harness := (true, "150ad5874a2254d745b95cf99bbc2109cbac832d5b5f5db2f5d119fdb0d5b29b"), looks := true }, kinds := [], alts := [], laidByText := true, laidKinds := [.data, .data, .data, .data, .sentinel, .sentinel, .data, .pinned], laidTests := true, laidLooks := .later }
def EvalLazyCardSaid : Prop := Claim7.holds Tryz.pinned (.plain (OpenSpec.ofChange evalLazySpec)) evalLazyCard

/-- THE TIED CARD OF 'palaverlaw09.EvalWords'. -/
def evalWordsCard : Claim7 := { stood := { row := evalWordsRow, standIns := [], harness := (true, "150ad5874a2254d745b95cf99bbc2109cbac832d5b5f5db2f5d119fdb0d5b29b"), looks := true }, kinds := [], alts := [], laidByText := true, laidKinds := [.data, .data, .data, .data, .sentinel, .sentinel, .data, .pinned], laidTests := true, laidLooks := .later }
def EvalWordsCardSaid : Prop := Claim7.holds Tryz.pinned (.plain (OpenSpec.ofChange evalWordsSpec)) evalWordsCard

/-- THE TIED CARD OF 'palaverlaw09.EvalOne'. -/
def evalOneCard : Claim7 := { stood := { row := evalOneRow, standIns := [], harness := (true, "150ad5874a2254d745b95cf99bbc2109cbac832d5b5f5db2f5d119fdb0d5b29b"), looks := true }, kinds := [], alts := [], laidByText := true, laidKinds := [.data, .data, .data, .data, .sentinel, .sentinel, .data, .pinned], laidTests := true, laidLooks := .later }
def EvalOneCardSaid : Prop := Claim7.holds Tryz.pinned (.plain (OpenSpec.ofChange evalOneSpec)) evalOneCard

/-- THE TIED CARD OF 'palaverlaw09.EvalTruths'. -/
def evalTruthsCard : Claim7 := { stood := { row := evalTruthsRow, standIns := [], harness := (true, "150ad5874a2254d745b95cf99bbc2109cbac832d5b5f5db2f5d119fdb0d5b29b"), looks := true }, kinds := [], alts := [], laidByText := true, laidKinds := [.data, .data, .data, .data, .sentinel, .sentinel, .data, .pinned], laidTests := true, laidLooks := .later }
def EvalTruthsCardSaid : Prop := Claim7.holds Tryz.pinned (.plain (OpenSpec.ofChange evalTruthsSpec)) evalTruthsCard

/-- THE SECOND FORM's CARD OF 'palaverlaw09.EvalNumbers'. -/
def evalNumbersUptoCard : Claim7 := { stood := { row := evalNumbersUptoRow, standIns := [], harness := (true, "150ad5874a2254d745b95cf99bbc2109cbac832d5b5f5db2f5d119fdb0d5b29b"), looks := true }, kinds := [], alts := [], laidByText := true, laidKinds := [.data, .data, .data, .data, .sentinel, .sentinel, .data, .pinned], laidTests := true, laidLooks := .later }
def EvalNumbersUptoCardSaid : Prop := Claim7.holds Tryz.pinned (.plain (OpenSpec.upto evalNumbersSpec)) evalNumbersUptoCard

/-- THE SECOND FORM's CARD OF 'palaverlaw09.EvalProducts'. -/
def evalProductsUptoCard : Claim7 := { stood := { row := evalProductsUptoRow, standIns := [], harness := (true, "150ad5874a2254d745b95cf99bbc2109cbac832d5b5f5db2f5d119fdb0d5b29b"), looks := true }, kinds := [], alts := [], laidByText := true, laidKinds := [.data, .data, .data, .data, .sentinel, .sentinel, .data, .pinned], laidTests := true, laidLooks := .later }
def EvalProductsUptoCardSaid : Prop := Claim7.holds Tryz.pinned (.plain (OpenSpec.upto evalProductsSpec)) evalProductsUptoCard

/-- THE SECOND FORM's CARD OF 'palaverlaw09.EvalLazy'. -/
def evalLazyUptoCard : Claim7 := { stood := { row := evalLazyUptoRow, standIns := [], harness := (true, "150ad5874a2254d745b95cf99bbc2109cbac832d5b5f5db2f5d119fdb0d5b29b"), looks := true }, kinds := [], alts := [], laidByText := true, laidKinds := [.data, .data, .data, .data, .sentinel, .sentinel, .data, .pinned], laidTests := true, laidLooks := .later }
def EvalLazyUptoCardSaid : Prop := Claim7.holds Tryz.pinned (.plain (OpenSpec.upto evalLazySpec)) evalLazyUptoCard

/-- THE SECOND FORM's CARD OF 'palaverlaw09.EvalWords'. -/
def evalWordsUptoCard : Claim7 := { stood := { row := evalWordsUptoRow, standIns := [], harness := (true, "150ad5874a2254d745b95cf99bbc2109cbac832d5b5f5db2f5d119fdb0d5b29b"), looks := true }, kinds := [], alts := [], laidByText := true, laidKinds := [.data, .data, .data, .data, .sentinel, .sentinel, .data, .pinned], laidTests := true, laidLooks := .later }
def EvalWordsUptoCardSaid : Prop := Claim7.holds Tryz.pinned (.plain (OpenSpec.upto evalWordsSpec)) evalWordsUptoCard

/-- THE SECOND FORM's CARD OF 'palaverlaw09.EvalOne'. -/
def evalOneUptoCard : Claim7 := { stood := { row := evalOneUptoRow, standIns := [], harness := (true, "150ad5874a2254d745b95cf99bbc2109cbac832d5b5f5db2f5d119fdb0d5b29b"), looks := true }, kinds := [], alts := [], laidByText := true, laidKinds := [.data, .data, .data, .data, .sentinel, .sentinel, .data, .pinned], laidTests := true, laidLooks := .later }
def EvalOneUptoCardSaid : Prop := Claim7.holds Tryz.pinned (.plain (OpenSpec.upto evalOneSpec)) evalOneUptoCard

/-- THE SECOND FORM's CARD OF 'palaverlaw09.EvalTruths'. -/
def evalTruthsUptoCard : Claim7 := { stood := { row := evalTruthsUptoRow, standIns := [], harness := (true, "150ad5874a2254d745b95cf99bbc2109cbac832d5b5f5db2f5d119fdb0d5b29b"), looks := true }, kinds := [], alts := [], laidByText := true, laidKinds := [.data, .data, .data, .data, .sentinel, .sentinel, .data, .pinned], laidTests := true, laidLooks := .later }
def EvalTruthsUptoCardSaid : Prop := Claim7.holds Tryz.pinned (.plain (OpenSpec.upto evalTruthsSpec)) evalTruthsUptoCard
end Rows
end Go.Proofs.YtepppianhafdjaaGreatDoor
