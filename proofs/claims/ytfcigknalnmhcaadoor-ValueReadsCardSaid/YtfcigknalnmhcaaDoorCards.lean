/-
  DERIVED. GIVEN WITH THE SEED: THE CARDS: each row of YtfcigknalnmhcaaDoorRows.lean that lists a variable, with what it lists TIED to the program's text (the seventh form; the later family's looks); each row that meets fmt, with fmt's text TOLD by the authors' own Lean function (tested against real Go, not proved from fmt's source: count such statements apart). THE CARD IS WHAT COUNTS. Prove the row's statement (the work); the ties are given (YtfcigknalnmhcaaDoorTie.lean); close each card by the builder's one call (the guide's Derived/Test/ToyasCard.lean, 'card_holds'). Laid BY PROGRAM, IN A SANDBOX (cutbox-door.mjs). By AI agents, Wed Nov 11 2026. No macro, syntax, notation, axiom, sorry.
-/
import Derived.Test.YtfcigknalnmhcaaDoorRows
import GoSem.ClaimSeven
namespace Go.Proofs.YtfcigknalnmhcaaDoor
namespace Rows

/-- THE TIED CARD OF 'palaverlaw05.ValueChecks'. -/
def valueChecksCard : Claim7 := { stood := { row := valueChecksRow, standIns := [], harness := (true, "83455bf864ad9fc4d7e88bc98c8fa886bae49a5d0ed5a4c65ceba02c02562398"), looks := true }, kinds := [], alts := [], laidByText := true, laidKinds := [.data, .data, .data, .data, .pinned], laidTests := true, laidLooks := .later }
def ValueChecksCardSaid : Prop := Claim7.holds Tryd.pinned (.plain (OpenSpec.ofChange valueChecksSpec)) valueChecksCard

/-- THE TIED CARD OF 'palaverlaw05.ValueBoxes'. -/
def valueBoxesCard : Claim7 := { stood := { row := valueBoxesRow, standIns := [], harness := (true, "83455bf864ad9fc4d7e88bc98c8fa886bae49a5d0ed5a4c65ceba02c02562398"), looks := true }, kinds := [], alts := [], laidByText := true, laidKinds := [.data, .data, .data, .data, .pinned], laidTests := true, laidLooks := .later }
def ValueBoxesCardSaid : Prop := Claim7.holds Tryd.pinned (.plain (OpenSpec.ofChange valueBoxesSpec)) valueBoxesCard

/-- THE TIED CARD OF 'palaverlaw05.ValueAsserts'. -/
def valueAssertsCard : Claim7 := { stood := { row := valueAssertsRow, standIns := [], harness := (true, "83455bf864ad9fc4d7e88bc98c8fa886bae49a5d0ed5a4c65ceba02c02562398"), looks := true }, kinds := [], alts := [], laidByText := true, laidKinds := [.data, .data, .data, .data, .pinned], laidTests := true, laidLooks := .later }
def ValueAssertsCardSaid : Prop := Claim7.holds Tryd.pinned (.plain (OpenSpec.ofChange valueAssertsSpec)) valueAssertsCard

/-- THE TIED CARD OF 'palaverlaw05.ValueShows'. -/
def valueShowsCard : Claim7 := { stood := { row := valueShowsRow, standIns := [], harness := (true, "83455bf864ad9fc4d7e88bc98c8fa886bae49a5d0ed5a4c65ceba02c02562398"), looks := true }, kinds := [], alts := [], laidByText := true, laidKinds := [.data, .data, .data, .data, .sentinel, .sentinel, .pinned], laidTests := true, laidLooks := .later }
def ValueShowsCardSaid : Prop := Claim7.holds Tryd.pinned (.plain (OpenSpec.ofChange valueShowsSpec)) valueShowsCard

/-- THE TIED CARD OF 'palaverlaw05.ValueReads'. -/
def valueReadsCard : Claim7 := { stood := { row := valueReadsRow, standIns := [], harness := (true, "83455bf864ad9fc4d7e88bc98c8fa886bae49a5d0ed5a4c65ceba02c02562398"), looks := true }, kinds := [], alts := [], laidByText := true, laidKinds := [.data, .data, .data, .data, .sentinel, .sentinel, .pinned], laidTests := true, laidLooks := .later }
def ValueReadsCardSaid : Prop := Claim7.holds Tryd.pinned (.plain (OpenSpec.ofChange valueReadsSpec)) valueReadsCard

/-- THE TIED CARD OF 'palaverlaw05.ValueBytes'. -/
def valueBytesCard : Claim7 := { stood := { row := valueBytesRow, standIns := [], harness := (true, "83455bf864ad9fc4d7e88bc98c8fa886bae49a5d0ed5a4c65ceba02c02562398"), looks := true }, kinds := [], alts := [], laidByText := true, laidKinds := [.data, .data, .data, .data, .pinned], laidTests := true, laidLooks := .later }
def ValueBytesCardSaid : Prop := Claim7.holds Tryd.pinned (.plain (OpenSpec.ofChange valueBytesSpec)) valueBytesCard

/-- THE TIED CARD OF 'palaverlaw05.ValueNumbers'. -/
def valueNumbersCard : Claim7 := { stood := { row := valueNumbersRow, standIns := [], harness := (true, "83455bf864ad9fc4d7e88bc98c8fa886bae49a5d0ed5a4c65ceba02c02562398"), looks := true }, kinds := [], alts := [], laidByText := true, laidKinds := [.data, .data, .data, .data, .sentinel, .sentinel, .pinned], laidTests := true, laidLooks := .later }
def ValueNumbersCardSaid : Prop := Claim7.holds Tryd.pinned (.plain (OpenSpec.ofChange valueNumbersSpec)) valueNumbersCard

/-- THE TIED CARD OF 'palaverlaw05.ValueLines'. -/
def valueLinesCard : Claim7 := { stood := { row := valueLinesRow, standIns := [], harness := (true, "83455bf864ad9fc4d7e88bc98c8fa886bae49a5d0ed5a4c65ceba02c02562398"), looks := true }, kinds := [], alts := [], laidByText := true, laidKinds := [.data, .data, .data, .data, .pinned], laidTests := true, laidLooks := .later }
def ValueLinesCardSaid : Prop := Claim7.holds Tryd.pinned (.plain (OpenSpec.ofChange valueLinesSpec)) valueLinesCard

/-- THE TIED CARD OF 'palaverlaw05.ValueApart'. -/
def valueApartCard : Claim7 := { stood := { row := valueApartRow, standIns := [], harness := (true, "83455bf864ad9fc4d7e88bc98c8fa886bae49a5d0ed5a4c65ceba02c02562398"), looks := true }, kinds := [], alts := [], laidByText := true, laidKinds := [.data, .data, .data, .data, .pinned], laidTests := true, laidLooks := .later }
def ValueApartCardSaid : Prop := Claim7.holds Tryd.pinned (.plain (OpenSpec.ofChange valueApartSpec)) valueApartCard

/-- THE SECOND FORM's CARD OF 'palaverlaw05.ValueChecks'. -/
def valueChecksUptoCard : Claim7 := { stood := { row := valueChecksUptoRow, standIns := [], harness := (true, "83455bf864ad9fc4d7e88bc98c8fa886bae49a5d0ed5a4c65ceba02c02562398"), looks := true }, kinds := [], alts := [], laidByText := true, laidKinds := [.data, .data, .data, .data, .pinned], laidTests := true, laidLooks := .later }
def ValueChecksUptoCardSaid : Prop := Claim7.holds Tryd.pinned (.plain (OpenSpec.upto valueChecksSpec)) valueChecksUptoCard

/-- THE SECOND FORM's CARD OF 'palaverlaw05.ValueBoxes'. -/
def valueBoxesUptoCard : Claim7 := { stood := { row := valueBoxesUptoRow, standIns := [], harness := (true, "83455bf864ad9fc4d7e88bc98c8fa886bae49a5d0ed5a4c65ceba02c02562398"), looks := true }, kinds := [], alts := [], laidByText := true, laidKinds := [.data, .data, .data, .data, .pinned], laidTests := true, laidLooks := .later }
def ValueBoxesUptoCardSaid : Prop := Claim7.holds Tryd.pinned (.plain (OpenSpec.upto valueBoxesSpec)) valueBoxesUptoCard

/-- THE SECOND FORM's CARD OF 'palaverlaw05.ValueAsserts'. -/
def valueAssertsUptoCard : Claim7 := { stood := { row := valueAssertsUptoRow, standIns := [], harness := (true, "83455bf864ad9fc4d7e88bc98c8fa886bae49a5d0ed5a4c65ceba02c02562398"), looks := true }, kinds := [], alts := [], laidByText := true, laidKinds := [.data, .data, .data, .data, .pinned], laidTests := true, laidLooks := .later }
def ValueAssertsUptoCardSaid : Prop := Claim7.holds Tryd.pinned (.plain (OpenSpec.upto valueAssertsSpec)) valueAssertsUptoCard

/-- THE SECOND FORM's CARD OF 'palaverlaw05.ValueShows'. -/
def valueShowsUptoCard : Claim7 := { stood := { row := valueShowsUptoRow, standIns := [], harness := (true, "83455bf864ad9fc4d7e88bc98c8fa886bae49a5d0ed5a4c65ceba02c02562398"), looks := true }, kinds := [], alts := [], laidByText := true, laidKinds := [.data, .data, .data, .data, .sentinel, .sentinel, .pinned], laidTests := true, laidLooks := .later }
def ValueShowsUptoCardSaid : Prop := Claim7.holds Tryd.pinned (.plain (OpenSpec.upto valueShowsSpec)) valueShowsUptoCard

/-- THE SECOND FORM's CARD OF 'palaverlaw05.ValueReads'. -/
def valueReadsUptoCard : Claim7 := { stood := { row := valueReadsUptoRow, standIns := [], harness := (true, "83455bf864ad9fc4d7e88bc98c8fa886bae49a5d0ed5a4c65ceba02c02562398"), looks := true }, kinds := [], alts := [], laidByText := true, laidKinds := [.data, .data, .data, .data, .sentinel, .sentinel, .pinned], laidTests := true, laidLooks := .later }
def ValueReadsUptoCardSaid : Prop := Claim7.holds Tryd.pinned (.plain (OpenSpec.upto valueReadsSpec)) valueReadsUptoCard

/-- THE SECOND FORM's CARD OF 'palaverlaw05.ValueBytes'. -/
def valueBytesUptoCard : Claim7 := { stood := { row := valueBytesUptoRow, standIns := [], harness := (true, "83455bf864ad9fc4d7e88bc98c8fa886bae49a5d0ed5a4c65ceba02c02562398"), looks := true }, kinds := [], alts := [], laidByText := true, laidKinds := [.data, .data, .data, .data, .pinned], laidTests := true, laidLooks := .later }
def ValueBytesUptoCardSaid : Prop := Claim7.holds Tryd.pinned (.plain (OpenSpec.upto valueBytesSpec)) valueBytesUptoCard

/-- THE SECOND FORM's CARD OF 'palaverlaw05.ValueNumbers'. -/
def valueNumbersUptoCard : Claim7 := { stood := { row := valueNumbersUptoRow, standIns := [], harness := (true, "83455bf864ad9fc4d7e88bc98c8fa886bae49a5d0ed5a4c65ceba02c02562398"), looks := true }, kinds := [], alts := [], laidByText := true, laidKinds := [.data, .data, .data, .data, .sentinel, .sentinel, .pinned], laidTests := true, laidLooks := .later }
def ValueNumbersUptoCardSaid : Prop := Claim7.holds Tryd.pinned (.plain (OpenSpec.upto valueNumbersSpec)) valueNumbersUptoCard

/-- THE SECOND FORM's CARD OF 'palaverlaw05.ValueLines'. -/
def valueLinesUptoCard : Claim7 := { stood := { row := valueLinesUptoRow, standIns := [], harness := (true, "83455bf864ad9fc4d7e88bc98c8fa886bae49a5d0ed5a4c65ceba02c02562398"), looks := true }, kinds := [], alts := [], laidByText := true, laidKinds := [.data, .data, .data, .data, .pinned], laidTests := true, laidLooks := .later }
def ValueLinesUptoCardSaid : Prop := Claim7.holds Tryd.pinned (.plain (OpenSpec.upto valueLinesSpec)) valueLinesUptoCard

/-- THE SECOND FORM's CARD OF 'palaverlaw05.ValueApart'. -/
def valueApartUptoCard : Claim7 := { stood := { row := valueApartUptoRow, standIns := [], harness := (true, "83455bf864ad9fc4d7e88bc98c8fa886bae49a5d0ed5a4c65ceba02c02562398"), looks := true }, kinds := [], alts := [], laidByText := true, laidKinds := [.data, .data, .data, .data, .pinned], laidTests := true, laidLooks := .later }
def ValueApartUptoCardSaid : Prop := Claim7.holds Tryd.pinned (.plain (OpenSpec.upto valueApartSpec)) valueApartUptoCard
end Rows
end Go.Proofs.YtfcigknalnmhcaaDoor
