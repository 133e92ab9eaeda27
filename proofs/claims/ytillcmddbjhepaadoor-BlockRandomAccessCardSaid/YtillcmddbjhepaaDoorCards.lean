/-
  DERIVED. GIVEN WITH THE SEED: THE CARDS: each row of YtillcmddbjhepaaDoorRows.lean that lists a variable, with what it lists TIED to the program's text (the seventh form; the later family's looks); each row that meets fmt, with fmt's text TOLD by the authors' own Lean function (tested against real Go, not proved from fmt's source: count such statements apart). THE CARD IS WHAT COUNTS. Prove the row's statement (the work); the ties are given (YtillcmddbjhepaaDoorTie.lean); close each card by the builder's one call (the guide's Derived/Test/ToyasCard.lean, 'card_holds'). Laid BY PROGRAM, IN A SANDBOX (cutbox-door.mjs). By AI agents, Wed Nov 11 2026. No macro, syntax, notation, axiom, sorry.
-/
import Derived.Test.YtillcmddbjhepaaDoorRows
import GoSem.ClaimSeven
namespace Go.Proofs.YtillcmddbjhepaaDoor
namespace Rows

/-- THE TIED CARD OF 'signalbenchlaw10.BlockRoundTrips'. -/
def blockRoundTripsCard : Claim7 := { stood := { row := blockRoundTripsRow, standIns := [], harness := (true, "65c4a93448bd1d7ef495db4e51a2c4323eda67b580cb5be63fa5650f9be46f4f"), looks := false }, kinds := [], alts := [], laidByText := true, laidKinds := [.data], laidTests := true, laidLooks := .later }
def BlockRoundTripsCardSaid : Prop := Claim7.holds Tryd.pinned (.plain (OpenSpec.ofChange blockRoundTripsSpec)) blockRoundTripsCard

/-- THE TIED CARD OF 'signalbenchlaw10.BlockRandomAccess'. -/
def blockRandomAccessCard : Claim7 := { stood := { row := blockRandomAccessRow, standIns := [], harness := (true, "65c4a93448bd1d7ef495db4e51a2c4323eda67b580cb5be63fa5650f9be46f4f"), looks := false }, kinds := [], alts := [], laidByText := true, laidKinds := [.data], laidTests := true, laidLooks := .later }
def BlockRandomAccessCardSaid : Prop := Claim7.holds Tryd.pinned (.plain (OpenSpec.ofChange blockRandomAccessSpec)) blockRandomAccessCard

/-- THE TIED CARD OF 'signalbenchlaw10.BlockRanges'. -/
def blockRangesCard : Claim7 := { stood := { row := blockRangesRow, standIns := [], harness := (true, "65c4a93448bd1d7ef495db4e51a2c4323eda67b580cb5be63fa5650f9be46f4f"), looks := false }, kinds := [], alts := [], laidByText := true, laidKinds := [.data], laidTests := true, laidLooks := .later }
def BlockRangesCardSaid : Prop := Claim7.holds Tryd.pinned (.plain (OpenSpec.ofChange blockRangesSpec)) blockRangesCard

/-- THE SECOND FORM's CARD OF 'signalbenchlaw10.BlockRoundTrips'. -/
def blockRoundTripsUptoCard : Claim7 := { stood := { row := blockRoundTripsUptoRow, standIns := [], harness := (true, "65c4a93448bd1d7ef495db4e51a2c4323eda67b580cb5be63fa5650f9be46f4f"), looks := false }, kinds := [], alts := [], laidByText := true, laidKinds := [.data], laidTests := true, laidLooks := .later }
def BlockRoundTripsUptoCardSaid : Prop := Claim7.holds Tryd.pinned (.plain (OpenSpec.upto blockRoundTripsSpec)) blockRoundTripsUptoCard

/-- THE SECOND FORM's CARD OF 'signalbenchlaw10.BlockRandomAccess'. -/
def blockRandomAccessUptoCard : Claim7 := { stood := { row := blockRandomAccessUptoRow, standIns := [], harness := (true, "65c4a93448bd1d7ef495db4e51a2c4323eda67b580cb5be63fa5650f9be46f4f"), looks := false }, kinds := [], alts := [], laidByText := true, laidKinds := [.data], laidTests := true, laidLooks := .later }
def BlockRandomAccessUptoCardSaid : Prop := Claim7.holds Tryd.pinned (.plain (OpenSpec.upto blockRandomAccessSpec)) blockRandomAccessUptoCard

/-- THE SECOND FORM's CARD OF 'signalbenchlaw10.BlockRanges'. -/
def blockRangesUptoCard : Claim7 := { stood := { row := blockRangesUptoRow, standIns := [], harness := (true, "65c4a93448bd1d7ef495db4e51a2c4323eda67b580cb5be63fa5650f9be46f4f"), looks := false }, kinds := [], alts := [], laidByText := true, laidKinds := [.data], laidTests := true, laidLooks := .later }
def BlockRangesUptoCardSaid : Prop := Claim7.holds Tryd.pinned (.plain (OpenSpec.upto blockRangesSpec)) blockRangesUptoCard
end Rows
end Go.Proofs.YtillcmddbjhepaaDoor
