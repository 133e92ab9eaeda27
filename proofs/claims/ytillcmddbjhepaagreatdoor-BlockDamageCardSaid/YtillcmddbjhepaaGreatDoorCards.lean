/-
  DERIVED. GIVEN WITH THE SEED: THE CARDS: each row of YtillcmddbjhepaaGreatDoorRows.lean that lists a variable, with what it lists TIED to the program's text (the seventh form; the later family's looks); each row that meets fmt, with fmt's text TOLD by the authors' own Lean function (tested against real Go, not proved from fmt's source: count such statements apart). THE CARD IS WHAT COUNTS. Prove the row's statement (the work); the ties are given (YtillcmddbjhepaaGreatDoorTie.lean); close each card by the builder's one call (the guide's Derived/Test/ToyasCard.lean, 'card_holds'). Laid BY PROGRAM, IN A SANDBOX (cutbox-door.mjs). By AI agents, Wed Nov 11 2026. No macro, syntax, notation, axiom, sorry.
-/
import Derived.Test.YtillcmddbjhepaaGreatDoorRows
import GoSem.ClaimSeven
namespace Go.Proofs.YtillcmddbjhepaaGreatDoor
namespace Rows

/-- THE TIED CARD OF 'signalbenchlaw10.BlockEncodes'. -/
def blockEncodesCard : Claim7 := { stood := { row := blockEncodesRow, standIns := [], harness := (true, "92bc45e9ea728922a35cc304cbaeaf6e32cc10f77502deda9b6192836b0a235f"), looks := false }, kinds := [], alts := [], laidByText := true, laidKinds := [.data], laidTests := true, laidLooks := .later }
def BlockEncodesCardSaid : Prop := Claim7.holds Tryz.pinned (.plain (OpenSpec.ofChange blockEncodesSpec)) blockEncodesCard

/-- THE TIED CARD OF 'signalbenchlaw10.BlockDecodes'. -/
def blockDecodesCard : Claim7 := { stood := { row := blockDecodesRow, standIns := [], harness := (true, "92bc45e9ea728922a35cc304cbaeaf6e32cc10f77502deda9b6192836b0a235f"), looks := false }, kinds := [], alts := [], laidByText := true, laidKinds := [.data], laidTests := true, laidLooks := .later }
def BlockDecodesCardSaid : Prop := Claim7.holds Tryz.pinned (.plain (OpenSpec.ofChange blockDecodesSpec)) blockDecodesCard

/-- THE TIED CARD OF 'signalbenchlaw10.BlockReads'. -/
def blockReadsCard : Claim7 := { stood := { row := blockReadsRow, standIns := [], harness := (true, "92bc45e9ea728922a35cc304cbaeaf6e32cc10f77502deda9b6192836b0a235f"), looks := false }, kinds := [], alts := [], laidByText := true, laidKinds := [.data], laidTests := true, laidLooks := .later }
def BlockReadsCardSaid : Prop := Claim7.holds Tryz.pinned (.plain (OpenSpec.ofChange blockReadsSpec)) blockReadsCard

/-- THE TIED CARD OF 'signalbenchlaw10.BlockDamage'. -/
def blockDamageCard : Claim7 := { stood := { row := blockDamageRow, standIns := [], harness := (true, "92bc45e9ea728922a35cc304cbaeaf6e32cc10f77502deda9b6192836b0a235f"), looks := false }, kinds := [], alts := [], laidByText := true, laidKinds := [.data], laidTests := true, laidLooks := .later }
def BlockDamageCardSaid : Prop := Claim7.holds Tryz.pinned (.plain (OpenSpec.ofChange blockDamageSpec)) blockDamageCard

/-- THE SECOND FORM's CARD OF 'signalbenchlaw10.BlockEncodes'. -/
def blockEncodesUptoCard : Claim7 := { stood := { row := blockEncodesUptoRow, standIns := [], harness := (true, "92bc45e9ea728922a35cc304cbaeaf6e32cc10f77502deda9b6192836b0a235f"), looks := false }, kinds := [], alts := [], laidByText := true, laidKinds := [.data], laidTests := true, laidLooks := .later }
def BlockEncodesUptoCardSaid : Prop := Claim7.holds Tryz.pinned (.plain (OpenSpec.upto blockEncodesSpec)) blockEncodesUptoCard

/-- THE SECOND FORM's CARD OF 'signalbenchlaw10.BlockDecodes'. -/
def blockDecodesUptoCard : Claim7 := { stood := { row := blockDecodesUptoRow, standIns := [], harness := (true, "92bc45e9ea728922a35cc304cbaeaf6e32cc10f77502deda9b6192836b0a235f"), looks := false }, kinds := [], alts := [], laidByText := true, laidKinds := [.data], laidTests := true, laidLooks := .later }
def BlockDecodesUptoCardSaid : Prop := Claim7.holds Tryz.pinned (.plain (OpenSpec.upto blockDecodesSpec)) blockDecodesUptoCard

/-- THE SECOND FORM's CARD OF 'signalbenchlaw10.BlockReads'. -/
def blockReadsUptoCard : Claim7 := { stood := { row := blockReadsUptoRow, standIns := [], harness := (true, "92bc45e9ea728922a35cc304cbaeaf6e32cc10f77502deda9b6192836b0a235f"), looks := false }, kinds := [], alts := [], laidByText := true, laidKinds := [.data], laidTests := true, laidLooks := .later }
def BlockReadsUptoCardSaid : Prop := Claim7.holds Tryz.pinned (.plain (OpenSpec.upto blockReadsSpec)) blockReadsUptoCard

/-- THE SECOND FORM's CARD OF 'signalbenchlaw10.BlockDamage'. -/
def blockDamageUptoCard : Claim7 := { stood := { row := blockDamageUptoRow, standIns := [], harness := (true, "92bc45e9ea728922a35cc304cbaeaf6e32cc10f77502deda9b6192836b0a235f"), looks := false }, kinds := [], alts := [], laidByText := true, laidKinds := [.data], laidTests := true, laidLooks := .later }
def BlockDamageUptoCardSaid : Prop := Claim7.holds Tryz.pinned (.plain (OpenSpec.upto blockDamageSpec)) blockDamageUptoCard
end Rows
end Go.Proofs.YtillcmddbjhepaaGreatDoor
