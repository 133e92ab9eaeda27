/-
  DERIVED. GIVEN WITH THE SEED: THE CARDS: each row of YtddphdohjceonaaGreatDoorRows.lean that lists a variable, with what it lists TIED to the program's text (the seventh form; the later family's looks); each row that meets fmt, with fmt's text TOLD by the authors' own Lean function (tested against real Go, not proved from fmt's source: count such statements apart). THE CARD IS WHAT COUNTS. Prove the row's statement (the work); the ties are given (YtddphdohjceonaaGreatDoorTie.lean); close each card by the builder's one call (the guide's Derived/Test/ToyasCard.lean, 'card_holds'). Laid BY PROGRAM, IN A SANDBOX (cutbox-door.mjs). By AI agents, Wed Nov 11 2026. No macro, syntax, notation, axiom, sorry.
-/
import Derived.Test.YtddphdohjceonaaGreatDoorRows
import GoSem.ClaimSeven
namespace Go.Proofs.YtddphdohjceonaaGreatDoor
namespace Rows

/-- THE TIED CARD OF 'signalbenchlaw07.EventSorts'. -/
def eventSortsCard : Claim7 := { stood := { row := eventSortsRow, standIns := [], harness := (true, "f83eff7c25cd4c613ff725fa45e33859326c2795f1b584d1f151f271b3888da8"), looks := false }, kinds := [], alts := [], laidByText := true, laidKinds := [.data, .data, .data, .data, .data, .pinned], laidTests := true, laidLooks := .later }
def EventSortsCardSaid : Prop := Claim7.holds Tryz.pinned (.plain (OpenSpec.ofChange eventSortsSpec)) eventSortsCard

/-- THE SECOND FORM's CARD OF 'signalbenchlaw07.EventSorts'. -/
def eventSortsUptoCard : Claim7 := { stood := { row := eventSortsUptoRow, standIns := [], harness := (true, "f83eff7c25cd4c613ff725fa45e33859326c2795f1b584d1f151f271b3888da8"), looks := false }, kinds := [], alts := [], laidByText := true, laidKinds := [.data, .data, .data, .data, .data, .pinned], laidTests := true, laidLooks := .later }
def EventSortsUptoCardSaid : Prop := Claim7.holds Tryz.pinned (.plain (OpenSpec.upto eventSortsSpec)) eventSortsUptoCard
end Rows
end Go.Proofs.YtddphdohjceonaaGreatDoor
