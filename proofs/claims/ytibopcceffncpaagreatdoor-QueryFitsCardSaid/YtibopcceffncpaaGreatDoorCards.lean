/-
  DERIVED. GIVEN WITH THE SEED: THE CARDS: each row of YtibopcceffncpaaGreatDoorRows.lean that lists a variable, with what it lists TIED to the program's text (the seventh form; the later family's looks); each row that meets fmt, with fmt's text TOLD by the authors' own Lean function (tested against real Go, not proved from fmt's source: count such statements apart). THE CARD IS WHAT COUNTS. Prove the row's statement (the work); the ties are given (YtibopcceffncpaaGreatDoorTie.lean); close each card by the builder's one call (the guide's Derived/Test/ToyasCard.lean, 'card_holds'). Laid BY PROGRAM, IN A SANDBOX (cutbox-door.mjs). By AI agents, Wed Nov 11 2026. No macro, syntax, notation, axiom, sorry.
-/
import Derived.Test.YtibopcceffncpaaGreatDoorRows
import GoSem.ClaimSeven
namespace Go.Proofs.YtibopcceffncpaaGreatDoor
namespace Rows

/-- THE TIED CARD OF 'firkinlaw18.QueryFits'. -/
def queryFitsCard : Claim7 := { stood := { row := queryFitsRow, standIns := [], harness := (true, "34199ce01fd31f860c1ea655f72e015759d3ea5acfef982aa3b6fbe1f1c87df3"), looks := false }, kinds := [], alts := [], laidByText := true, laidKinds := [.data, .data, .data, .data, .data, .data, .pinned], laidTests := true, laidLooks := .later }
def QueryFitsCardSaid : Prop := Claim7.holds Tryz.pinned (.plain (OpenSpec.ofChange queryFitsSpec)) queryFitsCard

/-- THE SECOND FORM's CARD OF 'firkinlaw18.QueryFits'. -/
def queryFitsUptoCard : Claim7 := { stood := { row := queryFitsUptoRow, standIns := [], harness := (true, "34199ce01fd31f860c1ea655f72e015759d3ea5acfef982aa3b6fbe1f1c87df3"), looks := false }, kinds := [], alts := [], laidByText := true, laidKinds := [.data, .data, .data, .data, .data, .data, .pinned], laidTests := true, laidLooks := .later }
def QueryFitsUptoCardSaid : Prop := Claim7.holds Tryz.pinned (.plain (OpenSpec.upto queryFitsSpec)) queryFitsUptoCard
end Rows
end Go.Proofs.YtibopcceffncpaaGreatDoor
