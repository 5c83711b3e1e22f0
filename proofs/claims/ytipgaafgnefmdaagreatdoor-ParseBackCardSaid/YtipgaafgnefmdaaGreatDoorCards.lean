/-
  DERIVED. GIVEN WITH THE SEED: THE CARDS: each row of YtipgaafgnefmdaaGreatDoorRows.lean that lists a variable, with what it lists TIED to the program's text (the seventh form; the later family's looks); each row that meets fmt, with fmt's text TOLD by the authors' own Lean function (tested against real Go, not proved from fmt's source: count such statements apart). THE CARD IS WHAT COUNTS. Prove the row's statement (the work); the ties are given (YtipgaafgnefmdaaGreatDoorTie.lean); close each card by the builder's one call (the guide's Derived/Test/ToyasCard.lean, 'card_holds'). Laid BY PROGRAM, IN A SANDBOX (cutbox-door.mjs). By AI agents, Wed Nov 11 2026. No macro, syntax, notation, axiom, sorry.
-/
import Derived.Test.YtipgaafgnefmdaaGreatDoorRows
import GoSem.ClaimSeven
namespace Go.Proofs.YtipgaafgnefmdaaGreatDoor
namespace Rows

/-- THE TIED CARD OF 'firkinlaw19.ParseQueries'. -/
def parseQueriesCard : Claim7 := { stood := { row := parseQueriesRow, standIns := [], harness := (true, "c95698ce69a7f5683b6962b33950b576eb76df4bec31990b40b66bb0629292fd"), looks := true }, kinds := [], alts := [], laidByText := true, laidKinds := [.data, .data, .data, .data, .sentinel, .sentinel, .data, .pinned], laidTests := true, laidLooks := .later }
def ParseQueriesCardSaid : Prop := Claim7.holds Tryz.pinned (.plain (OpenSpec.ofChange parseQueriesSpec)) parseQueriesCard

/-- THE TIED CARD OF 'firkinlaw19.ParseWhere'. -/
def parseWhereCard : Claim7 := { stood := { row := parseWhereRow, standIns := [], harness := (true, "c95698ce69a7f5683b6962b33950b576eb76df4bec31990b40b66bb0629292fd"), looks := true }, kinds := [], alts := [], laidByText := true, laidKinds := [.data, .data, .data, .data, .sentinel, .sentinel, .data, .pinned], laidTests := true, laidLooks := .later }
def ParseWhereCardSaid : Prop := Claim7.holds Tryz.pinned (.plain (OpenSpec.ofChange parseWhereSpec)) parseWhereCard

/-- THE TIED CARD OF 'firkinlaw19.ParseBack'. -/
def parseBackCard : Claim7 := { stood := { row := parseBackRow, standIns := [], harness := (true, "c95698ce69a7f5683b6962b33950b576eb76df4bec31990b40b66bb0629292fd"), looks := true }, kinds := [], alts := [], laidByText := true, laidKinds := [.data, .data, .data, .data, .sentinel, .sentinel, .data, .pinned], laidTests := true, laidLooks := .later }
def ParseBackCardSaid : Prop := Claim7.holds Tryz.pinned (.plain (OpenSpec.ofChange parseBackSpec)) parseBackCard

/-- THE SECOND FORM's CARD OF 'firkinlaw19.ParseQueries'. -/
def parseQueriesUptoCard : Claim7 := { stood := { row := parseQueriesUptoRow, standIns := [], harness := (true, "c95698ce69a7f5683b6962b33950b576eb76df4bec31990b40b66bb0629292fd"), looks := true }, kinds := [], alts := [], laidByText := true, laidKinds := [.data, .data, .data, .data, .sentinel, .sentinel, .data, .pinned], laidTests := true, laidLooks := .later }
def ParseQueriesUptoCardSaid : Prop := Claim7.holds Tryz.pinned (.plain (OpenSpec.upto parseQueriesSpec)) parseQueriesUptoCard

/-- THE SECOND FORM's CARD OF 'firkinlaw19.ParseWhere'. -/
def parseWhereUptoCard : Claim7 := { stood := { row := parseWhereUptoRow, standIns := [], harness := (true, "c95698ce69a7f5683b6962b33950b576eb76df4bec31990b40b66bb0629292fd"), looks := true }, kinds := [], alts := [], laidByText := true, laidKinds := [.data, .data, .data, .data, .sentinel, .sentinel, .data, .pinned], laidTests := true, laidLooks := .later }
def ParseWhereUptoCardSaid : Prop := Claim7.holds Tryz.pinned (.plain (OpenSpec.upto parseWhereSpec)) parseWhereUptoCard

/-- THE SECOND FORM's CARD OF 'firkinlaw19.ParseBack'. -/
def parseBackUptoCard : Claim7 := { stood := { row := parseBackUptoRow, standIns := [], harness := (true, "c95698ce69a7f5683b6962b33950b576eb76df4bec31990b40b66bb0629292fd"), looks := true }, kinds := [], alts := [], laidByText := true, laidKinds := [.data, .data, .data, .data, .sentinel, .sentinel, .data, .pinned], laidTests := true, laidLooks := .later }
def ParseBackUptoCardSaid : Prop := Claim7.holds Tryz.pinned (.plain (OpenSpec.upto parseBackSpec)) parseBackUptoCard
end Rows
end Go.Proofs.YtipgaafgnefmdaaGreatDoor
