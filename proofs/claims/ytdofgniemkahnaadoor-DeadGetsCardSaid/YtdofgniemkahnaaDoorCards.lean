/-
  DERIVED. GIVEN WITH THE SEED: THE CARDS: each row of YtdofgniemkahnaaDoorRows.lean that lists a variable, with what it lists TIED to the program's text (the seventh form; the later family's looks); each row that meets fmt, with fmt's text TOLD by the authors' own Lean function (tested against real Go, not proved from fmt's source: count such statements apart). THE CARD IS WHAT COUNTS. Prove the row's statement (the work); the ties are given (YtdofgniemkahnaaDoorTie.lean); close each card by the builder's one call (the guide's Derived/Test/ToyasCard.lean, 'card_holds'). Laid BY PROGRAM, IN A SANDBOX (cutbox-door.mjs). By AI agents, Wed Nov 11 2026. No macro, syntax, notation, axiom, sorry.
-/
import Derived.Test.YtdofgniemkahnaaDoorRows
import GoSem.ClaimSeven
namespace Go.Proofs.YtdofgniemkahnaaDoor
namespace Rows

/-- THE TIED CARD OF 'firkinlaw14.DeadPuts'. -/
def deadPutsCard : Claim7 := { stood := { row := deadPutsRow, standIns := [], harness := (true, "804e60318b991429c1d66680e50a2409c4d169041cab09ff50065b51c0a6c2ac"), looks := false }, kinds := [], alts := [], laidByText := true, laidKinds := [.data], laidTests := true, laidLooks := .later }
def DeadPutsCardSaid : Prop := Claim7.holds Tryd.pinned (.plain (OpenSpec.ofChange deadPutsSpec)) deadPutsCard

/-- THE TIED CARD OF 'firkinlaw14.DeadGets'. -/
def deadGetsCard : Claim7 := { stood := { row := deadGetsRow, standIns := [], harness := (true, "804e60318b991429c1d66680e50a2409c4d169041cab09ff50065b51c0a6c2ac"), looks := false }, kinds := [], alts := [], laidByText := true, laidKinds := [.data], laidTests := true, laidLooks := .later }
def DeadGetsCardSaid : Prop := Claim7.holds Tryd.pinned (.plain (OpenSpec.ofChange deadGetsSpec)) deadGetsCard

/-- THE TIED CARD OF 'firkinlaw14.DeadMore'. -/
def deadMoreCard : Claim7 := { stood := { row := deadMoreRow, standIns := [], harness := (true, "804e60318b991429c1d66680e50a2409c4d169041cab09ff50065b51c0a6c2ac"), looks := false }, kinds := [], alts := [], laidByText := true, laidKinds := [.data], laidTests := true, laidLooks := .later }
def DeadMoreCardSaid : Prop := Claim7.holds Tryd.pinned (.plain (OpenSpec.ofChange deadMoreSpec)) deadMoreCard

/-- THE SECOND FORM's CARD OF 'firkinlaw14.DeadPuts'. -/
def deadPutsUptoCard : Claim7 := { stood := { row := deadPutsUptoRow, standIns := [], harness := (true, "804e60318b991429c1d66680e50a2409c4d169041cab09ff50065b51c0a6c2ac"), looks := false }, kinds := [], alts := [], laidByText := true, laidKinds := [.data], laidTests := true, laidLooks := .later }
def DeadPutsUptoCardSaid : Prop := Claim7.holds Tryd.pinned (.plain (OpenSpec.upto deadPutsSpec)) deadPutsUptoCard

/-- THE SECOND FORM's CARD OF 'firkinlaw14.DeadGets'. -/
def deadGetsUptoCard : Claim7 := { stood := { row := deadGetsUptoRow, standIns := [], harness := (true, "804e60318b991429c1d66680e50a2409c4d169041cab09ff50065b51c0a6c2ac"), looks := false }, kinds := [], alts := [], laidByText := true, laidKinds := [.data], laidTests := true, laidLooks := .later }
def DeadGetsUptoCardSaid : Prop := Claim7.holds Tryd.pinned (.plain (OpenSpec.upto deadGetsSpec)) deadGetsUptoCard

/-- THE SECOND FORM's CARD OF 'firkinlaw14.DeadMore'. -/
def deadMoreUptoCard : Claim7 := { stood := { row := deadMoreUptoRow, standIns := [], harness := (true, "804e60318b991429c1d66680e50a2409c4d169041cab09ff50065b51c0a6c2ac"), looks := false }, kinds := [], alts := [], laidByText := true, laidKinds := [.data], laidTests := true, laidLooks := .later }
def DeadMoreUptoCardSaid : Prop := Claim7.holds Tryd.pinned (.plain (OpenSpec.upto deadMoreSpec)) deadMoreUptoCard
end Rows
end Go.Proofs.YtdofgniemkahnaaDoor
