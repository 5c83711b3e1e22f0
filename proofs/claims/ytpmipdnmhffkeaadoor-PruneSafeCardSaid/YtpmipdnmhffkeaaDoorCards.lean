/-
  DERIVED. GIVEN WITH THE SEED: THE CARDS: each row of YtpmipdnmhffkeaaDoorRows.lean that lists a variable, with what it lists TIED to the program's text (the seventh form; the later family's looks); each row that meets fmt, with fmt's text TOLD by the authors' own Lean function (tested against real Go, not proved from fmt's source: count such statements apart). THE CARD IS WHAT COUNTS. Prove the row's statement (the work); the ties are given (YtpmipdnmhffkeaaDoorTie.lean); close each card by the builder's one call (the guide's Derived/Test/ToyasCard.lean, 'card_holds'). Laid BY PROGRAM, IN A SANDBOX (cutbox-door.mjs). By AI agents, Wed Nov 11 2026. No macro, syntax, notation, axiom, sorry.
-/
import Derived.Test.YtpmipdnmhffkeaaDoorRows
import GoSem.ClaimSeven
namespace Go.Proofs.YtpmipdnmhffkeaaDoor
namespace Rows

/-- THE TIED CARD OF 'firkinlaw21.PruneAsks'. -/
def pruneAsksCard : Claim7 := { stood := { row := pruneAsksRow, standIns := [], harness := (true, "3212f0c226e66b6a62b965808a77f9e3c3c3af0e51075509954efca7e70a104d"), looks := false }, kinds := [], alts := [], laidByText := true, laidKinds := [.data], laidTests := true, laidLooks := .later }
def PruneAsksCardSaid : Prop := Claim7.holds Tryd.pinned (.plain (OpenSpec.ofChange pruneAsksSpec)) pruneAsksCard

/-- THE TIED CARD OF 'firkinlaw21.PruneSafe'. -/
def pruneSafeCard : Claim7 := { stood := { row := pruneSafeRow, standIns := [], harness := (true, "3212f0c226e66b6a62b965808a77f9e3c3c3af0e51075509954efca7e70a104d"), looks := false }, kinds := [], alts := [], laidByText := true, laidKinds := [.data], laidTests := true, laidLooks := .later }
def PruneSafeCardSaid : Prop := Claim7.holds Tryd.pinned (.plain (OpenSpec.ofChange pruneSafeSpec)) pruneSafeCard

/-- THE TIED CARD OF 'firkinlaw21.PruneNot'. -/
def pruneNotCard : Claim7 := { stood := { row := pruneNotRow, standIns := [], harness := (true, "3212f0c226e66b6a62b965808a77f9e3c3c3af0e51075509954efca7e70a104d"), looks := false }, kinds := [], alts := [], laidByText := true, laidKinds := [.data], laidTests := true, laidLooks := .later }
def PruneNotCardSaid : Prop := Claim7.holds Tryd.pinned (.plain (OpenSpec.ofChange pruneNotSpec)) pruneNotCard

/-- THE SECOND FORM's CARD OF 'firkinlaw21.PruneAsks'. -/
def pruneAsksUptoCard : Claim7 := { stood := { row := pruneAsksUptoRow, standIns := [], harness := (true, "3212f0c226e66b6a62b965808a77f9e3c3c3af0e51075509954efca7e70a104d"), looks := false }, kinds := [], alts := [], laidByText := true, laidKinds := [.data], laidTests := true, laidLooks := .later }
def PruneAsksUptoCardSaid : Prop := Claim7.holds Tryd.pinned (.plain (OpenSpec.upto pruneAsksSpec)) pruneAsksUptoCard

/-- THE SECOND FORM's CARD OF 'firkinlaw21.PruneSafe'. -/
def pruneSafeUptoCard : Claim7 := { stood := { row := pruneSafeUptoRow, standIns := [], harness := (true, "3212f0c226e66b6a62b965808a77f9e3c3c3af0e51075509954efca7e70a104d"), looks := false }, kinds := [], alts := [], laidByText := true, laidKinds := [.data], laidTests := true, laidLooks := .later }
def PruneSafeUptoCardSaid : Prop := Claim7.holds Tryd.pinned (.plain (OpenSpec.upto pruneSafeSpec)) pruneSafeUptoCard

/-- THE SECOND FORM's CARD OF 'firkinlaw21.PruneNot'. -/
def pruneNotUptoCard : Claim7 := { stood := { row := pruneNotUptoRow, standIns := [], harness := (true, "3212f0c226e66b6a62b965808a77f9e3c3c3af0e51075509954efca7e70a104d"), looks := false }, kinds := [], alts := [], laidByText := true, laidKinds := [.data], laidTests := true, laidLooks := .later }
def PruneNotUptoCardSaid : Prop := Claim7.holds Tryd.pinned (.plain (OpenSpec.upto pruneNotSpec)) pruneNotUptoCard
end Rows
end Go.Proofs.YtpmipdnmhffkeaaDoor
