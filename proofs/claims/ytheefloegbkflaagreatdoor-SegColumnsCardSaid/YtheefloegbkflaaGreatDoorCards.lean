/-
  DERIVED. GIVEN WITH THE SEED: THE CARDS: each row of YtheefloegbkflaaGreatDoorRows.lean that lists a variable, with what it lists TIED to the program's text (the seventh form; the later family's looks); each row that meets fmt, with fmt's text TOLD by the authors' own Lean function (tested against real Go, not proved from fmt's source: count such statements apart). THE CARD IS WHAT COUNTS. Prove the row's statement (the work); the ties are given (YtheefloegbkflaaGreatDoorTie.lean); close each card by the builder's one call (the guide's Derived/Test/ToyasCard.lean, 'card_holds'). Laid BY PROGRAM, IN A SANDBOX (cutbox-door.mjs). By AI agents, Wed Nov 11 2026. No macro, syntax, notation, axiom, sorry.
-/
import Derived.Test.YtheefloegbkflaaGreatDoorRows
import GoSem.ClaimSeven
namespace Go.Proofs.YtheefloegbkflaaGreatDoor
namespace Rows

/-- THE TIED CARD OF 'firkinlaw13.SegBuilds'. -/
def segBuildsCard : Claim7 := { stood := { row := segBuildsRow, standIns := [], harness := (true, "ae404f318d7ddaabdbd438b7458ff9cce85746e54a3c6bb4cf892e3cc31bb8aa"), looks := false }, kinds := [], alts := [], laidByText := true, laidKinds := [.data], laidTests := true, laidLooks := .later }
def SegBuildsCardSaid : Prop := Claim7.holds Tryz.pinned (.plain (OpenSpec.ofChange segBuildsSpec)) segBuildsCard

/-- THE TIED CARD OF 'firkinlaw13.SegReads'. -/
def segReadsCard : Claim7 := { stood := { row := segReadsRow, standIns := [], harness := (true, "ae404f318d7ddaabdbd438b7458ff9cce85746e54a3c6bb4cf892e3cc31bb8aa"), looks := false }, kinds := [], alts := [], laidByText := true, laidKinds := [.data], laidTests := true, laidLooks := .later }
def SegReadsCardSaid : Prop := Claim7.holds Tryz.pinned (.plain (OpenSpec.ofChange segReadsSpec)) segReadsCard

/-- THE TIED CARD OF 'firkinlaw13.SegColumns'. -/
def segColumnsCard : Claim7 := { stood := { row := segColumnsRow, standIns := [], harness := (true, "ae404f318d7ddaabdbd438b7458ff9cce85746e54a3c6bb4cf892e3cc31bb8aa"), looks := false }, kinds := [], alts := [], laidByText := true, laidKinds := [.data], laidTests := true, laidLooks := .later }
def SegColumnsCardSaid : Prop := Claim7.holds Tryz.pinned (.plain (OpenSpec.ofChange segColumnsSpec)) segColumnsCard

/-- THE SECOND FORM's CARD OF 'firkinlaw13.SegBuilds'. -/
def segBuildsUptoCard : Claim7 := { stood := { row := segBuildsUptoRow, standIns := [], harness := (true, "ae404f318d7ddaabdbd438b7458ff9cce85746e54a3c6bb4cf892e3cc31bb8aa"), looks := false }, kinds := [], alts := [], laidByText := true, laidKinds := [.data], laidTests := true, laidLooks := .later }
def SegBuildsUptoCardSaid : Prop := Claim7.holds Tryz.pinned (.plain (OpenSpec.upto segBuildsSpec)) segBuildsUptoCard

/-- THE SECOND FORM's CARD OF 'firkinlaw13.SegReads'. -/
def segReadsUptoCard : Claim7 := { stood := { row := segReadsUptoRow, standIns := [], harness := (true, "ae404f318d7ddaabdbd438b7458ff9cce85746e54a3c6bb4cf892e3cc31bb8aa"), looks := false }, kinds := [], alts := [], laidByText := true, laidKinds := [.data], laidTests := true, laidLooks := .later }
def SegReadsUptoCardSaid : Prop := Claim7.holds Tryz.pinned (.plain (OpenSpec.upto segReadsSpec)) segReadsUptoCard

/-- THE SECOND FORM's CARD OF 'firkinlaw13.SegColumns'. -/
def segColumnsUptoCard : Claim7 := { stood := { row := segColumnsUptoRow, standIns := [], harness := (true, "ae404f318d7ddaabdbd438b7458ff9cce85746e54a3c6bb4cf892e3cc31bb8aa"), looks := false }, kinds := [], alts := [], laidByText := true, laidKinds := [.data], laidTests := true, laidLooks := .later }
def SegColumnsUptoCardSaid : Prop := Claim7.holds Tryz.pinned (.plain (OpenSpec.upto segColumnsSpec)) segColumnsUptoCard
end Rows
end Go.Proofs.YtheefloegbkflaaGreatDoor
