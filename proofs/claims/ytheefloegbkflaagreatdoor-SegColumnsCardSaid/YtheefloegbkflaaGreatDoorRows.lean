/-
  NARROWER THAN 'FOR EVERY INPUT', by the rows' own cells (each row's printed sentence says how): SegBuilds: laid · SegReads: laid · SegColumns: laid.
  DERIVED. THE GIVEN ROWS OF THIS SEAT. 3 by the template 'for every input the law returns true; each argument reads behind the call as it read before'; 0 by the template 'total and deterministic' (their statements: YtheefloegbkflaaGreatDoorTotals.lean).
  GIVEN WITH THE SEED: the statements are not yours to turn. If you find one false, say at which input.
  Laid BY PROGRAM, IN A SANDBOX (cutbox-rows.mjs): the forced cells as the released guide's own fill.sh prints them over the translation 9c84eef5126982a3… (all of the seat's roots in one cut). By AI agents, Wed Nov 11 2026. No macro, syntax, notation, axiom, sorry.
-/
import Derived.Test.YtheefloegbkflaaGreatDoorChecked
import GoSem.Claim
import GoSem.ClaimJoined
import GoSem.ClaimMapViews
import Derived.JoinedTies
import Derived.KernelRfl
namespace Go.Proofs.YtheefloegbkflaaGreatDoor
/- THE CELL 'sum', in the pinned program and in every row, IS THE sha256 OF THE DUMP (.gsa) THAT YtheefloegbkflaaGreatDoorProg.lean LOADS. Nothing in Lean hashes anything: it is a label: what it is worth is what the hold of that sum in a sandbox is worth. -/
noncomputable def Tryz.pinned : Pinned := { name := "ytheefloegbkflaagreatdoor", sum := "9c84eef5126982a35e802521fc758b5734565dba8f508e33d0c228b539961ece", checked := Tryz.checked }
namespace Rows
def none {H : Type} : Left H := { results := [], args := [] }

/- WHAT THE LISTED PACKAGE-LEVEL VARIABLES READ AS WHEN THE CALL BEGINS. Each datum BY PROGRAM (the guide's laid-datum.mjs) off the statement by which the dump's own 'gosem.cut.vars' lays the variable. In a bare row this is a premise. The card (YtheefloegbkflaaGreatDoorCards.lean) ties it to the program's text. -/
def laid_firkin_crc_halves {H : Type} : DataW H := .agg [.lit (.int .u32 0), .lit (.int .u32 274646895), .lit (.int .u32 549293790), .lit (.int .u32 820201905), .lit (.int .u32 1098587580), .lit (.int .u32 1361435347), .lit (.int .u32 1640403810), .lit (.int .u32 1905808397), .lit (.int .u32 2197175160), .lit (.int .u32 2460548119), .lit (.int .u32 2722870694), .lit (.int .u32 2987750089), .lit (.int .u32 3280807620), .lit (.int .u32 3553878443), .lit (.int .u32 3811616794), .lit (.int .u32 4084100981)]

/-- 'firkinlaw13.SegBuilds': WHATEVER THE INPUT: true; the input reads as it did. -/
def segBuildsSpec : ChangeSpec := { name := "segBuilds", fn := fun _ => fun
  | [d1, d2] => { results := [.lit (.bool true)], args := [d1, d2] }
  | _ => none }
def segBuildsRow : OpenClaim := { program := "ytheefloegbkflaagreatdoor", sum := "9c84eef5126982a35e802521fc758b5734565dba8f508e33d0c228b539961ece", func := "firkin/firkinlaw13.SegBuilds", spec := "segBuilds", unfollowed := true, recurses := true, named := ["firkin/crc.halves"], apart := false, laid := [("firkin/crc.halves", laid_firkin_crc_halves)] }
def SegBuildsSaid : Prop := segBuildsRow.holds Tryz.pinned (OpenSpec.ofChange segBuildsSpec)

/-- ITS FALSE NEIGHBOUR: 'it returns false'. Refute it at one input. -/
def segBuildsWrong : ChangeSpec := { name := "segBuilds", fn := fun _ => fun
  | [d1, d2] => { results := [.lit (.bool false)], args := [d1, d2] }
  | _ => none }
def SegBuildsWrongFalsely : Prop := segBuildsRow.holds Tryz.pinned (OpenSpec.ofChange segBuildsWrong)

/-- 'firkinlaw13.SegReads': WHATEVER THE INPUT: true; the input reads as it did. -/
def segReadsSpec : ChangeSpec := { name := "segReads", fn := fun _ => fun
  | [d1, d2, d3] => { results := [.lit (.bool true)], args := [d1, d2, d3] }
  | _ => none }
def segReadsRow : OpenClaim := { program := "ytheefloegbkflaagreatdoor", sum := "9c84eef5126982a35e802521fc758b5734565dba8f508e33d0c228b539961ece", func := "firkin/firkinlaw13.SegReads", spec := "segReads", unfollowed := true, recurses := true, named := ["firkin/crc.halves"], apart := false, laid := [("firkin/crc.halves", laid_firkin_crc_halves)] }
def SegReadsSaid : Prop := segReadsRow.holds Tryz.pinned (OpenSpec.ofChange segReadsSpec)

/-- ITS FALSE NEIGHBOUR: 'it returns false'. Refute it at one input. -/
def segReadsWrong : ChangeSpec := { name := "segReads", fn := fun _ => fun
  | [d1, d2, d3] => { results := [.lit (.bool false)], args := [d1, d2, d3] }
  | _ => none }
def SegReadsWrongFalsely : Prop := segReadsRow.holds Tryz.pinned (OpenSpec.ofChange segReadsWrong)

/-- 'firkinlaw13.SegColumns': WHATEVER THE INPUT: true; the input reads as it did. -/
def segColumnsSpec : ChangeSpec := { name := "segColumns", fn := fun _ => fun
  | [d1, d2, d3] => { results := [.lit (.bool true)], args := [d1, d2, d3] }
  | _ => none }
def segColumnsRow : OpenClaim := { program := "ytheefloegbkflaagreatdoor", sum := "9c84eef5126982a35e802521fc758b5734565dba8f508e33d0c228b539961ece", func := "firkin/firkinlaw13.SegColumns", spec := "segColumns", unfollowed := true, recurses := true, named := ["firkin/crc.halves"], apart := false, laid := [("firkin/crc.halves", laid_firkin_crc_halves)] }
def SegColumnsSaid : Prop := segColumnsRow.holds Tryz.pinned (OpenSpec.ofChange segColumnsSpec)

/-- ITS FALSE NEIGHBOUR: 'it returns false'. Refute it at one input. -/
def segColumnsWrong : ChangeSpec := { name := "segColumns", fn := fun _ => fun
  | [d1, d2, d3] => { results := [.lit (.bool false)], args := [d1, d2, d3] }
  | _ => none }
def SegColumnsWrongFalsely : Prop := segColumnsRow.holds Tryz.pinned (OpenSpec.ofChange segColumnsWrong)

/- THE SECOND FORM. 'bulk': how many values and letters a reading holds, each counted each time it is reached (what is shared counts as often as it is met; a slice's spare places count too). A statement '..UptoSaid' is the law's where the arguments, and the package variables that the reading takes, are together of bulk at most 1048576: NARROWER than '..Said'. Prove '..Said' where nothing that the law and all that it calls make is longer than what came in: it says more and counts as full. Else prove '..UptoSaid'. A law counts once. -/
mutual
def uptoBulk {H : Type} : DataW H → Nat
  | .lit (.string bytes) => bytes.length + 1
  | .lit _ => 1
  | .nil => 1
  | .ptr d => uptoBulk d + 1
  | .slice elems spare => uptoBulkAll elems + uptoBulkAll spare + 1
  | .agg parts => uptoBulkAll parts + 1
  | .iface _ d => uptoBulk d + 1
  | .map entries => uptoBulkEntries entries + 1
  | .held _ => 1
def uptoBulkAll {H : Type} : List (DataW H) → Nat
  | [] => 0
  | d :: r => uptoBulk d + uptoBulkAll r
def uptoBulkEntries {H : Type} : List (Lit × DataW H) → Nat
  | [] => 0
  | x :: r => uptoBulkEntry x + uptoBulkEntries r
def uptoBulkEntry {H : Type} : Lit × DataW H → Nat
  | (.string bytes, d) => bytes.length + uptoBulk d + 1
  | (_, d) => uptoBulk d + 1
 end
def uptoSmall : (H : Type) → List (DataW H) → Bool := fun _ ds => decide (uptoBulkAll ds ≤ 1048576)
def OpenSpec.upto (s : _root_.Go.ChangeSpec) : _root_.Go.OpenSpec := { _root_.Go.OpenSpec.ofChange s with cond := some uptoSmall }

/-- 'firkinlaw13.SegBuilds', WHERE WHAT IT READS IS OF BULK AT MOST 1048576: true; the input reads as it did. -/
def segBuildsUptoRow : OpenClaim := { program := "ytheefloegbkflaagreatdoor", sum := "9c84eef5126982a35e802521fc758b5734565dba8f508e33d0c228b539961ece", func := "firkin/firkinlaw13.SegBuilds", spec := "segBuilds", unfollowed := true, recurses := true, named := ["firkin/crc.halves"], apart := false, laid := [("firkin/crc.halves", laid_firkin_crc_halves)], narrowed := true }
def SegBuildsUptoSaid : Prop := segBuildsUptoRow.holds Tryz.pinned (OpenSpec.upto segBuildsSpec)

/-- 'firkinlaw13.SegReads', WHERE WHAT IT READS IS OF BULK AT MOST 1048576: true; the input reads as it did. -/
def segReadsUptoRow : OpenClaim := { program := "ytheefloegbkflaagreatdoor", sum := "9c84eef5126982a35e802521fc758b5734565dba8f508e33d0c228b539961ece", func := "firkin/firkinlaw13.SegReads", spec := "segReads", unfollowed := true, recurses := true, named := ["firkin/crc.halves"], apart := false, laid := [("firkin/crc.halves", laid_firkin_crc_halves)], narrowed := true }
def SegReadsUptoSaid : Prop := segReadsUptoRow.holds Tryz.pinned (OpenSpec.upto segReadsSpec)

/-- 'firkinlaw13.SegColumns', WHERE WHAT IT READS IS OF BULK AT MOST 1048576: true; the input reads as it did. -/
def segColumnsUptoRow : OpenClaim := { program := "ytheefloegbkflaagreatdoor", sum := "9c84eef5126982a35e802521fc758b5734565dba8f508e33d0c228b539961ece", func := "firkin/firkinlaw13.SegColumns", spec := "segColumns", unfollowed := true, recurses := true, named := ["firkin/crc.halves"], apart := false, laid := [("firkin/crc.halves", laid_firkin_crc_halves)], narrowed := true }
def SegColumnsUptoSaid : Prop := segColumnsUptoRow.holds Tryz.pinned (OpenSpec.upto segColumnsSpec)

end Rows
end Go.Proofs.YtheefloegbkflaaGreatDoor
