/-
  NARROWER THAN 'FOR EVERY INPUT', by the rows' own cells (each row's printed sentence says how): GroupAnswers: loops · GroupTypes: loops · GroupCounts: loops.
  DERIVED. THE GIVEN ROWS OF THIS SEAT. 3 by the template 'for every input the law returns true; each argument reads behind the call as it read before'; 0 by the template 'total and deterministic' (their statements: YtjcfjjhhbcgcmaaGreatTotals.lean).
  GIVEN WITH THE SEED: the statements are not yours to turn. If you find one false, say at which input.
  Laid BY PROGRAM, IN A SANDBOX (cutbox-rows.mjs): the forced cells as the released guide's own fill.sh prints them over the translation 6cbc30c515bba0c7… (all of the seat's roots in one cut). By AI agents, Wed Nov 11 2026. No macro, syntax, notation, axiom, sorry.
-/
import Derived.Test.YtjcfjjhhbcgcmaaGreatChecked
import GoSem.Claim
import GoSem.ClaimJoined
import GoSem.ClaimMapViews
import Derived.JoinedTies
import Derived.KernelRfl
namespace Go.Proofs.YtjcfjjhhbcgcmaaGreat
/- THE CELL 'sum', in the pinned program and in every row, IS THE sha256 OF THE DUMP (.gsa) THAT YtjcfjjhhbcgcmaaGreatProg.lean LOADS. Nothing in Lean hashes anything: it is a label: what it is worth is what the hold of that sum in a sandbox is worth. -/
noncomputable def Tryz.pinned : Pinned := { name := "ytjcfjjhhbcgcmaagreat", sum := "6cbc30c515bba0c77eccbb8683c79151fa8b3c3d80032322bb6ce126bcfa8ab2", checked := Tryz.checked }
namespace Rows
def none {H : Type} : Left H := { results := [], args := [] }

/-- 'firkinlaw23.GroupAnswers': WHATEVER THE INPUT: true; the input reads as it did. -/
def groupAnswersSpec : ChangeSpec := { name := "groupAnswers", fn := fun _ => fun
  | [d1, d2, d3] => { results := [.lit (.bool true)], args := [d1, d2, d3] }
  | _ => none }
def groupAnswersRow : OpenClaim := { program := "ytjcfjjhhbcgcmaagreat", sum := "6cbc30c515bba0c77eccbb8683c79151fa8b3c3d80032322bb6ce126bcfa8ab2", func := "firkin/firkinlaw23.GroupAnswers", spec := "groupAnswers", unfollowed := true, recurses := true, loops := true, plainKeys := false, apart := false }
def GroupAnswersSaid : Prop := groupAnswersRow.holds Tryz.pinned (OpenSpec.ofChange groupAnswersSpec)

/-- ITS FALSE NEIGHBOUR: 'it returns false'. Refute it at one input. -/
def groupAnswersWrong : ChangeSpec := { name := "groupAnswers", fn := fun _ => fun
  | [d1, d2, d3] => { results := [.lit (.bool false)], args := [d1, d2, d3] }
  | _ => none }
def GroupAnswersWrongFalsely : Prop := groupAnswersRow.holds Tryz.pinned (OpenSpec.ofChange groupAnswersWrong)

/-- 'firkinlaw23.GroupTypes': WHATEVER THE INPUT: true; the input reads as it did. -/
def groupTypesSpec : ChangeSpec := { name := "groupTypes", fn := fun _ => fun
  | [d1, d2, d3] => { results := [.lit (.bool true)], args := [d1, d2, d3] }
  | _ => none }
def groupTypesRow : OpenClaim := { program := "ytjcfjjhhbcgcmaagreat", sum := "6cbc30c515bba0c77eccbb8683c79151fa8b3c3d80032322bb6ce126bcfa8ab2", func := "firkin/firkinlaw23.GroupTypes", spec := "groupTypes", unfollowed := true, recurses := true, loops := true, plainKeys := false, apart := false }
def GroupTypesSaid : Prop := groupTypesRow.holds Tryz.pinned (OpenSpec.ofChange groupTypesSpec)

/-- ITS FALSE NEIGHBOUR: 'it returns false'. Refute it at one input. -/
def groupTypesWrong : ChangeSpec := { name := "groupTypes", fn := fun _ => fun
  | [d1, d2, d3] => { results := [.lit (.bool false)], args := [d1, d2, d3] }
  | _ => none }
def GroupTypesWrongFalsely : Prop := groupTypesRow.holds Tryz.pinned (OpenSpec.ofChange groupTypesWrong)

/-- 'firkinlaw23.GroupCounts': WHATEVER THE INPUT: true; the input reads as it did. -/
def groupCountsSpec : ChangeSpec := { name := "groupCounts", fn := fun _ => fun
  | [d1, d2, d3] => { results := [.lit (.bool true)], args := [d1, d2, d3] }
  | _ => none }
def groupCountsRow : OpenClaim := { program := "ytjcfjjhhbcgcmaagreat", sum := "6cbc30c515bba0c77eccbb8683c79151fa8b3c3d80032322bb6ce126bcfa8ab2", func := "firkin/firkinlaw23.GroupCounts", spec := "groupCounts", unfollowed := true, recurses := true, loops := true, plainKeys := false, apart := false }
def GroupCountsSaid : Prop := groupCountsRow.holds Tryz.pinned (OpenSpec.ofChange groupCountsSpec)

/-- ITS FALSE NEIGHBOUR: 'it returns false'. Refute it at one input. -/
def groupCountsWrong : ChangeSpec := { name := "groupCounts", fn := fun _ => fun
  | [d1, d2, d3] => { results := [.lit (.bool false)], args := [d1, d2, d3] }
  | _ => none }
def GroupCountsWrongFalsely : Prop := groupCountsRow.holds Tryz.pinned (OpenSpec.ofChange groupCountsWrong)

/- THE SECOND FORM. 'bulk': how many values and letters a reading holds, each counted each time it is reached (what is shared counts as often as it is met; a slice's spare places count too). A statement '..UptoSaid' is the law's where the arguments, and the package variables that the reading takes, are together of bulk at most 1048576: NARROWER than '..Said'. Prove '..Said' where nothing that the law and all that it calls make is longer than what came in: it says more and counts as full. Else prove '..UptoSaid'. A law counts once. -/
mutual
def uptoBulk {H : Type} : DataW H → Nat
  | .lit (.string bytes) => bytes.length + 1
  | .lit _ => 1
  | .nil => 1
  | .ptr d => uptoBulk d + 1
  | .slice elems spare => uptoBulkAll elems + uptoBulkAll spare + 1
  | .agg parts => uptoBulkAll parts + 1
  | .iface _ d => uptoBulk d + 1
  | .map entries => uptoBulkEntries entries + 1
  | .held _ => 1
def uptoBulkAll {H : Type} : List (DataW H) → Nat
  | [] => 0
  | d :: r => uptoBulk d + uptoBulkAll r
def uptoBulkEntries {H : Type} : List (Lit × DataW H) → Nat
  | [] => 0
  | x :: r => uptoBulkEntry x + uptoBulkEntries r
def uptoBulkEntry {H : Type} : Lit × DataW H → Nat
  | (.string bytes, d) => bytes.length + uptoBulk d + 1
  | (_, d) => uptoBulk d + 1
 end
def uptoSmall : (H : Type) → List (DataW H) → Bool := fun _ ds => decide (uptoBulkAll ds ≤ 1048576)
def OpenSpec.upto (s : _root_.Go.ChangeSpec) : _root_.Go.OpenSpec := { _root_.Go.OpenSpec.ofChange s with cond := some uptoSmall }

/-- 'firkinlaw23.GroupAnswers', WHERE WHAT IT READS IS OF BULK AT MOST 1048576: true; the input reads as it did. -/
def groupAnswersUptoRow : OpenClaim := { program := "ytjcfjjhhbcgcmaagreat", sum := "6cbc30c515bba0c77eccbb8683c79151fa8b3c3d80032322bb6ce126bcfa8ab2", func := "firkin/firkinlaw23.GroupAnswers", spec := "groupAnswers", unfollowed := true, recurses := true, loops := true, plainKeys := false, apart := false, narrowed := true }
def GroupAnswersUptoSaid : Prop := groupAnswersUptoRow.holds Tryz.pinned (OpenSpec.upto groupAnswersSpec)

/-- 'firkinlaw23.GroupTypes', WHERE WHAT IT READS IS OF BULK AT MOST 1048576: true; the input reads as it did. -/
def groupTypesUptoRow : OpenClaim := { program := "ytjcfjjhhbcgcmaagreat", sum := "6cbc30c515bba0c77eccbb8683c79151fa8b3c3d80032322bb6ce126bcfa8ab2", func := "firkin/firkinlaw23.GroupTypes", spec := "groupTypes", unfollowed := true, recurses := true, loops := true, plainKeys := false, apart := false, narrowed := true }
def GroupTypesUptoSaid : Prop := groupTypesUptoRow.holds Tryz.pinned (OpenSpec.upto groupTypesSpec)

/-- 'firkinlaw23.GroupCounts', WHERE WHAT IT READS IS OF BULK AT MOST 1048576: true; the input reads as it did. -/
def groupCountsUptoRow : OpenClaim := { program := "ytjcfjjhhbcgcmaagreat", sum := "6cbc30c515bba0c77eccbb8683c79151fa8b3c3d80032322bb6ce126bcfa8ab2", func := "firkin/firkinlaw23.GroupCounts", spec := "groupCounts", unfollowed := true, recurses := true, loops := true, plainKeys := false, apart := false, narrowed := true }
def GroupCountsUptoSaid : Prop := groupCountsUptoRow.holds Tryz.pinned (OpenSpec.upto groupCountsSpec)

end Rows
end Go.Proofs.YtjcfjjhhbcgcmaaGreat
