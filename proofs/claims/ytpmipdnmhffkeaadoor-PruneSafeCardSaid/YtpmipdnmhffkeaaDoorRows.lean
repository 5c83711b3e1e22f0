/-
  NARROWER THAN 'FOR EVERY INPUT', by the rows' own cells (each row's printed sentence says how): PruneAsks: loops, laid · PruneSafe: loops, laid · PruneNot: loops, laid.
  DERIVED. THE GIVEN ROWS OF THIS SEAT. 3 by the template 'for every input the law returns true; each argument reads behind the call as it read before'; 0 by the template 'total and deterministic' (their statements: YtpmipdnmhffkeaaDoorTotals.lean).
  GIVEN WITH THE SEED: the statements are not yours to turn. If you find one false, say at which input.
  Laid BY PROGRAM, IN A SANDBOX (cutbox-rows.mjs): the forced cells as the released guide's own fill.sh prints them over the translation ea4391c77111bc89… (all of the seat's roots in one cut). By AI agents, Wed Nov 11 2026. No macro, syntax, notation, axiom, sorry.
-/
import Derived.Test.YtpmipdnmhffkeaaDoorChecked
import GoSem.Claim
import GoSem.ClaimJoined
import GoSem.ClaimMapViews
import Derived.JoinedTies
import Derived.KernelRfl
namespace Go.Proofs.YtpmipdnmhffkeaaDoor
/- THE CELL 'sum', in the pinned program and in every row, IS THE sha256 OF THE DUMP (.gsa) THAT YtpmipdnmhffkeaaDoorProg.lean LOADS. Nothing in Lean hashes anything: it is a label: what it is worth is what the hold of that sum in a sandbox is worth. -/
noncomputable def Tryd.pinned : Pinned := { name := "ytpmipdnmhffkeaadoor", sum := "ea4391c77111bc8942d44c815cf4ac1d5b4b9f7f669b202c636e9ea6504375a3", checked := Tryd.checked }
namespace Rows
def none {H : Type} : Left H := { results := [], args := [] }

/- WHAT THE LISTED PACKAGE-LEVEL VARIABLES READ AS WHEN THE CALL BEGINS. Each datum BY PROGRAM (the guide's laid-datum.mjs) off the statement by which the dump's own 'gosem.cut.vars' lays the variable. In a bare row this is a premise. The card (YtpmipdnmhffkeaaDoorCards.lean) ties it to the program's text. -/
def laid_firkin_prune_opposites {H : Type} : DataW H := .agg [.lit (.int .i64 0), .lit (.int .i64 2), .lit (.int .i64 1), .lit (.int .i64 6), .lit (.int .i64 5), .lit (.int .i64 4), .lit (.int .i64 3)]

/-- 'firkinlaw21.PruneAsks': WHATEVER THE INPUT: true; the input reads as it did. -/
def pruneAsksSpec : ChangeSpec := { name := "pruneAsks", fn := fun _ => fun
  | [d1, d2, d3] => { results := [.lit (.bool true)], args := [d1, d2, d3] }
  | _ => none }
def pruneAsksRow : OpenClaim := { program := "ytpmipdnmhffkeaadoor", sum := "ea4391c77111bc8942d44c815cf4ac1d5b4b9f7f669b202c636e9ea6504375a3", func := "firkin/firkinlaw21.PruneAsks", spec := "pruneAsks", unfollowed := true, recurses := true, named := ["firkin/prune.opposites"], loops := true, apart := false, laid := [("firkin/prune.opposites", laid_firkin_prune_opposites)] }
def PruneAsksSaid : Prop := pruneAsksRow.holds Tryd.pinned (OpenSpec.ofChange pruneAsksSpec)

/-- ITS FALSE NEIGHBOUR: 'it returns false'. Refute it at one input. -/
def pruneAsksWrong : ChangeSpec := { name := "pruneAsks", fn := fun _ => fun
  | [d1, d2, d3] => { results := [.lit (.bool false)], args := [d1, d2, d3] }
  | _ => none }
def PruneAsksWrongFalsely : Prop := pruneAsksRow.holds Tryd.pinned (OpenSpec.ofChange pruneAsksWrong)

/-- 'firkinlaw21.PruneSafe': WHATEVER THE INPUT: true; the input reads as it did. -/
def pruneSafeSpec : ChangeSpec := { name := "pruneSafe", fn := fun _ => fun
  | [d1, d2, d3] => { results := [.lit (.bool true)], args := [d1, d2, d3] }
  | _ => none }
def pruneSafeRow : OpenClaim := { program := "ytpmipdnmhffkeaadoor", sum := "ea4391c77111bc8942d44c815cf4ac1d5b4b9f7f669b202c636e9ea6504375a3", func := "firkin/firkinlaw21.PruneSafe", spec := "pruneSafe", unfollowed := true, recurses := true, named := ["firkin/prune.opposites"], loops := true, apart := false, laid := [("firkin/prune.opposites", laid_firkin_prune_opposites)] }
def PruneSafeSaid : Prop := pruneSafeRow.holds Tryd.pinned (OpenSpec.ofChange pruneSafeSpec)

/-- ITS FALSE NEIGHBOUR: 'it returns false'. Refute it at one input. -/
def pruneSafeWrong : ChangeSpec := { name := "pruneSafe", fn := fun _ => fun
  | [d1, d2, d3] => { results := [.lit (.bool false)], args := [d1, d2, d3] }
  | _ => none }
def PruneSafeWrongFalsely : Prop := pruneSafeRow.holds Tryd.pinned (OpenSpec.ofChange pruneSafeWrong)

/-- 'firkinlaw21.PruneNot': WHATEVER THE INPUT: true; the input reads as it did. -/
def pruneNotSpec : ChangeSpec := { name := "pruneNot", fn := fun _ => fun
  | [d1, d2, d3] => { results := [.lit (.bool true)], args := [d1, d2, d3] }
  | _ => none }
def pruneNotRow : OpenClaim := { program := "ytpmipdnmhffkeaadoor", sum := "ea4391c77111bc8942d44c815cf4ac1d5b4b9f7f669b202c636e9ea6504375a3", func := "firkin/firkinlaw21.PruneNot", spec := "pruneNot", unfollowed := true, recurses := true, named := ["firkin/prune.opposites"], loops := true, apart := false, laid := [("firkin/prune.opposites", laid_firkin_prune_opposites)] }
def PruneNotSaid : Prop := pruneNotRow.holds Tryd.pinned (OpenSpec.ofChange pruneNotSpec)

/-- ITS FALSE NEIGHBOUR: 'it returns false'. Refute it at one input. -/
def pruneNotWrong : ChangeSpec := { name := "pruneNot", fn := fun _ => fun
  | [d1, d2, d3] => { results := [.lit (.bool false)], args := [d1, d2, d3] }
  | _ => none }
def PruneNotWrongFalsely : Prop := pruneNotRow.holds Tryd.pinned (OpenSpec.ofChange pruneNotWrong)

/- THE SECOND FORM. 'bulk': how many values and letters a reading holds, each counted each time it is reached (what is shared counts as often as it is met; a slice's spare places count too). A statement '..UptoSaid' is the law's where the arguments, and the package variables that the reading takes, are together of bulk at most 1048576: NARROWER than '..Said'. Prove '..Said' where nothing that the law and all that it calls make is longer than what came in: it says more and counts as full. Else prove '..UptoSaid'. A law counts once. -/
mutual
def uptoBulk {H : Type} : DataW H → Nat
  | .lit (.string bytes) => bytes.length + 1
  | .lit _ => 1
  | .nil => 1
  | .ptr d => uptoBulk d + 1
  | .slice elems spare => uptoBulkAll elems + uptoBulkAll spare + 1
  | .agg parts => uptoBulkAll parts + 1
  | .iface _ d => uptoBulk d + 1
  | .map entries => uptoBulkEntries entries + 1
  | .held _ => 1
def uptoBulkAll {H : Type} : List (DataW H) → Nat
  | [] => 0
  | d :: r => uptoBulk d + uptoBulkAll r
def uptoBulkEntries {H : Type} : List (Lit × DataW H) → Nat
  | [] => 0
  | x :: r => uptoBulkEntry x + uptoBulkEntries r
def uptoBulkEntry {H : Type} : Lit × DataW H → Nat
  | (.string bytes, d) => bytes.length + uptoBulk d + 1
  | (_, d) => uptoBulk d + 1
 end
def uptoSmall : (H : Type) → List (DataW H) → Bool := fun _ ds => decide (uptoBulkAll ds ≤ 1048576)
def OpenSpec.upto (s : _root_.Go.ChangeSpec) : _root_.Go.OpenSpec := { _root_.Go.OpenSpec.ofChange s with cond := some uptoSmall }

/-- 'firkinlaw21.PruneAsks', WHERE WHAT IT READS IS OF BULK AT MOST 1048576: true; the input reads as it did. -/
def pruneAsksUptoRow : OpenClaim := { program := "ytpmipdnmhffkeaadoor", sum := "ea4391c77111bc8942d44c815cf4ac1d5b4b9f7f669b202c636e9ea6504375a3", func := "firkin/firkinlaw21.PruneAsks", spec := "pruneAsks", unfollowed := true, recurses := true, named := ["firkin/prune.opposites"], loops := true, apart := false, laid := [("firkin/prune.opposites", laid_firkin_prune_opposites)], narrowed := true }
def PruneAsksUptoSaid : Prop := pruneAsksUptoRow.holds Tryd.pinned (OpenSpec.upto pruneAsksSpec)

/-- 'firkinlaw21.PruneSafe', WHERE WHAT IT READS IS OF BULK AT MOST 1048576: true; the input reads as it did. -/
def pruneSafeUptoRow : OpenClaim := { program := "ytpmipdnmhffkeaadoor", sum := "ea4391c77111bc8942d44c815cf4ac1d5b4b9f7f669b202c636e9ea6504375a3", func := "firkin/firkinlaw21.PruneSafe", spec := "pruneSafe", unfollowed := true, recurses := true, named := ["firkin/prune.opposites"], loops := true, apart := false, laid := [("firkin/prune.opposites", laid_firkin_prune_opposites)], narrowed := true }
def PruneSafeUptoSaid : Prop := pruneSafeUptoRow.holds Tryd.pinned (OpenSpec.upto pruneSafeSpec)

/-- 'firkinlaw21.PruneNot', WHERE WHAT IT READS IS OF BULK AT MOST 1048576: true; the input reads as it did. -/
def pruneNotUptoRow : OpenClaim := { program := "ytpmipdnmhffkeaadoor", sum := "ea4391c77111bc8942d44c815cf4ac1d5b4b9f7f669b202c636e9ea6504375a3", func := "firkin/firkinlaw21.PruneNot", spec := "pruneNot", unfollowed := true, recurses := true, named := ["firkin/prune.opposites"], loops := true, apart := false, laid := [("firkin/prune.opposites", laid_firkin_prune_opposites)], narrowed := true }
def PruneNotUptoSaid : Prop := pruneNotUptoRow.holds Tryd.pinned (OpenSpec.upto pruneNotSpec)

end Rows
end Go.Proofs.YtpmipdnmhffkeaaDoor
