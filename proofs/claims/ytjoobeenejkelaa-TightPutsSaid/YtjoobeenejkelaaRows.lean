/-
  No cell of these rows narrows 'for every input' (looked for: loops, veiled, ifaces, maps, wideKeys, modest, calm, conditions, laid).
  DERIVED. THE GIVEN ROWS OF THIS SEAT. 3 by the template 'for every input the law returns true; each argument reads behind the call as it read before'; 0 by the template 'total and deterministic' (their statements: YtjoobeenejkelaaTotals.lean).
  GIVEN WITH THE SEED: the statements are not yours to turn. If you find one false, say at which input.
  Laid BY PROGRAM, IN A SANDBOX (cutbox-rows.mjs): the forced cells as the released guide's own fill.sh prints them over the translation 7ef102c400f283e6… (all of the seat's roots in one cut). By AI agents, Wed Nov 11 2026. No macro, syntax, notation, axiom, sorry.
-/
import Derived.Test.YtjoobeenejkelaaChecked
import GoSem.Claim
import GoSem.ClaimJoined
import GoSem.ClaimMapViews
import Derived.JoinedTies
import Derived.KernelRfl
namespace Go.Proofs.Ytjoobeenejkelaa
/- THE CELL 'sum', in the pinned program and in every row, IS THE sha256 OF THE DUMP (.gsa) THAT YtjoobeenejkelaaProg.lean LOADS. Nothing in Lean hashes anything: it is a label: what it is worth is what the hold of that sum in a sandbox is worth. -/
noncomputable def Try.pinned : Pinned := { name := "ytjoobeenejkelaa", sum := "7ef102c400f283e6c174564de51ee26f2f5f6ae56f9ff886d28c6bf3dd0922f9", checked := Try.checked }
namespace Rows
def none {H : Type} : Left H := { results := [], args := [] }

/-- 'firkinlaw07.TightPuts': WHATEVER THE INPUT: true; the input reads as it did. -/
def tightPutsSpec : ChangeSpec := { name := "tightPuts", fn := fun _ => fun
  | [d] => { results := [.lit (.bool true)], args := [d] }
  | _ => none }
def tightPutsRow : OpenClaim := { program := "ytjoobeenejkelaa", sum := "7ef102c400f283e6c174564de51ee26f2f5f6ae56f9ff886d28c6bf3dd0922f9", func := "firkin/firkinlaw07.TightPuts", spec := "tightPuts", apart := false }
def TightPutsSaid : Prop := tightPutsRow.holds Try.pinned (OpenSpec.ofChange tightPutsSpec)

/-- ITS FALSE NEIGHBOUR: 'it returns false'. Refute it at one input. -/
def tightPutsWrong : ChangeSpec := { name := "tightPuts", fn := fun _ => fun
  | [d] => { results := [.lit (.bool false)], args := [d] }
  | _ => none }
def TightPutsWrongFalsely : Prop := tightPutsRow.holds Try.pinned (OpenSpec.ofChange tightPutsWrong)

/-- 'firkinlaw07.TightGets': WHATEVER THE INPUT: true; the input reads as it did. -/
def tightGetsSpec : ChangeSpec := { name := "tightGets", fn := fun _ => fun
  | [d1, d2] => { results := [.lit (.bool true)], args := [d1, d2] }
  | _ => none }
def tightGetsRow : OpenClaim := { program := "ytjoobeenejkelaa", sum := "7ef102c400f283e6c174564de51ee26f2f5f6ae56f9ff886d28c6bf3dd0922f9", func := "firkin/firkinlaw07.TightGets", spec := "tightGets", apart := false }
def TightGetsSaid : Prop := tightGetsRow.holds Try.pinned (OpenSpec.ofChange tightGetsSpec)

/-- ITS FALSE NEIGHBOUR: 'it returns false'. Refute it at one input. -/
def tightGetsWrong : ChangeSpec := { name := "tightGets", fn := fun _ => fun
  | [d1, d2] => { results := [.lit (.bool false)], args := [d1, d2] }
  | _ => none }
def TightGetsWrongFalsely : Prop := tightGetsRow.holds Try.pinned (OpenSpec.ofChange tightGetsWrong)

/-- 'firkinlaw07.TightOne': WHATEVER THE INPUT: true; the input reads as it did. -/
def tightOneSpec : ChangeSpec := { name := "tightOne", fn := fun _ => fun
  | [d1, d2, d3] => { results := [.lit (.bool true)], args := [d1, d2, d3] }
  | _ => none }
def tightOneRow : OpenClaim := { program := "ytjoobeenejkelaa", sum := "7ef102c400f283e6c174564de51ee26f2f5f6ae56f9ff886d28c6bf3dd0922f9", func := "firkin/firkinlaw07.TightOne", spec := "tightOne", apart := false }
def TightOneSaid : Prop := tightOneRow.holds Try.pinned (OpenSpec.ofChange tightOneSpec)

/-- ITS FALSE NEIGHBOUR: 'it returns false'. Refute it at one input. -/
def tightOneWrong : ChangeSpec := { name := "tightOne", fn := fun _ => fun
  | [d1, d2, d3] => { results := [.lit (.bool false)], args := [d1, d2, d3] }
  | _ => none }
def TightOneWrongFalsely : Prop := tightOneRow.holds Try.pinned (OpenSpec.ofChange tightOneWrong)

/- THE SECOND FORM. 'bulk': how many values and letters a reading holds, each counted each time it is reached (what is shared counts as often as it is met; a slice's spare places count too). A statement '..UptoSaid' is the law's where the arguments, and the package variables that the reading takes, are together of bulk at most 1048576: NARROWER than '..Said'. Prove '..Said' where nothing that the law and all that it calls make is longer than what came in: it says more and counts as full. Else prove '..UptoSaid'. A law counts once. -/
mutual
def uptoBulk {H : Type} : DataW H → Nat
  | .lit (.string bytes) => bytes.length + 1
  | .lit _ => 1
  | .nil => 1
  | .ptr d => uptoBulk d + 1
  | .slice elems spare => uptoBulkAll elems + uptoBulkAll spare + 1
  | .agg parts => uptoBulkAll parts + 1
  | .iface _ d => uptoBulk d + 1
  | .map entries => uptoBulkEntries entries + 1
  | .held _ => 1
def uptoBulkAll {H : Type} : List (DataW H) → Nat
  | [] => 0
  | d :: r => uptoBulk d + uptoBulkAll r
def uptoBulkEntries {H : Type} : List (Lit × DataW H) → Nat
  | [] => 0
  | x :: r => uptoBulkEntry x + uptoBulkEntries r
def uptoBulkEntry {H : Type} : Lit × DataW H → Nat
  | (.string bytes, d) => bytes.length + uptoBulk d + 1
  | (_, d) => uptoBulk d + 1
 end
def uptoSmall : (H : Type) → List (DataW H) → Bool := fun _ ds => decide (uptoBulkAll ds ≤ 1048576)
def OpenSpec.upto (s : _root_.Go.ChangeSpec) : _root_.Go.OpenSpec := { _root_.Go.OpenSpec.ofChange s with cond := some uptoSmall }

/-- 'firkinlaw07.TightPuts', WHERE WHAT IT READS IS OF BULK AT MOST 1048576: true; the input reads as it did. -/
def tightPutsUptoRow : OpenClaim := { program := "ytjoobeenejkelaa", sum := "7ef102c400f283e6c174564de51ee26f2f5f6ae56f9ff886d28c6bf3dd0922f9", func := "firkin/firkinlaw07.TightPuts", spec := "tightPuts", apart := false, narrowed := true }
def TightPutsUptoSaid : Prop := tightPutsUptoRow.holds Try.pinned (OpenSpec.upto tightPutsSpec)

/-- 'firkinlaw07.TightGets', WHERE WHAT IT READS IS OF BULK AT MOST 1048576: true; the input reads as it did. -/
def tightGetsUptoRow : OpenClaim := { program := "ytjoobeenejkelaa", sum := "7ef102c400f283e6c174564de51ee26f2f5f6ae56f9ff886d28c6bf3dd0922f9", func := "firkin/firkinlaw07.TightGets", spec := "tightGets", apart := false, narrowed := true }
def TightGetsUptoSaid : Prop := tightGetsUptoRow.holds Try.pinned (OpenSpec.upto tightGetsSpec)

/-- 'firkinlaw07.TightOne', WHERE WHAT IT READS IS OF BULK AT MOST 1048576: true; the input reads as it did. -/
def tightOneUptoRow : OpenClaim := { program := "ytjoobeenejkelaa", sum := "7ef102c400f283e6c174564de51ee26f2f5f6ae56f9ff886d28c6bf3dd0922f9", func := "firkin/firkinlaw07.TightOne", spec := "tightOne", apart := false, narrowed := true }
def TightOneUptoSaid : Prop := tightOneUptoRow.holds Try.pinned (OpenSpec.upto tightOneSpec)

end Rows
end Go.Proofs.Ytjoobeenejkelaa
