/-
  No cell of these rows narrows 'for every input' (looked for: loops, veiled, ifaces, maps, wideKeys, modest, calm, conditions, laid).
  DERIVED. THE GIVEN ROWS OF THIS SEAT. 3 by the template 'for every input the law returns true; each argument reads behind the call as it read before'; 0 by the template 'total and deterministic' (their statements: YtefcbkjanfbmoaaTotals.lean).
  GIVEN WITH THE SEED: the statements are not yours to turn. If you find one false, say at which input.
  Laid BY PROGRAM, IN A SANDBOX (cutbox-rows.mjs): the forced cells as the released guide's own fill.sh prints them over the translation ed32a726656182f6… (all of the seat's roots in one cut). By AI agents, Wed Nov 11 2026. No macro, syntax, notation, axiom, sorry.
-/
import Derived.Test.YtefcbkjanfbmoaaChecked
import GoSem.Claim
import GoSem.ClaimJoined
import GoSem.ClaimMapViews
import Derived.JoinedTies
import Derived.KernelRfl
namespace Go.Proofs.Ytefcbkjanfbmoaa
/- THE CELL 'sum', in the pinned program and in every row, IS THE sha256 OF THE DUMP (.gsa) THAT YtefcbkjanfbmoaaProg.lean LOADS. Nothing in Lean hashes anything: it is a label: what it is worth is what the hold of that sum in a sandbox is worth. -/
noncomputable def Try.pinned : Pinned := { name := "ytefcbkjanfbmoaa", sum := "ed32a726656182f61ab5d286f0814b5ceb50f0c3ec03087b091225a16a5a6e48", checked := Try.checked }
namespace Rows
def none {H : Type} : Left H := { results := [], args := [] }

/-- 'firkinlaw04.BitvPacks': WHATEVER THE INPUT: true; the input reads as it did. -/
def bitvPacksSpec : ChangeSpec := { name := "bitvPacks", fn := fun _ => fun
  | [d] => { results := [.lit (.bool true)], args := [d] }
  | _ => none }
def bitvPacksRow : OpenClaim := { program := "ytefcbkjanfbmoaa", sum := "ed32a726656182f61ab5d286f0814b5ceb50f0c3ec03087b091225a16a5a6e48", func := "firkin/firkinlaw04.BitvPacks", spec := "bitvPacks", apart := false }
def BitvPacksSaid : Prop := bitvPacksRow.holds Try.pinned (OpenSpec.ofChange bitvPacksSpec)

/-- ITS FALSE NEIGHBOUR: 'it returns false'. Refute it at one input. -/
def bitvPacksWrong : ChangeSpec := { name := "bitvPacks", fn := fun _ => fun
  | [d] => { results := [.lit (.bool false)], args := [d] }
  | _ => none }
def BitvPacksWrongFalsely : Prop := bitvPacksRow.holds Try.pinned (OpenSpec.ofChange bitvPacksWrong)

/-- 'firkinlaw04.BitvUnpacks': WHATEVER THE INPUT: true; the input reads as it did. -/
def bitvUnpacksSpec : ChangeSpec := { name := "bitvUnpacks", fn := fun _ => fun
  | [d1, d2] => { results := [.lit (.bool true)], args := [d1, d2] }
  | _ => none }
def bitvUnpacksRow : OpenClaim := { program := "ytefcbkjanfbmoaa", sum := "ed32a726656182f61ab5d286f0814b5ceb50f0c3ec03087b091225a16a5a6e48", func := "firkin/firkinlaw04.BitvUnpacks", spec := "bitvUnpacks", apart := false }
def BitvUnpacksSaid : Prop := bitvUnpacksRow.holds Try.pinned (OpenSpec.ofChange bitvUnpacksSpec)

/-- ITS FALSE NEIGHBOUR: 'it returns false'. Refute it at one input. -/
def bitvUnpacksWrong : ChangeSpec := { name := "bitvUnpacks", fn := fun _ => fun
  | [d1, d2] => { results := [.lit (.bool false)], args := [d1, d2] }
  | _ => none }
def BitvUnpacksWrongFalsely : Prop := bitvUnpacksRow.holds Try.pinned (OpenSpec.ofChange bitvUnpacksWrong)

/-- 'firkinlaw04.BitvCounts': WHATEVER THE INPUT: true; the input reads as it did. -/
def bitvCountsSpec : ChangeSpec := { name := "bitvCounts", fn := fun _ => fun
  | [d1, d2] => { results := [.lit (.bool true)], args := [d1, d2] }
  | _ => none }
def bitvCountsRow : OpenClaim := { program := "ytefcbkjanfbmoaa", sum := "ed32a726656182f61ab5d286f0814b5ceb50f0c3ec03087b091225a16a5a6e48", func := "firkin/firkinlaw04.BitvCounts", spec := "bitvCounts", apart := false }
def BitvCountsSaid : Prop := bitvCountsRow.holds Try.pinned (OpenSpec.ofChange bitvCountsSpec)

/-- ITS FALSE NEIGHBOUR: 'it returns false'. Refute it at one input. -/
def bitvCountsWrong : ChangeSpec := { name := "bitvCounts", fn := fun _ => fun
  | [d1, d2] => { results := [.lit (.bool false)], args := [d1, d2] }
  | _ => none }
def BitvCountsWrongFalsely : Prop := bitvCountsRow.holds Try.pinned (OpenSpec.ofChange bitvCountsWrong)

/- THE SECOND FORM. 'bulk': how many values and letters a reading holds, each counted each time it is reached (what is shared counts as often as it is met; a slice's spare places count too). A statement '..UptoSaid' is the law's where the arguments, and the package variables that the reading takes, are together of bulk at most 1048576: NARROWER than '..Said'. Prove '..Said' where nothing that the law and all that it calls make is longer than what came in: it says more and counts as full. Else prove '..UptoSaid'. A law counts once. -/
mutual
def uptoBulk {H : Type} : DataW H → Nat
  | .lit (.string bytes) => bytes.length + 1
  | .lit _ => 1
  | .nil => 1
  | .ptr d => uptoBulk d + 1
  | .slice elems spare => uptoBulkAll elems + uptoBulkAll spare + 1
  | .agg parts => uptoBulkAll parts + 1
  | .iface _ d => uptoBulk d + 1
  | .map entries => uptoBulkEntries entries + 1
  | .held _ => 1
def uptoBulkAll {H : Type} : List (DataW H) → Nat
  | [] => 0
  | d :: r => uptoBulk d + uptoBulkAll r
def uptoBulkEntries {H : Type} : List (Lit × DataW H) → Nat
  | [] => 0
  | x :: r => uptoBulkEntry x + uptoBulkEntries r
def uptoBulkEntry {H : Type} : Lit × DataW H → Nat
  | (.string bytes, d) => bytes.length + uptoBulk d + 1
  | (_, d) => uptoBulk d + 1
 end
def uptoSmall : (H : Type) → List (DataW H) → Bool := fun _ ds => decide (uptoBulkAll ds ≤ 1048576)
def OpenSpec.upto (s : _root_.Go.ChangeSpec) : _root_.Go.OpenSpec := { _root_.Go.OpenSpec.ofChange s with cond := some uptoSmall }

/-- 'firkinlaw04.BitvPacks', WHERE WHAT IT READS IS OF BULK AT MOST 1048576: true; the input reads as it did. -/
def bitvPacksUptoRow : OpenClaim := { program := "ytefcbkjanfbmoaa", sum := "ed32a726656182f61ab5d286f0814b5ceb50f0c3ec03087b091225a16a5a6e48", func := "firkin/firkinlaw04.BitvPacks", spec := "bitvPacks", apart := false, narrowed := true }
def BitvPacksUptoSaid : Prop := bitvPacksUptoRow.holds Try.pinned (OpenSpec.upto bitvPacksSpec)

/-- 'firkinlaw04.BitvUnpacks', WHERE WHAT IT READS IS OF BULK AT MOST 1048576: true; the input reads as it did. -/
def bitvUnpacksUptoRow : OpenClaim := { program := "ytefcbkjanfbmoaa", sum := "ed32a726656182f61ab5d286f0814b5ceb50f0c3ec03087b091225a16a5a6e48", func := "firkin/firkinlaw04.BitvUnpacks", spec := "bitvUnpacks", apart := false, narrowed := true }
def BitvUnpacksUptoSaid : Prop := bitvUnpacksUptoRow.holds Try.pinned (OpenSpec.upto bitvUnpacksSpec)

/-- 'firkinlaw04.BitvCounts', WHERE WHAT IT READS IS OF BULK AT MOST 1048576: true; the input reads as it did. -/
def bitvCountsUptoRow : OpenClaim := { program := "ytefcbkjanfbmoaa", sum := "ed32a726656182f61ab5d286f0814b5ceb50f0c3ec03087b091225a16a5a6e48", func := "firkin/firkinlaw04.BitvCounts", spec := "bitvCounts", apart := false, narrowed := true }
def BitvCountsUptoSaid : Prop := bitvCountsUptoRow.holds Try.pinned (OpenSpec.upto bitvCountsSpec)

end Rows
end Go.Proofs.Ytefcbkjanfbmoaa
