/-
  Words on a cell in a block: read, stored whole, handed back.
-/
import Derived.Test.YtkmgplgokhjmjaaCell1
import Derived.Laws.Rows
import Derived.Laws.ResultCell
namespace Go.Proofs.Ytkmgplgokhjmjaa
set_option linter.unusedVariables false
set_option linter.unusedSimpArgs false
set_option maxRecDepth 100000
open Go.RowKit

/-- the cell c lies in block g -/
abbrev ClB (w : World) (g : Nat) (c : Cl) : Prop := Blk w g 23 #[.bool c.null, .int .i64 c.num, .string ⟨c.txt.toArray⟩]
/-- what a walk asks of it -/
theorem ClB.facts {w : World} {g : Nat} {c : Cl} (h : ClB w g c) :
    w.cell? ⟨g, 0, none⟩ = some (.bool c.null) ∧ w.cell? ⟨g, 1, none⟩ = some (.int .i64 c.num) ∧ w.cell? ⟨g, 2, none⟩ = some (.string ⟨c.txt.toArray⟩) ∧
    w.frozen? ⟨g, 0, none⟩ = false ∧ w.frozen? ⟨g, 1, none⟩ = false ∧ w.frozen? ⟨g, 2, none⟩ = false :=
  ⟨h.cell 0, h.cell 1, h.cell 2, h.frozen 0, h.frozen 1, h.frozen 2⟩
/-- a cell stored whole, as a walk spells it -/
def setCl (w : World) (g : Nat) (n : Bool) (i : Int) (t : List UInt8) : World := ((w.setCell ⟨g, 0, none⟩ (.bool n)).setCell ⟨g, 1, none⟩ (.int .i64 i)).setCell ⟨g, 2, none⟩ (.string ⟨t.toArray⟩)
theorem setCl_B {w : World} {g : Nat} {c : Cl} (h : ClB w g c) (n : Bool) (i : Int) (t : List UInt8) : ClB (setCl w g n i t) g ⟨n, i, t⟩ := ((h.set 0 _).set 1 _).set 2 _
theorem setCl_fr (w : World) (g : Nat) (n : Bool) (i : Int) (t : List UInt8) : Fr (One g) w (setCl w g n i t) := (((Fr.refl (One g) w).set1 0 _).set1 1 _).set1 2 _
/-- a call's end where its one result is a cell in a block -/
theorem ret_cl {fn : Func} {p : Tmp} (h : fn.results = #[.cell p 23]) (tmps : Array Value) (w : World) (g : Nat) (c : Cl)
    (hp : tmps.getD p undef = .pointer (some ⟨g, 0, none⟩)) (hg : ClB w g c) : (results fn tmps).run Try.prog w = .ok (clV c) w :=
  results_cell_row h tmps w g 23 _ (0, 0) _ hp hg Try.underlying23 rfl (by kernel_rfl)
/-- .. where a second result lies in a slot -/
theorem ret_cl2 {fn : Func} {p u : Tmp} (h : fn.results = #[.cell p 23, .tmp u]) (tmps : Array Value) (w : World) (g : Nat) (c : Cl) (v : Value)
    (hp : tmps.getD p undef = .pointer (some ⟨g, 0, none⟩)) (hv : tmps.getD u undef = v) (hg : ClB w g c) : (results fn tmps).run Try.prog w = .ok (.tuple #[clV c, v]) w := by
  have hl : (loadVar 23 ⟨g, 0, none⟩).run Try.prog w = .ok (clV c) w :=
    run_loadVar_row w g 23 23 _ (0, 0) _ hg Try.underlying23 rfl (by kernel_rfl)
  rw [results_cell_tmp h, hp, hv]
  simp [asAddr, hl, Result.andThen]
theorem cl_new (w : World) (c : Cl) : ClB (w.alloc (.cells #[.bool c.null, .int .i64 c.num, .string ⟨c.txt.toArray⟩] 23)) w.heap.size c := Blk.new _ _ _
end Go.Proofs.Ytkmgplgokhjmjaa
