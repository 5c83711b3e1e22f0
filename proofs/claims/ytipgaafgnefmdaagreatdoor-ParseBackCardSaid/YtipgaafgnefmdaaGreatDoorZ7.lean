/-
  Joined: Layer 19: the document's reader: values. · Layer 19: the document's reader behind a predicate stored whole. · Layer 19: the document's reader: its steps in one form, whether it had failed before or not. · Layer 19: the document's reader: what is asked of a column, whichever way; predicates joined. · Layer 19: the document's reader: a single, by the levels left; predicates. · Layer 19: the document's reader: what is asked for. · Layer 16: all the words of a text (the document's).
-/
import Derived.Laws.StructEq
import Derived.Laws.Rows
import Derived.Laws.ResultCell
import Derived.Lib.Zigzag
import Derived.Laws.Cover1
import Derived.Deep.QuietTactic
import Derived.BigQuiet
import Derived.Deep.RegionHeld3
import Derived.Deep.DrawnRows
import Derived.Deep.Cut
import Derived.StillTail
import Derived.Deep.RegionWith
import Derived.Test.YtipgaafgnefmdaaGreatDoorZ6
import Derived.Test.YtipgaafgnefmdaaGreatDoorZ3
import Derived.Test.YtipgaafgnefmdaaGreatDoorZ4
import Derived.Test.YtipgaafgnefmdaaGreatDoorZ5

namespace Go.Proofs.YtipgaafgnefmdaaGreatDoor
set_option linter.unusedVariables false
set_option linter.unusedSimpArgs false
set_option maxRecDepth 100000
open Go.RowKit

theorem TS.setCl {w : World} {B g R : Nat} {l : List Tk} {bad : Bool} {z : Int} (h : TS w B g l bad z) (hR : B ≤ R) (n : Bool) (i : Int) (t : Tx) : TS (setCl w R n i t) B g l bad z :=
  h.fresh (setCl_fr _ _ _ _ _) (fun k e => by have : k = R := e; omega)
end Go.Proofs.YtipgaafgnefmdaaGreatDoor


namespace Go.Proofs.YtipgaafgnefmdaaGreatDoor
set_option linter.unusedVariables false
set_option linter.unusedSimpArgs false
set_option maxRecDepth 100000
open Go.RowKit

theorem TS.setPd {w : World} {B g R : Nat} {l : List Tk} {bad : Bool} {z : Int} (h : TS w B g l bad z) (hR : B ≤ R) (x : Ph) (s : Kv) : TS (setPd w R x s) B g l bad z :=
  h.fresh (setPd_fr _ _ _ _) (fun k e => by have : k = R := e; omega)
end Go.Proofs.YtipgaafgnefmdaaGreatDoor


namespace Go.Proofs.YtipgaafgnefmdaaGreatDoor
set_option linter.unusedVariables false
set_option linter.unusedSimpArgs false
set_option maxRecDepth 100000
open Go.RowKit

/-- the document's reader in block g stands so -/
def TX (B g : Nat) (w : World) (σ : Sg) : Prop := match σ with | .ok l => TS w B g l false 0 | .error k => ∃ l, TS w B g l true k
theorem TX.fresh {B g : Nat} {σ : Sg} {S : Nat → Prop} {w w' : World} (h : TX B g w σ) (hf : Fr S w w') (hs : ∀ k, S k → B ≤ k) : TX B g w' σ := by
  cases σ with
  | ok l => exact TS.fresh h hf hs
  | error k => obtain ⟨l, hl⟩ := h; exact ⟨l, hl.fresh hf hs⟩
theorem TX.non {B g : Nat} {σ : Sg} {w w' : World} (h : TX B g w σ) (hf : Fr Non w w') : TX B g w' σ := h.fresh hf fun _ e => e.elim
theorem TX.lt {B g : Nat} {σ : Sg} {w : World} (h : TX B g w σ) : g < B ∧ B ≤ w.heap.size := by
  cases σ with
  | ok l => exact ⟨TS.lt h, TS.le h⟩
  | error k => obtain ⟨l, hl⟩ := h; exact ⟨hl.lt, hl.le⟩
theorem TX.fin {B g : Nat} {w : World} {l : List Tk} (h : TX B g w (.ok l)) : EndL l := TS.fin h
theorem StepE.x {α : Type} {w : World} {B g : Nat} {x : Rd α} {e : Ending} {F : α → World → Value → Prop} (h : StepE w B g 0 x e F) : EndX (TX B g) x F e w := by
  obtain ⟨a, v, e1, e2, e3⟩ := h
  cases x with
  | ok p => obtain ⟨b, r⟩ := p; obtain ⟨rfl, ht⟩ := e3; exact ⟨a, v, e1, e2, ht, fun b r e => by cases e; rfl⟩
  | error k => exact ⟨a, v, e1, e2, e3, fun b r e => by cases e⟩
theorem BadE.x {α : Type} {w : World} {B g : Nat} {l : List Tk} {k : Int} {e : Ending} {F : α → World → Value → Prop} (h : BadE w B g l k e F) : EndX (TX B g) (.error k : Rd α) F e w := by
  obtain ⟨a, v, e1, e2, e3⟩ := h
  exact ⟨a, v, e1, e2, ⟨l, e3⟩, fun b r e => by cases e⟩
end Go.Proofs.YtipgaafgnefmdaaGreatDoor


namespace Go.Proofs.YtipgaafgnefmdaaGreatDoor
set_option linter.unusedVariables false
set_option linter.unusedSimpArgs false
set_option maxRecDepth 100000
open Go.RowKit

def SgFin (σ : Sg) : Prop := ∀ l, σ = .ok l → EndL l
theorem TX.finX {B g : Nat} {w : World} {σ : Sg} (h : TX B g w σ) : SgFin σ := fun l e => by subst e; exact h.fin
end Go.Proofs.YtipgaafgnefmdaaGreatDoor


namespace Go.Proofs.YtipgaafgnefmdaaGreatDoor
set_option linter.unusedVariables false
set_option linter.unusedSimpArgs false
set_option maxRecDepth 100000
open Go.RowKit

theorem TX.bad {B g : Nat} {w : World} {k : Int} (h : TX B g w (.error k)) : w.cell? ⟨g, 1, none⟩ = some (.bool true) ∧ g < w.heap.size := by
  obtain ⟨l, A, c, hR⟩ := h
  exact ⟨hR.cells.2.1, hR.blk.lt⟩
end Go.Proofs.YtipgaafgnefmdaaGreatDoor


namespace Go.Proofs.YtipgaafgnefmdaaGreatDoor
set_option linter.unusedVariables false
set_option linter.unusedSimpArgs false
set_option maxRecDepth 100000
open Go.RowKit

/-- of the old blocks only these two may have changed -/
def ReQ (g q : Nat) : Nat → Prop := fun k => k = g ∨ k = q
theorem Fr.two {g q : Nat} {w w' : World} (h : Fr (One g) w w') : Fr (ReQ g q) w w' := h.mono fun k _ e => .inl e
end Go.Proofs.YtipgaafgnefmdaaGreatDoor


namespace Go.Proofs.YtipgaafgnefmdaaGreatDoor
set_option linter.unusedVariables false
set_option linter.unusedSimpArgs false
set_option maxRecDepth 100000
open Go.RowKit

/-- so far: the words' bytes ended at i -/
structure RI (l : List UInt8) (i : Nat) (D : List Tk) : Prop where
  rest : tokB 0 l = preT D (tokB i (l.drop i))
  few : D.length ≤ i
theorem RI.blank {l : List UInt8} {i : Nat} {D : List Tk} {c : UInt8} (h : RI l i D) (hc : l[i]? = some c) (hk : blkB c = true) : RI l (i + 1) D := by
  obtain ⟨hi, rfl⟩ := List.getElem?_eq_some_iff.1 hc
  have hr := h.rest
  rw [List.drop_eq_getElem_cons hi, tok_blank i hk] at hr
  exact ⟨hr, by have := h.few; omega⟩
theorem RI.bad {l : List UInt8} {i : Nat} {D : List Tk} {c : UInt8} (h : RI l i D) (hc : l[i]? = some c) (hk : blkB c = false) (ho : oneB (l.drop i) = none) : tokB 0 l = .error i := by
  obtain ⟨hi, rfl⟩ := List.getElem?_eq_some_iff.1 hc
  have hr := h.rest
  rw [List.drop_eq_getElem_cons hi] at hr ho
  rw [tok_bad i hk ho] at hr
  exact hr
theorem RI.word {l : List UInt8} {i : Nat} {D : List Tk} {t : Tk} {n : Nat} (h : RI l i D) (hi : i < l.length) (ho : oneB (l.drop i) = some (t, n)) : RI l (i + n) (D ++ [putAt t i]) ∧ 1 ≤ n ∧ i + n ≤ l.length := by
  have hr := h.rest
  have hf := h.few
  rw [List.drop_eq_getElem_cons hi] at ho
  obtain ⟨h1, h2, _⟩ := one_is ho
  rw [← List.drop_eq_getElem_cons hi, List.length_drop] at h2
  rw [List.drop_eq_getElem_cons hi, tok_one i ho, preT_app, ← List.drop_eq_getElem_cons hi, List.drop_drop] at hr
  exact ⟨⟨hr, by simp; omega⟩, h1, by omega⟩
theorem RI.end_ {l : List UInt8} {i : Nat} {D : List Tk} (h : RI l i D) (hi : ¬ i < l.length) (hi2 : i ≤ l.length) : tokB 0 l = .ok (D ++ [⟨0, [], 0, l.length⟩]) := by
  have hr := h.rest
  rw [show i = l.length by omega, List.drop_length, tok_nil] at hr
  exact hr

end Go.Proofs.YtipgaafgnefmdaaGreatDoor
