/-
  Joined: Slices of slices of bytes that the call owns (Owns), and the steps that append one slice, or one value of one cell, to a row of the call's own. · Slices of one-celled elements of any type: what one reads as (Vs), a row of the call's own (Ow), and the steps over them: append of one, append of many, make, copy, cuts. · Slices of cells: what one reads as (Cs), a row of the call's own (Oc), and the steps over them. · Layer 11: the zone of a list's cells, the program's. · Layer 11: the example; which lists are small, and may be; two zones compared. · Layer 11: which zones there may be, both programs'. · Layer 9: a cell's bytes, both programs'. · Append of bytes onto bytes of the call's own, as one step of a region that draws. · Layer 11: a zone's bytes, both programs'. · Layer 1, what is read: contracts of Source's Int, Below, Text, Take. · Layer 1, what is read: contracts of the document's own source, S. · Layer 1, what is read: contracts of the document's own source: Int, Below, Take, Text, End. · Layer 1, what is read: the contract of the document's own source's Text; what the page's examples come to.
-/
import Derived.Deep.Slices
import Derived.Test.YtihofmmbdedhbaaZ1
import Derived.Laws.CopyOwn
import Derived.Laws.OwnMore
import Derived.WalkMore
import Derived.Laws.StructEq
import Derived.Deep.RegionHeld3

namespace Go.Proofs.Ytihofmmbdedhbaa
set_option linter.unusedVariables false
set_option linter.unusedSimpArgs false
set_option maxRecDepth 100000
open Go.RowKit

/-- a slice of slices of bytes that the call owns, row and all -/
def Owns (w : World) (B : Nat) (v : Value) (ls : List (List UInt8)) : Prop :=
  ∃ vs : List Value, w.ownsRow B 36 1 v vs.length vs ∧ vs.length = ls.length ∧ ∀ (i : Nat) (u : Value) (l : List UInt8), vs[i]? = some u → ls[i]? = some l → Own w B u l

theorem Own.kind {w : World} {B : Nat} {u : Value} {l : List UInt8} (h : Own w B u l) : ∀ k, u.ownBlock = some k → ∃ cur, w.heap[k]? = some (.cells cur 5 (0, 0)) := by
  intro k hk
  rcases h.2 with ⟨rfl, _⟩ | ⟨g, cap, cur, rfl, _, hg, _⟩
  · cases hk
  · obtain rfl : g = k := by simpa [Value.ownBlock] using hk
    exact ⟨cur, hg⟩
theorem row_kind {w : World} {B : Nat} {E : TypeId} {n : Nat} {v : Value} {xs : List Value} (h : w.ownsRow B E 1 v n xs) : ∀ k, v.ownBlock = some k → ∃ cur, w.heap[k]? = some (.cells cur E (0, 0)) := by
  intro k hk
  rcases h.2 with ⟨rfl, _⟩ | ⟨g, cap, cur, rfl, _, hg, _⟩
  · cases hk
  · obtain rfl : g = k := by simpa [Value.ownBlock] using hk
    exact ⟨cur, hg⟩
theorem row_keep {w w' : World} {B : Nat} {E : TypeId} {n : Nat} {v : Value} {xs : List Value} (h : w.ownsRow B E 1 v n xs) (hk : ∀ k, v.ownBlock = some k → w'.heap[k]? = w.heap[k]?) : w'.ownsRow B E 1 v n xs := by
  refine ⟨h.1, ?_⟩
  rcases h.2 with h2 | ⟨g, cap, cur, hv, hb, hg, r⟩
  · exact .inl h2
  · exact .inr ⟨g, cap, cur, hv, hb, by rw [hk g (by rw [hv]; rfl)]; exact hg, r⟩
theorem row_lt {w : World} {B : Nat} {E : TypeId} {n : Nat} {v : Value} {xs : List Value} (h : w.ownsRow B E 1 v n xs) : ∀ k, v.ownBlock = some k → B ≤ k ∧ k < w.heap.size := World.ownsRow.lt h
theorem row_mono {w : World} {B B' : Nat} {E : TypeId} {n : Nat} {v : Value} {xs : List Value} (h : w.ownsRow B E 1 v n xs) (hB : B' ≤ B) : w.ownsRow B' E 1 v n xs := by
  refine ⟨h.1, ?_⟩
  rcases h.2 with h2 | ⟨g, cap, cur, hv, hb, r⟩
  · exact .inl h2
  · exact .inr ⟨g, cap, cur, hv, by omega, r⟩

theorem Owns.lt {w : World} {B : Nat} {v : Value} {ls : List (List UInt8)} (h : Owns w B v ls) : ∀ k, v.ownBlock = some k → B ≤ k ∧ k < w.heap.size := by
  obtain ⟨vs, h1, _⟩ := h; exact row_lt h1
/-- it stays where the blocks that turn are no rows of slices and no bytes -/
theorem Owns.keep {w w' : World} {B : Nat} {v : Value} {ls : List (List UInt8)} (h : Owns w B v ls)
    (hk : ∀ k cur, (w.heap[k]? = some (.cells cur 36 (0, 0)) ∨ w.heap[k]? = some (.cells cur 5 (0, 0))) → B ≤ k → w'.heap[k]? = w.heap[k]?) : Owns w' B v ls := by
  obtain ⟨vs, h1, h2, h3⟩ := h
  refine ⟨vs, row_keep h1 fun k e => ?_, h2, fun i u l hu hl => (h3 i u l hu hl).keep fun k e => ?_⟩
  · obtain ⟨cur, hc⟩ := row_kind h1 k e
    exact hk k cur (.inl hc) (row_lt h1 k e).1
  · obtain ⟨cur, hc⟩ := (h3 i u l hu hl).kind k e
    exact hk k cur (.inr hc) ((h3 i u l hu hl).lt k e).1
theorem Owns.fr {S : Nat → Prop} {w w' : World} {B : Nat} {v : Value} {ls : List (List UInt8)} (h : Owns w B v ls) (hf : Fr S w w')
    (hS : ∀ k cur, S k → w.heap[k]? ≠ some (.cells cur 36 (0, 0)) ∧ w.heap[k]? ≠ some (.cells cur 5 (0, 0))) : Owns w' B v ls :=
  h.keep fun k cur hc _ => hf.block k (by rcases hc with e | e <;> exact (Array.getElem?_eq_some_iff.1 e).1) fun e => by
    rcases hc with h1 | h1
    · exact (hS k cur e).1 h1
    · exact (hS k cur e).2 h1
theorem Owns.non {w w' : World} {B : Nat} {v : Value} {ls : List (List UInt8)} (h : Owns w B v ls) (hf : Fr Non w w') : Owns w' B v ls := h.fr hf fun k cur e => e.elim
theorem Owns.mono {w : World} {B B' : Nat} {v : Value} {ls : List (List UInt8)} (h : Owns w B v ls) (hB : B' ≤ B) : Owns w B' v ls := by
  obtain ⟨vs, h1, h2, h3⟩ := h
  exact ⟨vs, row_mono h1 hB, h2, fun i u l hu hl => (h3 i u l hu hl).mono hB⟩
theorem Owns.bss {w : World} {B : Nat} {v : Value} {ls : List (List UInt8)} (h : Owns w B v ls) : Bss w v ls := by
  obtain ⟨vs, h1, h2, h3⟩ := h
  rcases h1.2 with ⟨rfl, h0⟩ | ⟨g, cap, cur, rfl, _, _, hle, _, _, _⟩
  · have hl : ls = [] := List.eq_nil_of_length_eq_zero (by omega)
    subst hl
    exact ⟨none, 0, rfl, Nat.le_refl _, fun _ => rfl, fun _ h => by cases h⟩
  · refine ⟨_, cap, by rw [h2], by omega, (fun h => by cases h), fun a ha j hj => ?_⟩
    cases ha
    have hj' : j < vs.length := by omega
    exact ⟨vs[j], World.ownsRow.cells h1 (g := g) rfl j _ (by simp [hj']), (h3 j vs[j] ls[j] (by simp [hj']) (by simp [hj])).bs⟩
theorem Owns.shape {w : World} {B : Nat} {v : Value} {ls : List (List UInt8)} (h : Owns w B v ls) : ∃ A c, v = .slice A ls.length c := by
  obtain ⟨A, c, rfl, _⟩ := h.bss; exact ⟨A, c, rfl⟩
/-! ### Whole numbers in a row of the call's own -/
def iv (n : Int) : Value := .int .i64 n
def OwnI (w : World) (B : Nat) (v : Value) (l : List Int) : Prop := w.ownsRow B 3 1 v (l.map iv).length (l.map iv)
theorem OwnI.non {w w' : World} {B : Nat} {v : Value} {l : List Int} (h : OwnI w B v l) (hf : Fr Non w w') : OwnI w' B v l := row_keep h fun k hk => hf.block k (row_lt h k hk).2 fun e => e
theorem OwnI.fr {S : Nat → Prop} {w w' : World} {B : Nat} {v : Value} {l : List Int} (h : OwnI w B v l) (hf : Fr S w w') (hn : ∀ k, v.ownBlock = some k → ¬ S k) : OwnI w' B v l := row_keep h fun k hk => hf.block k (row_lt h k hk).2 (hn k hk)
theorem OwnI.cell {w : World} {B : Nat} {v : Value} {l : List Int} (h : OwnI w B v l) {g n c : Nat} (hv : v = .slice (some ⟨g, 0, none⟩) n c) (j : Nat) (hj : j < l.length) : w.cell? ⟨g, j, none⟩ = some (.int .i64 l[j]) := by
  subst hv
  have := World.ownsRow.cells h (g := g) rfl j (iv l[j]) (by simp [hj])
  rwa [Addr.add_lit, Nat.zero_add] at this
end Go.Proofs.Ytihofmmbdedhbaa


namespace Go.Proofs.Ytihofmmbdedhbaa
set_option linter.unusedVariables false
set_option linter.unusedSimpArgs false
set_option maxRecDepth 100000
open Go.RowKit

/-- the slice v reads as the list l, each element's cell being f of it -/
def Vs {α : Type} (f : α → Value) (w : World) (v : Value) (l : List α) : Prop :=
  ∃ A c, v = .slice A l.length c ∧ l.length ≤ c ∧ (A = none → c = 0) ∧ ∀ a, A = some a → ∀ j (h : j < l.length), w.cell? (a.add j) = some (f l[j])
/-- a row of the call's own, from block B on, of elements of type E -/
def Ow {α : Type} (f : α → Value) (E : TypeId) (w : World) (B : Nat) (v : Value) (l : List α) : Prop := w.ownsRow B E 1 v l.length (l.map f)

section
variable {α : Type} {f : α → Value}

theorem Vs.nil_ (w : World) : Vs f w (.slice none 0 0) [] := ⟨none, 0, rfl, Nat.le_refl _, fun _ => rfl, fun _ h => by cases h⟩
theorem Vs.keep {w w' : World} {v : Value} {l : List α} (h : Vs f w v l) (hk : ∀ k, v.ownBlock = some k → k < w.heap.size → w'.heap[k]? = w.heap[k]?) : Vs f w' v l := by
  obtain ⟨A, c, rfl, h1, h2, h3⟩ := h
  refine ⟨A, c, rfl, h1, h2, fun a ha j hj => ?_⟩
  have := h3 a ha j hj
  subst ha
  have hb := World.block_lt_of_cell? w _ this
  rw [add_block] at hb
  rw [← this]
  exact World.cell?_of_block (by rw [add_block]; exact hk _ rfl hb)
theorem Vs.fr {S : Nat → Prop} {w w' : World} {v : Value} {l : List α} (h : Vs f w v l) (hf : Fr S w w') (hn : ∀ k, v.ownBlock = some k → ¬ S k) : Vs f w' v l :=
  h.keep fun k hk hlt => hf.block k hlt (hn k hk)
theorem Vs.non {w w' : World} {v : Value} {l : List α} (h : Vs f w v l) (hf : Fr Non w w') : Vs f w' v l := h.fr hf fun _ _ e => e
theorem Vs.drew {w : World} {v : Value} {l : List α} (h : Vs f w v l) : Vs f w.drew v l := h
theorem Vs.shape {w : World} {v : Value} {l : List α} (h : Vs f w v l) : ∃ A c, v = .slice A l.length c := by
  obtain ⟨A, c, rfl, _⟩ := h; exact ⟨A, c, rfl⟩
variable {E : TypeId}
theorem Ow.lt {w : World} {B : Nat} {v : Value} {l : List α} (h : Ow f E w B v l) : ∀ k, v.ownBlock = some k → B ≤ k ∧ k < w.heap.size := World.ownsRow.lt h
theorem Ow.vs {w : World} {B : Nat} {v : Value} {l : List α} (h : Ow f E w B v l) : Vs f w v l := by
  rcases h.2 with ⟨rfl, h0⟩ | ⟨g, cap, cur, rfl, _, _, hle, _, _, _⟩
  · have hl : l = [] := List.eq_nil_of_length_eq_zero h0
    subst hl; exact Vs.nil_ w
  · refine ⟨_, cap, rfl, hle, (fun h => by cases h), fun a ha j hj => ?_⟩
    cases ha
    exact World.ownsRow.cells h (g := g) rfl j _ (by simp [hj])
theorem Ow.shape {w : World} {B : Nat} {v : Value} {l : List α} (h : Ow f E w B v l) : ∃ A c, v = .slice A l.length c := h.vs.shape
theorem Ow.keep {w w' : World} {B : Nat} {v : Value} {l : List α} (h : Ow f E w B v l) (hk : ∀ k, v.ownBlock = some k → w'.heap[k]? = w.heap[k]?) : Ow f E w' B v l := row_keep h hk
theorem Ow.fr {S : Nat → Prop} {w w' : World} {B : Nat} {v : Value} {l : List α} (h : Ow f E w B v l) (hf : Fr S w w') (hn : ∀ k, v.ownBlock = some k → ¬ S k) : Ow f E w' B v l :=
  h.keep fun k hk => hf.block k (h.lt k hk).2 (hn k hk)
theorem Ow.non {w w' : World} {B : Nat} {v : Value} {l : List α} (h : Ow f E w B v l) (hf : Fr Non w w') : Ow f E w' B v l := h.fr hf fun _ _ e => e
theorem Ow.alloc {w : World} {B : Nat} {v : Value} {l : List α} (h : Ow f E w B v l) (o : Obj) : Ow f E (w.alloc o) B v l := h.non ((Fr.refl _ _).alloc o)
theorem Ow.drew {w : World} {B : Nat} {v : Value} {l : List α} (h : Ow f E w B v l) : Ow f E w.drew B v l := h
theorem Ow.mono {w : World} {B B' : Nat} {v : Value} {l : List α} (h : Ow f E w B v l) (hB : B' ≤ B) : Ow f E w B' v l := row_mono h hB
theorem Ow.kind {w : World} {B : Nat} {v : Value} {l : List α} (h : Ow f E w B v l) : ∀ k, v.ownBlock = some k → ∃ cur, w.heap[k]? = some (.cells cur E (0, 0)) := row_kind h
/-- where it has an element, it stands at a row's head -/
theorem Ow.row {w : World} {B : Nat} {v : Value} {l : List α} (h : Ow f E w B v l) (hn : 0 < l.length) : ∃ g cap, v = .slice (some ⟨g, 0, none⟩) l.length cap ∧ B ≤ g ∧ g < w.heap.size ∧ l.length ≤ cap ∧ cap ≤ maxLen := by
  rcases h.2 with ⟨rfl, h0⟩ | ⟨g, cap, cur, rfl, hb, hg, hle, hm, _⟩
  · omega
  · exact ⟨g, cap, rfl, hb, (Array.getElem?_eq_some_iff.1 hg).1, hle, hm⟩
theorem Ow.cell {w : World} {B g n cap : Nat} {l : List α} (h : Ow f E w B (.slice (some ⟨g, 0, none⟩) n cap) l) (hn : n = l.length) (j : Nat) (x : α) (hb : l[j]? = some x) : w.cell? ⟨g, j, none⟩ = some (f x) := by
  subst hn
  have hj : j < l.length := (List.getElem?_eq_some_iff.1 hb).1
  rw [World.ownsRow.cellAt h j (by omega), List.getElem?_map, hb]; rfl
theorem Ow.frozen {w : World} {B g n cap : Nat} {l : List α} (h : Ow f E w B (.slice (some ⟨g, 0, none⟩) n cap) l) (hn : n = l.length) (j : Nat) : w.frozen? ⟨g, j, none⟩ = false := by
  subst hn; exact World.ownsRow.frozenAt h j
theorem Ow.store {w : World} {B g n cap : Nat} {l : List α} (h : Ow f E w B (.slice (some ⟨g, 0, none⟩) n cap) l) (hn : n = l.length) (j : Nat) (x : α) : Ow f E (w.setCell ⟨g, j, none⟩ (f x)) B (.slice (some ⟨g, 0, none⟩) n cap) (l.set j x) := by
  subst hn
  have := (World.ownsRow.stored h j (f x)).1
  unfold Ow
  rw [List.length_set, List.map_set]
  exact this
theorem ow_lit (w : World) (B g : Nat) (l : List α) (cs : Array Value) (hcs : cs.toList = l.map f) (hg : g = w.heap.size) (hB : B ≤ g) (hm : l.length ≤ maxLen) : Ow f E (w.alloc (.cells cs E)) B (.slice (some ⟨g, 0, none⟩) l.length l.length) l := by
  subst hg
  unfold Ow
  rw [← hcs]
  exact World.ownsRow_lit w cs l.length hB hm (by have := congrArg List.length hcs; simpa using this)
/-! ### Steps -/
variable {T : TypeId} {z : Value} {by_ : Nat}
/-! ### Pieces -/
end

/-! ### Truths, whole numbers, bytes -/
theorem Bs.vs {w : World} {v : Value} {l : List UInt8} (h : Bs w v l) : Vs bv w v l := h
theorem Vs.bs {w : World} {v : Value} {l : List UInt8} (h : Vs bv w v l) : Bs w v l := h
theorem Ow.own {w : World} {B : Nat} {v : Value} {l : List UInt8} (h : Ow bv 5 w B v l) : Own w B v l := h

end Go.Proofs.Ytihofmmbdedhbaa


namespace Go.Proofs.Ytihofmmbdedhbaa
set_option linter.unusedVariables false
set_option linter.unusedSimpArgs false
set_option maxRecDepth 100000
open Go.RowKit

/-- a cell's three values, and those of many -/
def clL (c : Cl) : List Value := [.bool c.null, .int .i64 c.num, .string ⟨c.txt.toArray⟩]
def clsL (l : List Cl) : List Value := l.flatMap clL
theorem clsL_cons (c : Cl) (l : List Cl) : clsL (c :: l) = clL c ++ clsL l := by simp [clsL]
theorem clsL_len (l : List Cl) : (clsL l).length = l.length * 3 := by
  induction l with
  | nil => rfl
  | cons c l ih => rw [clsL_cons, List.length_append, ih, List.length_cons]; simp [clL]; omega
theorem clsL_at (l : List Cl) (j : Nat) (i : Nat) (hj : j < l.length) (hi : i < 3) : (clsL l)[j * 3 + i]? = (clL l[j])[i]? := by
  induction l generalizing j with
  | nil => cases hj
  | cons c l ih =>
    rw [clsL_cons]
    cases j with
    | zero => rw [List.getElem?_append_left (by simp [clL]; omega)]; simp
    | succ j =>
      rw [List.getElem?_append_right (by simp [clL]; omega)]
      rw [show (j + 1) * 3 + i - (clL c).length = j * 3 + i by simp [clL]; omega]
      exact ih j (by simpa using hj)
/-- three cells, one behind the other, that hold c -/
structure At3 (w : World) (a : Addr) (c : Cl) : Prop where
  c0 : w.cell? a = some (.bool c.null)
  c1 : w.cell? (a.add 1) = some (.int .i64 c.num)
  c2 : w.cell? (a.add 2) = some (.string ⟨c.txt.toArray⟩)

/-- the slice v reads as the cells l -/
def Cs (w : World) (v : Value) (l : List Cl) : Prop :=
  ∃ A c, v = .slice A l.length c ∧ l.length ≤ c ∧ (A = none → c = 0) ∧ ∀ a, A = some a → ∀ j (h : j < l.length), At3 w (a.add (j * 3)) l[j]
/-- a row of the call's own, from block B on -/
def Oc (w : World) (B : Nat) (v : Value) (l : List Cl) : Prop := w.ownsRow B 26 3 v l.length (clsL l)

theorem At3.keep {w w' : World} {a : Addr} {c : Cl} (h : At3 w a c) (hk : w'.heap[a.block]? = w.heap[a.block]?) : At3 w' a c := by
  obtain ⟨h0, h1, h2⟩ := h
  exact ⟨by rw [← h0]; exact World.cell?_of_block hk, by rw [← h1]; exact World.cell?_of_block (by rw [add_block]; exact hk), by rw [← h2]; exact World.cell?_of_block (by rw [add_block]; exact hk)⟩

theorem Cs.nil_ (w : World) : Cs w (.slice none 0 0) [] := ⟨none, 0, rfl, Nat.le_refl _, fun _ => rfl, fun _ h => by cases h⟩
theorem Cs.keep {w w' : World} {v : Value} {l : List Cl} (h : Cs w v l) (hk : ∀ k, v.ownBlock = some k → k < w.heap.size → w'.heap[k]? = w.heap[k]?) : Cs w' v l := by
  obtain ⟨A, c, rfl, h1, h2, h3⟩ := h
  refine ⟨A, c, rfl, h1, h2, fun a ha j hj => ?_⟩
  have := h3 a ha j hj
  subst ha
  have hb := World.block_lt_of_cell? w _ this.c0
  refine this.keep ?_
  rw [add_block] at hb ⊢
  exact hk _ rfl hb
theorem Cs.fr {S : Nat → Prop} {w w' : World} {v : Value} {l : List Cl} (h : Cs w v l) (hf : Fr S w w') (hn : ∀ k, v.ownBlock = some k → ¬ S k) : Cs w' v l :=
  h.keep fun k hk hlt => hf.block k hlt (hn k hk)
theorem Cs.non {w w' : World} {v : Value} {l : List Cl} (h : Cs w v l) (hf : Fr Non w w') : Cs w' v l := h.fr hf fun _ _ e => e
theorem Cs.drew {w : World} {v : Value} {l : List Cl} (h : Cs w v l) : Cs w.drew v l := h.keep fun _ _ _ => rfl
theorem Cs.shape {w : World} {v : Value} {l : List Cl} (h : Cs w v l) : ∃ A c, v = .slice A l.length c := by
  obtain ⟨A, c, rfl, _⟩ := h; exact ⟨A, c, rfl⟩
theorem Fr.at3 {w w' : World} {a : Addr} {c : Cl} (hf : Fr Non w w') (h : At3 w a c) : At3 w' a c :=
  h.keep (hf.block _ (World.block_lt_of_cell? w _ h.c0) (fun e => e))
/-- as a walk spells them -/
theorem At3.lit {w : World} {a : Addr} {c : Cl} (h : At3 w a c) : w.cell? a = some (.bool c.null) ∧ w.cell? { block := a.block, off := a.off + 1 } = some (.int .i64 c.num) ∧ w.cell? { block := a.block, off := a.off + 2 } = some (.string ⟨c.txt.toArray⟩) := ⟨h.c0, h.c1, h.c2⟩
theorem Oc.lt {w : World} {B : Nat} {v : Value} {l : List Cl} (h : Oc w B v l) : ∀ k, v.ownBlock = some k → B ≤ k ∧ k < w.heap.size := World.ownsRow.lt h
theorem Oc.cs {w : World} {B : Nat} {v : Value} {l : List Cl} (h : Oc w B v l) : Cs w v l := by
  rcases h.2 with ⟨rfl, h0⟩ | ⟨g, cap, cur, rfl, _, _, hle, _, _, _⟩
  · have hl : l = [] := List.eq_nil_of_length_eq_zero h0
    subst hl; exact Cs.nil_ w
  · refine ⟨_, cap, rfl, hle, (fun h => by cases h), fun a ha j hj => ?_⟩
    cases ha
    have H := fun i hi => World.ownsRow.cells h (g := g) rfl (j * 3 + i) _ ((clsL_at l j i hj hi).trans (List.getElem?_eq_getElem (by simp [clL]; omega)))
    refine ⟨?_, ?_, ?_⟩
    · have := H 0 (by omega); simpa [clL] using this
    · rw [add_add]; have := H 1 (by omega); simpa [clL] using this
    · rw [add_add]; have := H 2 (by omega); simpa [clL] using this
theorem Oc.shape {w : World} {B : Nat} {v : Value} {l : List Cl} (h : Oc w B v l) : ∃ A c, v = .slice A l.length c := h.cs.shape
theorem Oc.keep {w w' : World} {B : Nat} {v : Value} {l : List Cl} (h : Oc w B v l) (hk : ∀ k, v.ownBlock = some k → w'.heap[k]? = w.heap[k]?) : Oc w' B v l := by
  refine ⟨h.1, ?_⟩
  rcases h.2 with h2 | ⟨g, cap, cur, hv, hb, hg, r⟩
  · exact .inl h2
  · exact .inr ⟨g, cap, cur, hv, hb, by rw [hk g (by rw [hv]; rfl)]; exact hg, r⟩
theorem Oc.fr {S : Nat → Prop} {w w' : World} {B : Nat} {v : Value} {l : List Cl} (h : Oc w B v l) (hf : Fr S w w') (hn : ∀ k, v.ownBlock = some k → ¬ S k) : Oc w' B v l :=
  h.keep fun k hk => hf.block k (h.lt k hk).2 (hn k hk)
theorem Oc.non {w w' : World} {B : Nat} {v : Value} {l : List Cl} (h : Oc w B v l) (hf : Fr Non w w') : Oc w' B v l := h.fr hf fun _ _ e => e
theorem Oc.alloc {w : World} {B : Nat} {v : Value} {l : List Cl} (h : Oc w B v l) (o : Obj) : Oc (w.alloc o) B v l := h.non ((Fr.refl _ _).alloc o)
theorem Oc.drew {w : World} {B : Nat} {v : Value} {l : List Cl} (h : Oc w B v l) : Oc w.drew B v l := h
theorem Oc.mono {w : World} {B B' : Nat} {v : Value} {l : List Cl} (h : Oc w B v l) (hB : B' ≤ B) : Oc w B' v l := by
  refine ⟨h.1, ?_⟩
  rcases h.2 with h2 | ⟨g, cap, cur, hv, hb, r⟩
  · exact .inl h2
  · exact .inr ⟨g, cap, cur, hv, by omega, r⟩
theorem Oc.kind {w : World} {B : Nat} {v : Value} {l : List Cl} (h : Oc w B v l) : ∀ k, v.ownBlock = some k → ∃ cur, w.heap[k]? = some (.cells cur 26 (0, 0)) := by
  intro k hk
  rcases h.2 with ⟨rfl, _⟩ | ⟨g, cap, cur, rfl, _, hg, _⟩
  · cases hk
  · obtain rfl : g = k := by simpa [Value.ownBlock] using hk
    exact ⟨cur, hg⟩
theorem Oc.row {w : World} {B : Nat} {v : Value} {l : List Cl} (h : Oc w B v l) (hn : 0 < l.length) : ∃ g cap, v = .slice (some ⟨g, 0, none⟩) l.length cap ∧ B ≤ g ∧ g < w.heap.size ∧ l.length ≤ cap ∧ cap ≤ maxLen := by
  rcases h.2 with ⟨rfl, h0⟩ | ⟨g, cap, cur, rfl, hb, hg, hle, hm, _⟩
  · omega
  · exact ⟨g, cap, rfl, hb, (Array.getElem?_eq_some_iff.1 hg).1, hle, hm⟩
theorem Oc.frozen {w : World} {B g n cap : Nat} {l : List Cl} (h : Oc w B (.slice (some ⟨g, 0, none⟩) n cap) l) (hn : n = l.length) (j : Nat) : w.frozen? ⟨g, j, none⟩ = false := by
  subst hn; exact World.ownsRow.frozenAt h j
theorem oc_lit (w : World) (B g : Nat) (l : List Cl) (cs : Array Value) (hcs : cs.toList = clsL l) (hg : g = w.heap.size) (hB : B ≤ g) (hm : l.length ≤ 1000000) : Oc (w.alloc (.cells cs 26)) B (.slice (some ⟨g, 0, none⟩) l.length l.length) l := by
  subst hg
  have h := World.ownsRow_lit (e := 26) (size := 3) w cs l.length hB (by unfold maxLen; omega) (by rw [← Array.length_toList, hcs, clsL_len])
  rw [hcs] at h
  exact h
/-! ### Steps -/
end Go.Proofs.Ytihofmmbdedhbaa


namespace Go.Proofs.Ytihofmmbdedhbaa
set_option linter.unusedVariables false
set_option linter.unusedSimpArgs false
set_option maxRecDepth 100000
open Go.RowKit

/-- a zone stored whole, as a walk spells it -/
def setRN (w : World) (g : Nat) (r n : Int) : World := (w.setCell ⟨g, 0, none⟩ (.int .i64 r)).setCell ⟨g, 1, none⟩ (.int .i64 n)
theorem setRN_B {w : World} {g : Nat} {y : Zn} (h : ZnB w g y) (r n : Int) : ZnB (setRN w g r n) g ⟨r, n, y.low, y.high⟩ := (Blk.set h 0 _).set 1 _
theorem setRN_fr (w : World) (g : Nat) (r n : Int) : Fr (One g) w (setRN w g r n) := ((Fr.refl (One g) w).set1 0 _).set1 1 _
def setZn (w : World) (g : Nat) (z : Zn) : World := setHigh (setLow (setRN w g z.rows z.nulls) g z.low.null z.low.num z.low.txt) g z.high.null z.high.num z.high.txt
theorem setZn_B {w : World} {g : Nat} {y : Zn} (h : ZnB w g y) (z : Zn) : ZnB (setZn w g z) g z := setHigh_B (setLow_B (setRN_B h z.rows z.nulls) z.low) z.high
theorem setZn_fr (w : World) (g : Nat) (z : Zn) : Fr (One g) w (setZn w g z) := ((setRN_fr _ _ _ _).trans (setLow_fr _ _ _ _ _)).trans (setHigh_fr _ _ _ _ _)
theorem setNul_B {w : World} {g : Nat} {y : Zn} (h : ZnB w g y) (n : Int) : ZnB (w.setCell ⟨g, 1, none⟩ (.int .i64 n)) g ⟨y.rows, n, y.low, y.high⟩ := Blk.set h 1 _
theorem NoteAt.nul {w : World} {f p g : Nat} {first : Bool} {z : Zn} (h : NoteAt w f p g first z) (hf : f ≠ g) (hp : p ≠ g) (n : Int) : NoteAt (w.setCell ⟨g, 1, none⟩ (.int .i64 n)) f p g first ⟨z.rows, n, z.low, z.high⟩ :=
  ⟨h.fb.fr ((Fr.refl (One g) w).set1 1 _) hf, h.pb.fr ((Fr.refl (One g) w).set1 1 _) hp, setNul_B h.zb n⟩
/-- a call's end where its one result is a zone in a block -/
theorem ret_zn {fn : Func} {p : Tmp} (h : fn.results = #[.cell p 28]) (tmps : Array Value) (w : World) (g : Nat) (z : Zn)
    (hp : tmps.getD p undef = .pointer (some ⟨g, 0, none⟩)) (hg : ZnB w g z) : (results fn tmps).run Try.prog w = .ok (znV z) w :=
  results_cell_row h tmps w g 28 _ (0, 0) _ hp hg Try.underlying28 rfl (by kernel_rfl)

set_option maxHeartbeats 2000000 in
theorem zof_any (v : Value) (l : List Cl) (w : World) (hv : Cs w v l) (hl : l.length ≤ 1000000) :
    Calls Try.prog 8 #[v] w fun e w' => ∃ z, e = .returned (znV z) ∧ IsOf l z ∧ Fr Non w w' := by
  obtain ⟨A, c, rfl, hlc, hn, hcell⟩ := hv
  have HC := Lib.hid hcell
  have HN := Lib.hid hn
  clear hcell hn
  have f0 : Fr Non w _ := ((Fr.refl Non w).alloc (.cells (znC noZn) 28)).alloc (.cells (znC ⟨l.length, 0, noCl, noCl⟩) 28)
  have hA : ZnB (w.alloc (.cells (znC noZn) 28)) w.heap.size noZn := Blk.new _ _ _
  have hB : ZnB ((w.alloc (.cells (znC noZn) 28)).alloc (.cells (znC ⟨l.length, 0, noCl, noCl⟩) 28)) (w.alloc (.cells (znC noZn) 28)).heap.size ⟨l.length, 0, noCl, noCl⟩ := Blk.new _ _ _
  have hsz : (w.alloc (.cells (znC noZn) 28)).heap.size = w.heap.size + 1 := by simp
  rw [hsz] at hB
  have hA2 : ZnB ((w.alloc (.cells (znC noZn) 28)).alloc (.cells (znC ⟨l.length, 0, noCl, noCl⟩) 28)) w.heap.size noZn := hA.fr ((Fr.refl Non _).alloc _) (fun e => e)
  have hs2 : ((w.alloc (.cells (znC noZn) 28)).alloc (.cells (znC ⟨l.length, 0, noCl, noCl⟩) 28)).heap.size = w.heap.size + 1 + 1 := by simp
  clear hA hsz
  unfold znC noZn noCl at *
  dsimp only at *
  replace f0 := Lib.hid f0
  replace hB := Lib.hid hB
  replace hA2 := Lib.hid hA2
  go_enter Try.func8, Try.ntmps8
  go_wp2_with fail
  refine (noteIn_any (w.heap.size + 1) _).mono ?_
  rintro e w1 ⟨rfl, n1, n2, f1⟩
  rw [hs2] at n1 n2
  have hA3 := hA2.out.fr f1 (fun e => e)
  have hN3 : NoteAt w1 (w.heap.size + 1 + 1 + 1) (w.heap.size + 1 + 1) (w.heap.size + 1) true ⟨l.length, 0, noCl, noCl⟩ := ⟨n1, n2, hB.out.fr f1 (fun e => e)⟩
  have hF3 := f0.out.trans f1
  have J0 := Lib.hid (jinv_start l.length 0)
  clear hA2 hB f0 n1 n2 f1
  rw [hs2]
  clear hs2
  generalize hw : w.heap.size = R at *
  have HW := Lib.hid (Nat.le_of_eq hw)
  clear hw
  go_wp2
  go_loopw [13] (fun i wr => ∃ (k : Nat) (z : Zn) (first : Bool), k ≤ l.length ∧ i = .int .i64 k ∧ JInv l.length (nulC (l.take k)) (liveC (l.take k)) z first ∧ NoteAt wr (R + 1 + 1 + 1) (R + 1 + 1) (R + 1) first z ∧ ZnB wr R noZn ∧ Fr Non w wr) (fun i _ => l.length - (intOf i).toNat)
  case atStart => exact ⟨0, _, true, Nat.zero_le _, rfl, J0.out, hN3, hA3, hF3⟩
  case round =>
    clear hA3 hN3 hF3 J0
    obtain ⟨k, z, first, hk, rfl, hJ, hN, hA, hF⟩ := hrel
    have hHR : R + 1 < wr.heap.size := hN.zb.lt
    by_cases hlt : k < l.length
    · cases A with
      | none => have := HN.out rfl; omega
      | some a =>
        obtain ⟨hc0, hc1, hc2⟩ := (hF.at3 (HC.out a rfl k hlt)).lit
        have HY := Lib.hid (jinv_yes hlt hJ)
        have HX := Lib.hid (jinv_no hlt hJ)
        obtain ⟨hn0, hn1⟩ := jinv_le (Nat.le_of_lt hlt) hJ
        clear hJ
        generalize l[k] = x at *
        obtain ⟨xn, xi, xt⟩ := x
        dsimp only at hc0 hc1 hc2
        cases xn
        · have f1 := (Fr.refl Non wr).alloc (.cells #[.bool false, .int .i64 xi, .string ⟨xt.toArray⟩] 26)
          have hN1 := hN.non f1
          have hA1 := hA.fr f1 (fun e => e)
          have hF1 := hF.trans f1
          have HNote := Lib.hid (note_any (R + 1 + 1 + 1) (R + 1 + 1) (R + 1) first z ⟨false, xi, xt⟩ _ hN1 (by omega) (by omega) (by omega))
          replace HX := Lib.hid (HX.out rfl)
          clear HY hN f1 hN1 hA hF
          replace hA1 := Lib.hid hA1
          replace hF1 := Lib.hid hF1
          go_wp2_with fail
          refine HNote.out.mono ?_
          rintro e w4 ⟨rfl, hN4, f4⟩
          have hA4 := hA1.out.fr f4 (fun e => by rcases e with e | e <;> omega)
          have hF4 := hF1.out.fresh f4 (fun q e => by have := HW.out; rcases e with e | e <;> omega)
          replace hN4 := Lib.hid hN4
          go_wp2
          go_roundw
          case rel => exact ⟨k + 1, _, false, by omega, by go_num, HX.out, hN4.out, hA4, hF4⟩
          case measure => simp [intOf]; omega
        · have a1 : wr.cell? ⟨R + 1, 1, none⟩ = some (.int .i64 z.nulls) := hN.zb.cell 1
          have y1 := hN.zb.frozen 1
          have f2 := (Fr.refl (One (R + 1)) wr).set1 1 (.int .i64 (z.nulls + 1))
          have f1 := (Fr.refl Non (wr.setCell ⟨R + 1, 1, none⟩ (.int .i64 (z.nulls + 1)))).alloc (.cells #[.bool true, .int .i64 xi, .string ⟨xt.toArray⟩] 26)
          have hN2 := Lib.hid ((hN.nul (by omega) (by omega) (z.nulls + 1)).non f1)
          have hA2 := Lib.hid ((hA.fr f2 (fun e => by have : R = R + 1 := e; omega)).fr f1 (fun e => e))
          have hF2 := Lib.hid ((hF.fresh f2 (fun q e => by have : q = R + 1 := e; have := HW.out; omega)).trans f1)
          replace HY := Lib.hid (HY.out rfl)
          clear HX hN f1 f2 hA hF
          go_wp2_with fail
          go_roundw
          case rel => exact ⟨k + 1, _, first, by omega, by go_num, HY.out, hN2.out, hA2.out, hF2.out⟩
          case measure => simp [intOf]; omega
    · obtain rfl : k = l.length := by omega
      rw [List.take_length] at hJ
      have HE := Lib.hid (jinv_end hJ)
      obtain ⟨y0, y1, y2, y3, y4, y5, y6, y7⟩ := znB_froz hA
      obtain ⟨b0, b1, b2, b3, b4, b5, b6, b7⟩ := znB_cells hA
      obtain ⟨a0, a1, a2, a3, a4, a5, a6, a7⟩ := znB_cells hN.zb
      have HA := Lib.hid (setZn_B hA z)
      have HF := Lib.hid (hF.fresh (setZn_fr wr R z) (fun q e => by have : q = R := e; have := HW.out; omega))
      clear hJ hN hA hF
      go_wp2
      exact bodyPost_ret (v := znV z) (ret_zn (p := 2) rfl _ _ R z rfl HA.out) rfl ⟨z, rfl, HE.out, HF.out⟩
end Go.Proofs.Ytihofmmbdedhbaa


namespace Go.Proofs.Ytihofmmbdedhbaa
set_option linter.unusedVariables false
set_option linter.unusedSimpArgs false
set_option maxRecDepth 100000
open Go.RowKit

theorem zeq_dec (a b : Zn) : zeq a b = (decide (a.rows = b.rows) && (decide (a.nulls = b.nulls) && (decide (a.low.null = b.low.null) && (decide (a.low.num = b.low.num) && (decide (a.low.txt = b.low.txt) && (decide (a.high.null = b.high.null) && (decide (a.high.num = b.high.num) && decide (a.high.txt = b.high.txt)))))))) := by
  rw [zeq_parts, Bool.eq_iff_iff]
  simp
theorem ite_and (W : World) (p : Prop) [Decidable p] (x : Bool) : (if p then Result.ok (Value.bool x) W else Result.ok (Value.bool false) W) = Result.ok (Value.bool (decide p && x)) W := by
  by_cases hp : p <;> simp [hp]
theorem ite_andn (W : World) (p : Prop) [Decidable p] (x : Bool) : (if p then Result.ok (Value.bool x) W else Result.ok (Value.bool true) W) = Result.ok (Value.bool (!(decide p && !x))) W := by
  by_cases hp : p <;> simp [hp]
set_option maxHeartbeats 1000000 in
theorem run_eql_zn (W : World) (a b : Zn) : (binOp .eql 28 (.agg #[.int .i64 a.rows, .int .i64 a.nulls, .bool a.low.null, .int .i64 a.low.num, .string ⟨a.low.txt.toArray⟩, .bool a.high.null, .int .i64 a.high.num, .string ⟨a.high.txt.toArray⟩]) (.agg #[.int .i64 b.rows, .int .i64 b.nulls, .bool b.low.null, .int .i64 b.low.num, .string ⟨b.low.txt.toArray⟩, .bool b.high.null, .int .i64 b.high.num, .string ⟨b.high.txt.toArray⟩])).run Try.prog W = .ok (.bool (zeq a b)) W := by
  rw [zeq_dec]
  obtain ⟨ar, an, ⟨aln, ali, alt⟩, ⟨ahn, ahi, aht⟩⟩ := a
  obtain ⟨br, bn, ⟨bln, bli, blt⟩, ⟨bhn, bhi, bht⟩⟩ := b
  dsimp only
  go_simp
  simp only [ite_and, Bool.and_true]
set_option maxHeartbeats 1000000 in
theorem run_neq_zn (W : World) (a b : Zn) : (binOp .neq 28 (.agg #[.int .i64 a.rows, .int .i64 a.nulls, .bool a.low.null, .int .i64 a.low.num, .string ⟨a.low.txt.toArray⟩, .bool a.high.null, .int .i64 a.high.num, .string ⟨a.high.txt.toArray⟩]) (.agg #[.int .i64 b.rows, .int .i64 b.nulls, .bool b.low.null, .int .i64 b.low.num, .string ⟨b.low.txt.toArray⟩, .bool b.high.null, .int .i64 b.high.num, .string ⟨b.high.txt.toArray⟩])).run Try.prog W = .ok (.bool (!zeq a b)) W := by
  rw [zeq_dec]
  obtain ⟨ar, an, ⟨aln, ali, alt⟩, ⟨ahn, ahi, aht⟩⟩ := a
  obtain ⟨br, bn, ⟨bln, bli, blt⟩, ⟨bhn, bhi, bht⟩⟩ := b
  dsimp only
  go_simp
  simp only [ite_andn, Bool.and_true, Bool.not_not, Bool.not_false, Bool.not_true, Bool.not_and]

theorem isOf_ex : IsOf [⟨false, 3, []⟩, ⟨true, 0, []⟩, ⟨false, -1, []⟩] ⟨3, 1, ⟨false, -1, []⟩, ⟨false, 3, []⟩⟩ := by
  refine ⟨rfl, rfl, .inr ⟨by simp [liveC], by simp [liveC], ?_⟩⟩
  intro c hc
  rw [show liveC [⟨false, 3, []⟩, ⟨true, 0, []⟩, ⟨false, -1, []⟩] = [⟨false, 3, []⟩, ⟨false, -1, []⟩] from rfl] at hc
  simp at hc
  rcases hc with rfl | rfl <;> decide

set_option maxHeartbeats 1000000 in
theorem znlive_any (w : World) : Calls Try.prog 7 #[] w fun e w' => e = .returned (.bool true) ∧ Fr Non w w' := by
  have HO := oc_lit w 0 _ [⟨false, 3, []⟩, ⟨true, 0, []⟩, ⟨false, -1, []⟩] #[.bool false, .int .i64 3, .string ⟨#[]⟩, .bool true, .int .i64 0, .string ⟨#[]⟩, .bool false, .int .i64 (-1), .string ⟨#[]⟩] rfl rfl (Nat.zero_le _) (by decide)
  have H1 := Lib.hid (zof_any _ _ _ HO.cs (by decide))
  have F0 : Fr Non w _ := (Fr.refl Non w).alloc (.cells #[.bool false, .int .i64 3, .string ⟨#[]⟩, .bool true, .int .i64 0, .string ⟨#[]⟩, .bool false, .int .i64 (-1), .string ⟨#[]⟩] 26)
  replace F0 := Lib.hid F0
  clear HO
  have q := fun W => run_eql_zn W ⟨3, 1, ⟨false, -1, []⟩, ⟨false, 3, []⟩⟩ ⟨3, 1, ⟨false, -1, []⟩, ⟨false, 3, []⟩⟩
  rw [zeq_self] at q
  dsimp only at q
  go_enter Try.func7, Try.ntmps7
  go_wp2_with fail
  refine H1.out.mono ?_
  rintro e w1 ⟨z, rfl, hz, f1⟩
  obtain rfl := isOf_uniq hz isOf_ex
  unfold znV znC
  go_wp2
  go_ret
  exact ⟨rfl, F0.out.trans f1⟩

end Go.Proofs.Ytihofmmbdedhbaa


namespace Go.Proofs.Ytihofmmbdedhbaa
set_option linter.unusedVariables false
set_option linter.unusedSimpArgs false
set_option maxRecDepth 100000
open Go.RowKit

theorem ceq_no (c : Cl) (w : World) : Calls Try.prog 32 #[clV c, .agg #[.bool false, .int .i64 0, .string ⟨#[]⟩]] w fun e w' => e = .returned (.bool (ceq c noCl)) ∧ Fr Non w w' := csame_any c noCl w
/-- which zones, of a type's -/
theorem mayZ_is (ty : Int) (z : Zn) : mayZ ty z = (cntZ z && (isTy ty && (if bndZ z then mayC ty false z.low && (mayC ty false z.high && decide (ordC z.low z.high ≤ 0)) else ceq z.low noCl && ceq z.high noCl))) := by
  unfold mayZ
  cases cntZ z <;> cases isTy ty <;> cases bndZ z <;> simp [Bool.and_assoc]
set_option maxHeartbeats 1000000 in
theorem zmay_any (ty : Int) (z : Zn) (w : World) : Calls Try.prog 12 #[.int .i64 ty, znV z] w fun e w' => e = .returned (.bool (mayZ ty z)) ∧ Fr Non w w' := by
  have h0 : ZnB (w.alloc (.cells (znC z) 28)) w.heap.size z := Blk.new _ _ _
  have F0 : Fr Non w _ := (Fr.refl Non w).alloc (.cells (znC z) 28)
  have C1 := fun W => cnt_zn z W
  have T1 := fun W => ist_zn ty W
  have B1 := fun W => bnd_any z W
  have S1 := fun W => ceq_no z.low W
  have S2 := fun W => ceq_no z.high W
  have M1 := fun W => may_any ty false z.low W
  have M2 := fun W => may_any ty false z.high W
  have O1 := fun W => order_any z.low z.high W
  have HR := Lib.hid (mayZ_is ty z)
  unfold ZnB at h0
  unfold znV clV at *
  have h0 : Hid (ZnB _ w.heap.size z) := Lib.hid h0
  unfold znC clC at *
  have F0 := Lib.hid F0
  generalize cntZ z = c at *
  generalize isTy ty = t at *
  generalize bndZ z = b at *
  generalize ceq z.low noCl = e1 at *
  generalize ceq z.high noCl = e2 at *
  generalize mayC ty false z.low = m1 at *
  generalize mayC ty false z.high = m2 at *
  generalize ordC z.low z.high = x at *
  go_enter Try.func12, Try.ntmps12
  go_wp2_with fail
  refine (C1 _).mono ?_
  rintro e w1 ⟨rfl, f1⟩
  have h1 := h0.out.fr f1 (fun e => e)
  have F1 := Lib.hid (F0.out.trans f1)
  obtain ⟨a0, a1, a2, a3, a4, a5, a6, a7⟩ := znB_cells h1
  have h1 := Lib.hid h1
  clear f1
  clear C1
  cases c
  · clear T1 B1 S1 S2 M1 M2 O1
    go_wp2
    go_ret
    exact ⟨ret_boolE (by rw [HR.out]; rfl), F1.out⟩
  · skip
    go_wp2_with fail
    refine (T1 _).mono ?_
    rintro e w2 ⟨rfl, f2⟩
    have h2 := h1.out.fr f2 (fun e => e)
    have F2 := Lib.hid (F1.out.trans f2)
    clear a0 a1 a2 a3 a4 a5 a6 a7
    obtain ⟨a0, a1, a2, a3, a4, a5, a6, a7⟩ := znB_cells h2
    have h2 := Lib.hid h2
    clear f2
    clear T1
    cases t
    · clear B1 S1 S2 M1 M2 O1
      go_wp2
      go_ret
      exact ⟨ret_boolE (by rw [HR.out]; rfl), F2.out⟩
    · skip
      go_wp2_with fail
      refine (B1 _).mono ?_
      rintro e w3 ⟨rfl, f3⟩
      have h3 := h2.out.fr f3 (fun e => e)
      have F3 := Lib.hid (F2.out.trans f3)
      clear a0 a1 a2 a3 a4 a5 a6 a7
      obtain ⟨a0, a1, a2, a3, a4, a5, a6, a7⟩ := znB_cells h3
      have h3 := Lib.hid h3
      clear f3
      clear B1
      cases b
      · clear M1 M2 O1
        go_wp2_with fail
        refine (S1 _).mono ?_
        rintro e w4 ⟨rfl, f4⟩
        have h4 := h3.out.fr f4 (fun e => e)
        have F4 := Lib.hid (F3.out.trans f4)
        clear a0 a1 a2 a3 a4 a5 a6 a7
        obtain ⟨a0, a1, a2, a3, a4, a5, a6, a7⟩ := znB_cells h4
        have h4 := Lib.hid h4
        clear f4
        clear S1
        cases e1
        · clear S2
          go_wp2
          go_ret
          exact ⟨ret_boolE (by rw [HR.out]; rfl), F4.out⟩
        · skip
          go_wp2_with fail
          refine (S2 _).mono ?_
          rintro e w5 ⟨rfl, f5⟩
          have h5 := h4.out.fr f5 (fun e => e)
          have F5 := Lib.hid (F4.out.trans f5)
          clear a0 a1 a2 a3 a4 a5 a6 a7
          obtain ⟨a0, a1, a2, a3, a4, a5, a6, a7⟩ := znB_cells h5
          have h5 := Lib.hid h5
          clear f5
          go_wp2
          go_ret
          exact ⟨ret_boolE (by rw [HR.out]; rfl), F5.out⟩
      · clear S1 S2
        go_wp2_with fail
        refine (M1 _).mono ?_
        rintro e w4 ⟨rfl, f4⟩
        have h4 := h3.out.fr f4 (fun e => e)
        have F4 := Lib.hid (F3.out.trans f4)
        clear a0 a1 a2 a3 a4 a5 a6 a7
        obtain ⟨a0, a1, a2, a3, a4, a5, a6, a7⟩ := znB_cells h4
        have h4 := Lib.hid h4
        clear f4
        clear M1
        cases m1
        · clear M2 O1
          go_wp2
          go_ret
          exact ⟨ret_boolE (by rw [HR.out]; rfl), F4.out⟩
        · skip
          go_wp2_with fail
          refine (M2 _).mono ?_
          rintro e w5 ⟨rfl, f5⟩
          have h5 := h4.out.fr f5 (fun e => e)
          have F5 := Lib.hid (F4.out.trans f5)
          clear a0 a1 a2 a3 a4 a5 a6 a7
          obtain ⟨a0, a1, a2, a3, a4, a5, a6, a7⟩ := znB_cells h5
          have h5 := Lib.hid h5
          clear f5
          clear M2
          cases m2
          · clear O1
            go_wp2
            go_ret
            exact ⟨ret_boolE (by rw [HR.out]; rfl), F5.out⟩
          · skip
            go_wp2_with fail
            refine (O1 _).mono ?_
            rintro e w6 ⟨rfl, f6⟩
            have h6 := h5.out.fr f6 (fun e => e)
            have F6 := Lib.hid (F5.out.trans f6)
            clear a0 a1 a2 a3 a4 a5 a6 a7
            obtain ⟨a0, a1, a2, a3, a4, a5, a6, a7⟩ := znB_cells h6
            have h6 := Lib.hid h6
            clear f6
            go_wp2
            go_ret
            exact ⟨ret_boolE (by rw [HR.out]; rfl), F6.out⟩

set_option maxHeartbeats 1000000 in
theorem rzmay_any (ty : Int) (z : Zn) (w : World) : Calls Try.prog 14 #[.int .i64 ty, znV z] w fun e w' => e = .returned (.bool (mayZ ty z)) ∧ Fr Non w w' := by
  have h0 : ZnB (w.alloc (.cells (znC z) 28)) w.heap.size z := Blk.new _ _ _
  have F0 : Fr Non w _ := (Fr.refl Non w).alloc (.cells (znC z) 28)
  have M1 := fun W => rmay_any ty false z.low W
  have M2 := fun W => rmay_any ty false z.high W
  have O1 := fun W => rorder_any z.low z.high W
  have q1 := fun W => run_eql_cl W z.low noCl
  have q2 := fun W => run_eql_cl W z.high noCl
  have HR0 := Lib.hid (mayZ_is ty z)
  unfold ZnB at h0
  unfold znV clV at *
  have h0 : Hid (ZnB _ w.heap.size z) := Lib.hid h0
  unfold znC clC at *
  have F0 := Lib.hid F0
  unfold noCl at q1 q2
  dsimp only at q1 q2
  by_cases g : ty < 1 ∨ 3 < ty ∨ z.rows < 0 ∨ 4096 < z.rows ∨ z.nulls < 0 ∨ z.rows < z.nulls
  · have HR : Hid (mayZ ty z = false) := Lib.hid (by
      rw [HR0.out]
      rcases g with g | g | g
      · rw [show isTy ty = false by simp [isTy]; omega]; simp
      · rw [show isTy ty = false by simp [isTy]; omega]; simp
      · rw [show cntZ z = false from decide_eq_false (by omega)]; simp)
    clear HR0 M1 M2 O1 q1 q2
    by_cases g0 : ty < 1
    · clear g
      go_enter Try.func14, Try.ntmps14
      go_wp2
      go_ret
      exact ⟨ret_boolE HR.out.symm, F0.out⟩
    · skip
      by_cases g1 : 3 < ty
      · clear g
        go_enter Try.func14, Try.ntmps14
        go_wp2
        go_ret
        exact ⟨ret_boolE HR.out.symm, F0.out⟩
      · skip
        by_cases g2 : z.rows < 0
        · clear g
          go_enter Try.func14, Try.ntmps14
          go_wp2
          go_ret
          exact ⟨ret_boolE HR.out.symm, F0.out⟩
        · skip
          by_cases g3 : 4096 < z.rows
          · clear g
            go_enter Try.func14, Try.ntmps14
            go_wp2
            go_ret
            exact ⟨ret_boolE HR.out.symm, F0.out⟩
          · skip
            by_cases g4 : z.nulls < 0
            · clear g
              go_enter Try.func14, Try.ntmps14
              go_wp2
              go_ret
              exact ⟨ret_boolE HR.out.symm, F0.out⟩
            · skip
              have g5 : z.rows < z.nulls := by omega
              clear g
              go_enter Try.func14, Try.ntmps14
              go_wp2
              go_ret
              exact ⟨ret_boolE HR.out.symm, F0.out⟩
  · have d0 : isTy ty = true := by simp [isTy]; omega
    have d1 : cntZ z = true := decide_eq_true (by omega)
    have g0 : ¬ ty < 1 := by omega
    have g1 : ¬ 3 < ty := by omega
    have g2 : ¬ z.rows < 0 := by omega
    have g3 : ¬ 4096 < z.rows := by omega
    have g4 : ¬ z.nulls < 0 := by omega
    have g5 : ¬ z.rows < z.nulls := by omega
    have HR : Hid (mayZ ty z = (if bndZ z then mayC ty false z.low && (mayC ty false z.high && decide (ordC z.low z.high ≤ 0)) else ceq z.low noCl && ceq z.high noCl)) := Lib.hid (by rw [HR0.out, d0, d1]; simp)
    clear HR0 d0 d1 g
    have HN : noCl = ⟨false, 0, []⟩ := rfl
    rw [HN] at HR
    clear HN
    generalize ceq z.low ⟨false, 0, []⟩ = e1 at *
    generalize ceq z.high ⟨false, 0, []⟩ = e2 at *
    generalize mayC ty false z.low = m1 at *
    generalize mayC ty false z.high = m2 at *
    generalize ordC z.low z.high = x at *
    by_cases gb : z.nulls = z.rows
    · have HE : Hid (mayZ ty z = (e1 && e2)) := Lib.hid (by rw [HR.out, show bndZ z = false from decide_eq_false (by omega)]; rfl)
      clear HR M1 M2 O1
      have g6 : (z.nulls == z.rows) = true := by simpa using gb
      clear gb
      go_enter Try.func14, Try.ntmps14
      cases e1
      all_goals
        go_wp2
        go_ret
        exact ⟨ret_boolE (by rw [HE.out]; rfl), F0.out⟩
    · have HE : Hid (mayZ ty z = (m1 && (m2 && decide (x ≤ 0)))) := Lib.hid (by rw [HR.out, show bndZ z = true from decide_eq_true (by omega)]; rfl)
      clear HR q1 q2
      have g6 : (z.nulls == z.rows) = false := by simpa using gb
      clear gb
      go_enter Try.func14, Try.ntmps14
      go_wp2_with fail
      refine (M1 _).mono ?_
      rintro e w4 ⟨rfl, f4⟩
      have h4 := h0.out.fr f4 (fun e => e)
      have F4 := Lib.hid (F0.out.trans f4)
      obtain ⟨a0, a1, a2, a3, a4, a5, a6, a7⟩ := znB_cells h4
      have h4 := Lib.hid h4
      clear f4
      clear M1
      cases m1
      · clear M2 O1
        go_wp2
        go_ret
        exact ⟨ret_boolE (by rw [HE.out]; rfl), F4.out⟩
      · skip
        go_wp2_with fail
        refine (M2 _).mono ?_
        rintro e w5 ⟨rfl, f5⟩
        have h5 := h4.out.fr f5 (fun e => e)
        have F5 := Lib.hid (F4.out.trans f5)
        clear a0 a1 a2 a3 a4 a5 a6 a7
        obtain ⟨a0, a1, a2, a3, a4, a5, a6, a7⟩ := znB_cells h5
        have h5 := Lib.hid h5
        clear f5
        clear M2
        cases m2
        · clear O1
          go_wp2
          go_ret
          exact ⟨ret_boolE (by rw [HE.out]; rfl), F5.out⟩
        · skip
          go_wp2_with fail
          refine (O1 _).mono ?_
          rintro e w6 ⟨rfl, f6⟩
          have h6 := h5.out.fr f6 (fun e => e)
          have F6 := Lib.hid (F5.out.trans f6)
          clear a0 a1 a2 a3 a4 a5 a6 a7
          obtain ⟨a0, a1, a2, a3, a4, a5, a6, a7⟩ := znB_cells h6
          have h6 := Lib.hid h6
          clear f6
          go_wp2
          go_ret
          exact ⟨ret_boolE (by rw [HE.out]; rfl), F6.out⟩
end Go.Proofs.Ytihofmmbdedhbaa


namespace Go.Proofs.Ytihofmmbdedhbaa
set_option linter.unusedVariables false
set_option linter.unusedSimpArgs false
set_option maxRecDepth 100000
open Go.RowKit

/-- a cell's bytes -/
def cellB (ty : Int) (c : Cl) : List UInt8 := if c.null then [0] else if ty = 1 ∨ ty = 2 then [1] ++ Lib.uvarint (zig c.num) else if ty = 3 then [1] ++ textB c.txt else [1]
theorem cellB_null {ty : Int} {c : Cl} (h : c.null = true) : cellB ty c = [0] := by unfold cellB; rw [if_pos h]
theorem cellB_num {ty : Int} {c : Cl} (h : c.null = false) (ht : ty = 1 ∨ ty = 2) : cellB ty c = [1] ++ Lib.uvarint (zig c.num) := by unfold cellB; rw [h, if_neg (by simp), if_pos ht]
theorem cellB_txt {c : Cl} (h : c.null = false) : cellB 3 c = [1] ++ textB c.txt := by unfold cellB; rw [h, if_neg (by simp), if_neg (by omega), if_pos rfl]
theorem cellB_no {ty : Int} {c : Cl} (h : c.null = false) (h1 : ¬ ty = 1) (h2 : ¬ ty = 2) (h3 : ¬ ty = 3) : cellB ty c = [1] := by unfold cellB; rw [h, if_neg (by simp), if_neg (by omega), if_neg h3]

theorem textB_lt {t : Tx} (h : t.length < 1048576) : (textB t).length < 1048586 := by
  have := Lib.uvarint_length64 (show t.length < 18446744073709551616 by omega)
  unfold textB; rw [List.length_append]; omega

theorem own_one (w : World) (B : Nat) (z : Int) (b : UInt8) (hz : z = b.toNat) (hB : B ≤ w.heap.size) : Own (w.alloc (.cells #[.int .u8 z] 5)) B (.slice (some ⟨w.heap.size, 0, none⟩) 1 1) [b] := by
  subst hz
  exact (ow_lit w B w.heap.size [b] _ rfl rfl hB (by unfold maxLen; simp)).own

/-- a cell that there can be -/
structure ClOk (c : Cl) : Prop where
  lo : -9223372036854775808 ≤ c.num
  hi : c.num ≤ 9223372036854775807
  len : c.txt.length < 1048576

set_option maxHeartbeats 1000000 in
theorem cput_any (ty : Int) (c : Cl) (w : World) (hc : ClOk c) : Calls Try.prog 35 #[.int .i64 ty, clV c] w fun e w' => ∃ v, e = .returned v ∧ Own w' w.heap.size v (cellB ty c) ∧ Fr Non w w' := by
  obtain ⟨n, i, t⟩ := c
  obtain ⟨hlo, hhi, hlen⟩ := hc
  have H1 := Lib.hid hlo
  have H2 := Lib.hid hhi
  have H3 := Lib.hid hlen
  clear hlo hhi hlen
  unfold clV clC
  have hfa : Fr Non w (w.alloc (.cells #[.bool n, .int .i64 i, .string ⟨t.toArray⟩] 26)) := (Fr.refl _ _).alloc _
  cases n
  · have hl := own_one (w.alloc (.cells #[.bool false, .int .i64 i, .string ⟨t.toArray⟩] 26)) w.heap.size 1 1 rfl (by simp)
    have hfb := hfa.alloc (.cells #[.int .u8 1] 5)
    have hsz : (w.alloc (.cells #[.bool false, .int .i64 i, .string ⟨t.toArray⟩] 26)).heap.size = w.heap.size + 1 := by simp
    rw [hsz] at hl
    have HL := Lib.hid hl
    clear hl hsz
    by_cases h1 : ty = 1 ∨ ty = 2
    · have HE := Lib.hid (cellB_num (ty := ty) (c := ⟨false, i, t⟩) rfl h1)
      rcases h1 with h | h
      all_goals
        subst h
        go_enter Try.func35, Try.ntmps35
        go_wp2_with fail
        refine (vint_any i _ H1.out H2.out).mono ?_
        rintro e w1 ⟨v1, rfl, hown1, hf1⟩
        have hb1 := hfb.trans hf1
        have hs1 := hb1.size
        have hlz := Lib.uvarint_length64 (zig_lt H1.out H2.out)
        go_wp2_with (at_builtin; refine wpList_app rfl (.tmp 14) (.tmp 17) rfl w.heap.size _ v1 [1] (Lib.uvarint (zig i)) rfl (HL.out.non hf1) rfl hown1.bs (by simp; omega) hs1 ?_; intro v2 w2 hown2 hf2)
        go_ret
        exact ⟨v2, rfl, by rw [HE.out]; exact hown2, hb1.fresh hf2 (fun k hk => ((HL.out.non hf1).lt k hk).1)⟩
    · by_cases h3 : ty = 3
      · subst h3
        have HE := Lib.hid (cellB_txt (c := ⟨false, i, t⟩) rfl)
        clear h1
        go_enter Try.func35, Try.ntmps35
        go_wp2_with fail
        refine (vtext_any t _ H3.out).mono ?_
        rintro e w1 ⟨v1, rfl, hown1, hf1⟩
        have hb1 := hfb.trans hf1
        have hs1 := hb1.size
        have hlz := textB_lt H3.out
        go_wp2_with (at_builtin; refine wpList_app rfl (.tmp 21) (.tmp 24) rfl w.heap.size _ v1 [1] (textB t) rfl (HL.out.non hf1) rfl hown1.bs (by simp; omega) hs1 ?_; intro v2 w2 hown2 hf2)
        go_ret
        exact ⟨v2, rfl, by rw [HE.out]; exact hown2, hb1.fresh hf2 (fun k hk => ((HL.out.non hf1).lt k hk).1)⟩
      · have h1' : ¬ ty = 1 := fun e => h1 (.inl e)
        have h2' : ¬ ty = 2 := fun e => h1 (.inr e)
        have HE := Lib.hid (cellB_no (ty := ty) (c := ⟨false, i, t⟩) rfl h1' h2' h3)
        clear h1
        go_enter Try.func35, Try.ntmps35
        go_wp2
        go_ret
        exact ⟨_, rfl, by rw [HE.out]; exact HL.out, hfb⟩
  · have hl := own_one (w.alloc (.cells #[.bool true, .int .i64 i, .string ⟨t.toArray⟩] 26)) w.heap.size 0 0 rfl (by simp)
    have hfb := hfa.alloc (.cells #[.int .u8 0] 5)
    have hsz : (w.alloc (.cells #[.bool true, .int .i64 i, .string ⟨t.toArray⟩] 26)).heap.size = w.heap.size + 1 := by simp
    rw [hsz] at hl
    have HL := Lib.hid hl
    clear hl hsz
    go_enter Try.func35, Try.ntmps35
    go_wp2
    go_ret
    exact ⟨_, rfl, by rw [cellB_null rfl]; exact HL.out, hfb⟩

set_option maxHeartbeats 1000000 in
theorem rcput_any (ty : Int) (c : Cl) (w : World) (hc : ClOk c) : Calls Try.prog 37 #[.int .i64 ty, clV c] w fun e w' => ∃ v, e = .returned v ∧ Own w' w.heap.size v (cellB ty c) ∧ Fr Non w w' := by
  obtain ⟨n, i, t⟩ := c
  obtain ⟨hlo, hhi, hlen⟩ := hc
  have H1 := Lib.hid hlo
  have H2 := Lib.hid hhi
  have H3 := Lib.hid hlen
  clear hlo hhi hlen
  unfold clV clC
  have hfa : Fr Non w (w.alloc (.cells #[.bool n, .int .i64 i, .string ⟨t.toArray⟩] 26)) := (Fr.refl _ _).alloc _
  cases n
  · have hl := own_one (w.alloc (.cells #[.bool false, .int .i64 i, .string ⟨t.toArray⟩] 26)) w.heap.size 1 1 rfl (by simp)
    have hfb := hfa.alloc (.cells #[.int .u8 1] 5)
    have hsz : (w.alloc (.cells #[.bool false, .int .i64 i, .string ⟨t.toArray⟩] 26)).heap.size = w.heap.size + 1 := by simp
    rw [hsz] at hl
    have HL := Lib.hid hl
    clear hl hsz
    by_cases h1 : ty = 1 ∨ ty = 2
    · have HE := Lib.hid (cellB_num (ty := ty) (c := ⟨false, i, t⟩) rfl h1)
      rcases h1 with h | h
      all_goals
        subst h
        go_enter Try.func37, Try.ntmps37
        go_wp2_with fail
        refine (rint_any i _ H1.out H2.out).mono ?_
        rintro e w1 ⟨v1, rfl, hown1, hf1⟩
        have hb1 := hfb.trans hf1
        have hs1 := hb1.size
        have hlz := Lib.uvarint_length64 (zig_lt H1.out H2.out)
        go_wp2_with (at_builtin; refine wpList_app rfl (.tmp 12) (.tmp 15) rfl w.heap.size _ v1 [1] (Lib.uvarint (zig i)) rfl (HL.out.non hf1) rfl hown1.bs (by simp; omega) hs1 ?_; intro v2 w2 hown2 hf2)
        go_ret
        exact ⟨v2, rfl, by rw [HE.out]; exact hown2, hb1.fresh hf2 (fun k hk => ((HL.out.non hf1).lt k hk).1)⟩
    · by_cases h3 : ty = 3
      · subst h3
        have HE := Lib.hid (cellB_txt (c := ⟨false, i, t⟩) rfl)
        clear h1
        go_enter Try.func37, Try.ntmps37
        go_wp2_with fail
        refine (rtext_any t _ H3.out).mono ?_
        rintro e w1 ⟨v1, rfl, hown1, hf1⟩
        have hb1 := hfb.trans hf1
        have hs1 := hb1.size
        have hlz := textB_lt H3.out
        go_wp2_with (at_builtin; refine wpList_app rfl (.tmp 19) (.tmp 22) rfl w.heap.size _ v1 [1] (textB t) rfl (HL.out.non hf1) rfl hown1.bs (by simp; omega) hs1 ?_; intro v2 w2 hown2 hf2)
        go_ret
        exact ⟨v2, rfl, by rw [HE.out]; exact hown2, hb1.fresh hf2 (fun k hk => ((HL.out.non hf1).lt k hk).1)⟩
      · have h1' : ¬ ty = 1 := fun e => h1 (.inl e)
        have h2' : ¬ ty = 2 := fun e => h1 (.inr e)
        have HE := Lib.hid (cellB_no (ty := ty) (c := ⟨false, i, t⟩) rfl h1' h2' h3)
        clear h1
        go_enter Try.func37, Try.ntmps37
        go_wp2
        go_ret
        exact ⟨_, rfl, by rw [HE.out]; exact HL.out, hfb⟩
  · have hl := own_one (w.alloc (.cells #[.bool true, .int .i64 i, .string ⟨t.toArray⟩] 26)) w.heap.size 0 0 rfl (by simp)
    have hfb := hfa.alloc (.cells #[.int .u8 0] 5)
    have hsz : (w.alloc (.cells #[.bool true, .int .i64 i, .string ⟨t.toArray⟩] 26)).heap.size = w.heap.size + 1 := by simp
    rw [hsz] at hl
    have HL := Lib.hid hl
    clear hl hsz
    go_enter Try.func37, Try.ntmps37
    go_wp2
    go_ret
    exact ⟨_, rfl, by rw [cellB_null rfl]; exact HL.out, hfb⟩
end Go.Proofs.Ytihofmmbdedhbaa


namespace Go.Proofs.Ytihofmmbdedhbaa
set_option linter.unusedVariables false
set_option linter.unusedSimpArgs false
set_option maxRecDepth 100000
open Go.RowKit

/-- append as one step of a region that draws -/
theorem step_app {w : World} {ops : Array Oper} {o : Oper} {a : Act} {K : Act → World → Prop} {Q : Exit → Act → World → Prop} {E : Prop} (hgd : o.guard = none) (s x : Operand)
    (ho : o.op = .call { callee := .builtin .append, args := #[s, x], argTypes := #[36, 36] })
    (B : Nat) (v y : Value) (l m : List UInt8) (hs : a.eval s = v) (hown : Own w B v l) (hx : a.eval x = y) (hy : Bs w y m)
    (hl : l.length + m.length < 140737488355328) (hB : B ≤ w.heap.size)
    (h : ∀ v' w', Own w' B v' (l ++ m) → Fr (fun k => v.ownBlock = some k) w w' → K (a.put o.dst v') w') : if Region.wanted o (yielded ops a.tmps) = true then Oper.wp Try.prog o a w K Q else E := by
  have hw : Region.wanted o (yielded ops a.tmps) = true := by simp [Region.wanted, hgd]
  rw [if_pos hw]
  exact wp_app s x ho B v y l m hs hown hx hy hl hB h
end Go.Proofs.Ytihofmmbdedhbaa


namespace Go.Proofs.Ytihofmmbdedhbaa
set_option linter.unusedVariables false
set_option linter.unusedSimpArgs false
set_option maxRecDepth 100000
open Go.RowKit

/-- a zone's bytes -/
def zoneB (ty : Int) (z : Zn) : List UInt8 :=
  if mayZ ty z = true then (Lib.uvarint z.rows.toNat ++ Lib.uvarint z.nulls.toNat) ++ (if bndZ z = true then cellB ty z.low ++ cellB ty z.high else []) else []
theorem zoneB_no {ty : Int} {z : Zn} (h : mayZ ty z = false) : zoneB ty z = [] := by unfold zoneB; rw [h]; rfl
theorem zoneB_none {ty : Int} {z : Zn} (h : mayZ ty z = true) (hb : bndZ z = false) : zoneB ty z = Lib.uvarint z.rows.toNat ++ Lib.uvarint z.nulls.toNat := by unfold zoneB; rw [h, hb]; simp
theorem zoneB_some {ty : Int} {z : Zn} (h : mayZ ty z = true) (hb : bndZ z = true) : zoneB ty z = ((Lib.uvarint z.rows.toNat ++ Lib.uvarint z.nulls.toNat) ++ cellB ty z.low) ++ cellB ty z.high := by unfold zoneB; rw [h, hb]; simp
theorem mayZ_cnt {ty : Int} {z : Zn} (h : mayZ ty z = true) : 0 ≤ z.nulls ∧ z.nulls ≤ z.rows ∧ z.rows ≤ 4096 := by
  rw [mayZ_is] at h
  have : cntZ z = true := by revert h; cases cntZ z <;> simp
  exact of_decide_eq_true this
theorem cellB_lt {ty : Int} {c : Cl} (h : ClOk c) : (cellB ty c).length < 2097152 := by
  have h1 := Lib.uvarint_length64 (zig_lt h.lo h.hi)
  have h2 := textB_lt h.len
  unfold cellB
  split
  · simp
  · split
    · simp; omega
    · split
      · simp; omega
      · simp

set_option maxHeartbeats 4000000 in
theorem zput_any (ty : Int) (z : Zn) (w : World) (hlo : ClOk z.low) (hhi : ClOk z.high) :
    Calls Try.prog 16 #[.int .i64 ty, znV z] w fun e w' => ∃ v, e = .returned v ∧ Own w' w.heap.size v (zoneB ty z) ∧ Fr Non w w' := by
  have h0 : ZnB (w.alloc (.cells (znC z) 28)) w.heap.size z := Blk.new _ _ _
  have F0 : Fr Non w _ := (Fr.refl Non w).alloc (.cells (znC z) 28)
  have M1 := fun W => zmay_any ty z W
  have B1 := fun W => bnd_any z W
  cases hm : mayZ ty z
  · have HE := Lib.hid (zoneB_no hm)
    rw [hm] at M1
    unfold znV znC at *
    clear h0 hm B1
    replace F0 := Lib.hid F0
    go_enter Try.func16, Try.ntmps16
    go_wp2_with fail
    refine (M1 _).mono ?_
    rintro e w1 ⟨rfl, f1⟩
    go_wp2
    go_ret
    exact ⟨_, rfl, by rw [HE.out]; exact own_nil _ _, F0.out.trans f1⟩
  · obtain ⟨q1, q2, q3⟩ := mayZ_cnt hm
    have HN := Lib.hid (fun hb => zoneB_none (ty := ty) (z := z) hm hb)
    have HS := Lib.hid (fun hb => zoneB_some (ty := ty) (z := z) hm hb)
    rw [hm] at M1
    clear hm
    obtain ⟨r, n, lo, hi⟩ := z
    dsimp only at q1 q2 q3 hlo hhi
    obtain ⟨n, rfl⟩ := Int.eq_ofNat_of_zero_le q1
    obtain ⟨r, rfl⟩ := Int.eq_ofNat_of_zero_le (show 0 ≤ r by omega)
    have N1 := Lib.hid (fun W => vnum_any r W (by unfold two64; omega))
    have N2 := Lib.hid (fun W => vnum_any n W (by unfold two64; omega))
    have L1 := Lib.uvarint_length64 (show r < 18446744073709551616 by omega)
    have L2 := Lib.uvarint_length64 (show n < 18446744073709551616 by omega)
    have L3 := cellB_lt (ty := ty) hlo
    have L4 := cellB_lt (ty := ty) hhi
    have e1 : IntKind.u64.wrap (r : Int) = r := IntWalk.u64_in _ ⟨by omega, by omega⟩
    have e2 : IntKind.u64.wrap (n : Int) = n := IntWalk.u64_in _ ⟨by omega, by omega⟩
    replace hlo := Lib.hid hlo
    replace hhi := Lib.hid hhi
    unfold znV znC at *
    dsimp only [Int.toNat_natCast] at HN HS
    clear q1 q2 q3
    replace F0 := Lib.hid F0
    replace h0 : Hid (ZnB _ _ _) := Lib.hid h0
    go_enter Try.func16, Try.ntmps16
    go_wp2_with fail
    refine (M1 _).mono ?_
    rintro e w1 ⟨rfl, f1⟩
    have h1 : ZnB _ _ _ := h0.out.fr f1 (fun e => e)
    have F1 := F0.out.trans f1
    clear h0 F0 f1 M1
    have HB1 := Lib.hid (show w.heap.size + 1 ≤ w1.drew.heap.size from h1.lt)
    generalize hR : w.heap.size = R at *
    go_wp2
    have hD : ZnB w1.drew R _ := h1
    have FD := F1.drew
    have c0 : w1.drew.cell? ⟨R, 0, none⟩ = some (.int .i64 r) := hD.cell 0
    have c1 : w1.drew.cell? ⟨R, 1, none⟩ = some (.int .i64 n) := hD.cell 1
    clear h1 F1
    replace hD : Hid (ZnB _ _ _) := Lib.hid hD
    replace FD := Lib.hid FD
    go_region_held3 (fun W => W.cell? ⟨R, 0, none⟩ = some (.int .i64 r) ∧ W.cell? ⟨R, 1, none⟩ = some (.int .i64 n)) (first | exact ⟨c0, c1⟩ | exact ⟨c2, c3⟩ | exact ⟨c4, c5⟩ | exact ⟨c6, c7⟩ | fail) (first | (go_at_call 34; (with_reducible refine (N1.out _).mono ?_); rintro e w2 ⟨v2, rfl, own2, f2⟩; have h2 : ZnB w2 R _ := hD.out.fr f2 (fun e => e); have F2 := FD.out.trans f2; have c2 : w2.cell? ⟨R, 0, none⟩ = some (.int .i64 r) := h2.cell 0; have c3 : w2.cell? ⟨R, 1, none⟩ = some (.int .i64 n) := h2.cell 1) | (go_at_call 34; (with_reducible refine (N2.out _).mono ?_); rintro e w3 ⟨v3, rfl, own3, f3⟩; have h3 : ZnB w3 R _ := h2.fr f3 (fun e => e); have F3 := F2.trans f3; have c4 : w3.cell? ⟨R, 0, none⟩ = some (.int .i64 r) := h3.cell 0; have c5 : w3.cell? ⟨R, 1, none⟩ = some (.int .i64 n) := h3.cell 1) | (refine step_app rfl (.tmp 13) (.tmp 17) (by rfl) (R + 1) v2 v3 (Lib.uvarint r) (Lib.uvarint n) (by rfl) ((own2.mono (HB1.out)).non f3) (by rfl) own3.bs (by omega) (Nat.le_trans HB1.out (Nat.le_trans f2.size f3.size)) ?_; intro v4 w4 own4 f4; have h4 : ZnB w4 R _ := h3.fr f4 (fun e => by have := (own2.lt R e).1; have := HB1.out; have : R + 1 ≤ w1.drew.heap.size := HB1.out; omega); have F4 := F3.fresh f4 (fun k hk => by have := (own2.lt k hk).1; have : R + 1 ≤ w1.drew.heap.size := HB1.out; omega); have c6 : w4.cell? ⟨R, 0, none⟩ = some (.int .i64 r) := h4.cell 0; have c7 : w4.cell? ⟨R, 1, none⟩ = some (.int .i64 n) := h4.cell 1))
    clear c0 c1 c2 c3 c4 c5 c6 c7 own2 own3 h2 h3 F2 F3 f2 f3 f4 hD FD N1 N2 e1 e2
    obtain ⟨a0, a1, a2, a3, a4, a5, a6, a7⟩ := znB_cells h4
    replace h4 : Hid (ZnB _ _ _) := Lib.hid h4
    replace F4 := Lib.hid F4
    replace own4 := Lib.hid own4
    go_wp2_with fail
    refine (B1 _).mono ?_
    rintro e w5 ⟨rfl, f5⟩
    have h5 : ZnB _ _ _ := h4.out.fr f5 (fun e => e)
    have F5 := F4.out.trans f5
    have own5 := own4.out.non f5
    clear h4 F4 own4 f5 a0 a1 a2 a3 a4 a5 a6 a7 B1
    cases hb : bndZ ⟨r, n, lo, hi⟩
    · replace HN := Lib.hid (HN.out hb)
      clear HS h5 HB1
      replace F5 := Lib.hid F5
      replace own5 := Lib.hid own5
      go_wp2
      go_ret
      exact ⟨v4, rfl, by rw [HN.out, hR]; exact own5.out.mono (by omega), F5.out⟩
    · replace HS := Lib.hid (HS.out hb)
      clear HN
      obtain ⟨a0, a1, a2, a3, a4, a5, a6, a7⟩ := znB_cells h5
      replace h5 : Hid (ZnB _ _ _) := Lib.hid h5
      have HB5 := F5.size
      replace F5 := Lib.hid F5
      replace own5 := Lib.hid own5
      have hs5 : Hid (R + 1 ≤ w5.heap.size) := Lib.hid h5.out.lt
      go_wp2_with fail
      refine (cput_any ty lo _ hlo.out).mono ?_
      rintro e w6 ⟨u6, rfl, ow6, f6⟩
      have h6 : ZnB _ _ _ := h5.out.fr f6 (fun e => e)
      have F6 := F5.out.trans f6
      have own6 := own5.out.non f6
      have hs6 : Hid (R + 1 ≤ w6.heap.size) := Lib.hid h6.lt
      clear h5 F5 own5 f6 hs5 a0 a1 a2 a3 a4 a5 a6 a7
      replace h6 : Hid (ZnB _ _ _) := Lib.hid h6
      replace F6 := Lib.hid F6
      go_wp2_with (at_builtin; refine wpList_app rfl (.tmp 21) (.tmp 25) rfl (R + 1) v4 u6 (Lib.uvarint r ++ Lib.uvarint n) (cellB ty lo) rfl own6 rfl ow6.bs (by rw [List.length_append]; omega) hs6.out ?_; intro v7 w7 own7 f7; have h7 : ZnB w7 R _ := h6.out.fr f7 (fun e => by have := (own6.lt R e).1; omega); have F7 := F6.out.fresh f7 (fun k hk => by have := (own6.lt k hk).1; omega); obtain ⟨a0, a1, a2, a3, a4, a5, a6, a7⟩ := znB_cells h7)
      refine (cput_any ty hi _ hhi.out).mono ?_
      rintro e w8 ⟨u8, rfl, ow8, f8⟩
      have F8 := F7.trans f8
      have own8 := own7.non f8
      have hs8 : Hid (R + 1 ≤ w8.heap.size) := Lib.hid (Nat.le_trans h7.lt f8.size)
      clear a0 a1 a2 a3 a4 a5 a6 a7 h7 F7 own7 f8 own6 ow6 h6 F6 hs6 f7
      replace F8 := Lib.hid F8
      go_wp2_with (at_builtin; refine wpList_app rfl (.tmp 27) (.tmp 31) rfl (R + 1) v7 u8 ((Lib.uvarint r ++ Lib.uvarint n) ++ cellB ty lo) (cellB ty hi) rfl own8 rfl ow8.bs (by rw [List.length_append, List.length_append]; omega) hs8.out ?_; intro v9 w9 own9 f9)
      have F9 := F8.out.fresh f9 (fun k hk => by have := (own8.lt k hk).1; omega)
      clear F8 f9 own8 ow8
      replace own9 := Lib.hid own9
      replace F9 := Lib.hid F9
      go_ret
      exact ⟨v9, rfl, by rw [HS.out, hR]; exact own9.out.mono (by omega), F9.out⟩

set_option maxHeartbeats 4000000 in
theorem rzput_any (ty : Int) (z : Zn) (w : World) (hlo : ClOk z.low) (hhi : ClOk z.high) :
    Calls Try.prog 19 #[.int .i64 ty, znV z] w fun e w' => ∃ v, e = .returned v ∧ Own w' w.heap.size v (zoneB ty z) ∧ Fr Non w w' := by
  have h0 : ZnB (w.alloc (.cells (znC z) 28)) w.heap.size z := Blk.new _ _ _
  have F0 : Fr Non w _ := (Fr.refl Non w).alloc (.cells (znC z) 28)
  have M1 := fun W => rzmay_any ty z W
  cases hm : mayZ ty z
  · have HE := Lib.hid (zoneB_no hm)
    rw [hm] at M1
    unfold znV znC at *
    clear h0 hm
    replace F0 := Lib.hid F0
    go_enter Try.func19, Try.ntmps19
    go_wp2_with fail
    refine (M1 _).mono ?_
    rintro e w1 ⟨rfl, f1⟩
    go_wp2
    go_ret
    exact ⟨_, rfl, by rw [HE.out]; exact own_nil _ _, F0.out.trans f1⟩
  · obtain ⟨q1, q2, q3⟩ := mayZ_cnt hm
    have HN := Lib.hid (fun hb => zoneB_none (ty := ty) (z := z) hm hb)
    have HS := Lib.hid (fun hb => zoneB_some (ty := ty) (z := z) hm hb)
    rw [hm] at M1
    clear hm
    obtain ⟨r, n, lo, hi⟩ := z
    dsimp only at q1 q2 q3 hlo hhi
    obtain ⟨n, rfl⟩ := Int.eq_ofNat_of_zero_le q1
    obtain ⟨r, rfl⟩ := Int.eq_ofNat_of_zero_le (show 0 ≤ r by omega)
    have N1 := Lib.hid (fun W => rnum_any r W (by unfold two64; omega))
    have N2 := Lib.hid (fun W => rnum_any n W (by unfold two64; omega))
    have L1 := Lib.uvarint_length64 (show r < 18446744073709551616 by omega)
    have L2 := Lib.uvarint_length64 (show n < 18446744073709551616 by omega)
    have L3 := cellB_lt (ty := ty) hlo
    have L4 := cellB_lt (ty := ty) hhi
    have e1 : IntKind.u64.wrap (r : Int) = r := IntWalk.u64_in _ ⟨by omega, by omega⟩
    have e2 : IntKind.u64.wrap (n : Int) = n := IntWalk.u64_in _ ⟨by omega, by omega⟩
    replace hlo := Lib.hid hlo
    replace hhi := Lib.hid hhi
    unfold znV znC at *
    dsimp only [Int.toNat_natCast] at HN HS
    clear q1 q2 q3
    replace F0 := Lib.hid F0
    replace h0 : Hid (ZnB _ _ _) := Lib.hid h0
    go_enter Try.func19, Try.ntmps19
    go_wp2_with fail
    refine (M1 _).mono ?_
    rintro e w1 ⟨rfl, f1⟩
    have h1 : ZnB _ _ _ := h0.out.fr f1 (fun e => e)
    have F1 := F0.out.trans f1
    clear h0 F0 f1 M1
    have HB1 := Lib.hid (show w.heap.size + 1 ≤ w1.drew.heap.size from h1.lt)
    generalize hR : w.heap.size = R at *
    go_wp2
    have hD : ZnB w1.drew R _ := h1
    have FD := F1.drew
    have c0 : w1.drew.cell? ⟨R, 0, none⟩ = some (.int .i64 r) := hD.cell 0
    have c1 : w1.drew.cell? ⟨R, 1, none⟩ = some (.int .i64 n) := hD.cell 1
    clear h1 F1
    replace hD : Hid (ZnB _ _ _) := Lib.hid hD
    replace FD := Lib.hid FD
    go_region_held3 (fun W => W.cell? ⟨R, 0, none⟩ = some (.int .i64 r) ∧ W.cell? ⟨R, 1, none⟩ = some (.int .i64 n)) (first | exact ⟨c0, c1⟩ | exact ⟨c2, c3⟩ | exact ⟨c4, c5⟩ | exact ⟨c6, c7⟩ | fail) (first | (go_at_call 36; (with_reducible refine (N1.out _).mono ?_); rintro e w2 ⟨v2, rfl, own2, f2⟩; have h2 : ZnB w2 R _ := hD.out.fr f2 (fun e => e); have F2 := FD.out.trans f2; have c2 : w2.cell? ⟨R, 0, none⟩ = some (.int .i64 r) := h2.cell 0; have c3 : w2.cell? ⟨R, 1, none⟩ = some (.int .i64 n) := h2.cell 1) | (go_at_call 36; (with_reducible refine (N2.out _).mono ?_); rintro e w3 ⟨v3, rfl, own3, f3⟩; have h3 : ZnB w3 R _ := h2.fr f3 (fun e => e); have F3 := F2.trans f3; have c4 : w3.cell? ⟨R, 0, none⟩ = some (.int .i64 r) := h3.cell 0; have c5 : w3.cell? ⟨R, 1, none⟩ = some (.int .i64 n) := h3.cell 1) | (refine step_app rfl (.tmp 13) (.tmp 17) (by rfl) (R + 1) v2 v3 (Lib.uvarint r) (Lib.uvarint n) (by rfl) ((own2.mono (HB1.out)).non f3) (by rfl) own3.bs (by omega) (Nat.le_trans HB1.out (Nat.le_trans f2.size f3.size)) ?_; intro v4 w4 own4 f4; have h4 : ZnB w4 R _ := h3.fr f4 (fun e => by have := (own2.lt R e).1; have := HB1.out; have : R + 1 ≤ w1.drew.heap.size := HB1.out; omega); have F4 := F3.fresh f4 (fun k hk => by have := (own2.lt k hk).1; have : R + 1 ≤ w1.drew.heap.size := HB1.out; omega); have c6 : w4.cell? ⟨R, 0, none⟩ = some (.int .i64 r) := h4.cell 0; have c7 : w4.cell? ⟨R, 1, none⟩ = some (.int .i64 n) := h4.cell 1))
    clear c0 c1 c2 c3 c4 c5 c6 c7 own2 own3 h2 h3 F2 F3 f2 f3 f4 hD FD N1 N2 e1 e2
    by_cases hb : (n : Int) < r
    · have hbz : bndZ ⟨r, n, lo, hi⟩ = true := decide_eq_true hb
      replace HS := Lib.hid (HS.out hbz)
      clear HN hbz
      obtain ⟨a0, a1, a2, a3, a4, a5, a6, a7⟩ := znB_cells h4
      replace h4 : Hid (ZnB _ _ _) := Lib.hid h4
      replace F4 := Lib.hid F4
      replace own4 := Lib.hid own4
      go_wp2
      clear a0 a1 a2 a3 a4 a5 a6 a7
      have hD : ZnB w4.drew R _ := h4.out
      have FD := F4.out.drew
      have ownD : Own w4.drew (R + 1) v4 _ := own4.out
      have hsD : R + 1 ≤ w4.drew.heap.size := hD.lt
      have t0 : w4.drew.cell? ⟨R, 2, none⟩ = some (.bool lo.null) := hD.cell 2
      have t1 : w4.drew.cell? ⟨R, 3, none⟩ = some (.int .i64 lo.num) := hD.cell 3
      have t2 : w4.drew.cell? ⟨R, 4, none⟩ = some (.string ⟨lo.txt.toArray⟩) := hD.cell 4
      have t3 : w4.drew.cell? ⟨R, 5, none⟩ = some (.bool hi.null) := hD.cell 5
      have t4 : w4.drew.cell? ⟨R, 6, none⟩ = some (.int .i64 hi.num) := hD.cell 6
      have t5 : w4.drew.cell? ⟨R, 7, none⟩ = some (.string ⟨hi.txt.toArray⟩) := hD.cell 7
      clear h4 F4 own4
      replace hD : Hid (ZnB _ _ _) := Lib.hid hD
      replace FD := Lib.hid FD
      replace ownD := Lib.hid ownD
      have P1 := Lib.hid (fun W => rcput_any ty lo W hlo.out)
      have P2 := Lib.hid (fun W => rcput_any ty hi W hhi.out)
      unfold clV clC at P1 P2
      go_region_held3 (fun W => W.cell? ⟨R, 2, none⟩ = some (.bool lo.null) ∧ W.cell? ⟨R, 3, none⟩ = some (.int .i64 lo.num) ∧ W.cell? ⟨R, 4, none⟩ = some (.string ⟨lo.txt.toArray⟩) ∧ W.cell? ⟨R, 5, none⟩ = some (.bool hi.null) ∧ W.cell? ⟨R, 6, none⟩ = some (.int .i64 hi.num) ∧ W.cell? ⟨R, 7, none⟩ = some (.string ⟨hi.txt.toArray⟩)) (first | exact ⟨t0, t1, t2, t3, t4, t5⟩ | exact ⟨b0, b1, b2, b3, b4, b5⟩ | exact ⟨c0, c1, c2, c3, c4, c5⟩ | exact ⟨d0, d1, d2, d3, d4, d5⟩ | exact ⟨e0, e1, e2, e3, e4, e5⟩ | fail) (first | (go_at_call 37; (with_reducible refine (P1.out _).mono ?_); rintro e w5 ⟨u5, rfl, ow5, f5⟩; have h5 : ZnB w5 R _ := hD.out.fr f5 (fun e => e); have F5 := FD.out.trans f5; have own5 := ownD.out.non f5; have b0 : w5.cell? ⟨R, 2, none⟩ = some (.bool lo.null) := h5.cell 2; have b1 : w5.cell? ⟨R, 3, none⟩ = some (.int .i64 lo.num) := h5.cell 3; have b2 : w5.cell? ⟨R, 4, none⟩ = some (.string ⟨lo.txt.toArray⟩) := h5.cell 4; have b3 : w5.cell? ⟨R, 5, none⟩ = some (.bool hi.null) := h5.cell 5; have b4 : w5.cell? ⟨R, 6, none⟩ = some (.int .i64 hi.num) := h5.cell 6; have b5 : w5.cell? ⟨R, 7, none⟩ = some (.string ⟨hi.txt.toArray⟩) := h5.cell 7) | (refine step_app rfl (.tmp 24) (.tmp 28) (by rfl) (R + 1) v4 u5 (Lib.uvarint r ++ Lib.uvarint n) (cellB ty lo) (by rfl) own5 (by rfl) ow5.bs (by rw [List.length_append]; omega) h5.lt ?_; intro v6 w6 own6 f6; have h6 : ZnB w6 R _ := h5.fr f6 (fun e => by have := (own5.lt R e).1; omega); have F6 := F5.fresh f6 (fun k hk => by have := (own5.lt k hk).1; omega); have c0 : w6.cell? ⟨R, 2, none⟩ = some (.bool lo.null) := h6.cell 2; have c1 : w6.cell? ⟨R, 3, none⟩ = some (.int .i64 lo.num) := h6.cell 3; have c2 : w6.cell? ⟨R, 4, none⟩ = some (.string ⟨lo.txt.toArray⟩) := h6.cell 4; have c3 : w6.cell? ⟨R, 5, none⟩ = some (.bool hi.null) := h6.cell 5; have c4 : w6.cell? ⟨R, 6, none⟩ = some (.int .i64 hi.num) := h6.cell 6; have c5 : w6.cell? ⟨R, 7, none⟩ = some (.string ⟨hi.txt.toArray⟩) := h6.cell 7) | (go_at_call 37; (with_reducible refine (P2.out _).mono ?_); rintro e w7 ⟨u7, rfl, ow7, f7⟩; have h7 : ZnB w7 R _ := h6.fr f7 (fun e => e); have F7 := F6.trans f7; have own7 := own6.non f7; have d0 : w7.cell? ⟨R, 2, none⟩ = some (.bool lo.null) := h7.cell 2; have d1 : w7.cell? ⟨R, 3, none⟩ = some (.int .i64 lo.num) := h7.cell 3; have d2 : w7.cell? ⟨R, 4, none⟩ = some (.string ⟨lo.txt.toArray⟩) := h7.cell 4; have d3 : w7.cell? ⟨R, 5, none⟩ = some (.bool hi.null) := h7.cell 5; have d4 : w7.cell? ⟨R, 6, none⟩ = some (.int .i64 hi.num) := h7.cell 6; have d5 : w7.cell? ⟨R, 7, none⟩ = some (.string ⟨hi.txt.toArray⟩) := h7.cell 7) | (refine step_app rfl (.tmp 29) (.tmp 33) (by rfl) (R + 1) v6 u7 ((Lib.uvarint r ++ Lib.uvarint n) ++ cellB ty lo) (cellB ty hi) (by rfl) own7 (by rfl) ow7.bs (by rw [List.length_append, List.length_append]; omega) h7.lt ?_; intro v8 w8 own8 f8; have h8 : ZnB w8 R _ := h7.fr f8 (fun e => by have := (own7.lt R e).1; omega); have F8 := F7.fresh f8 (fun k hk => by have := (own7.lt k hk).1; omega); have e0 : w8.cell? ⟨R, 2, none⟩ = some (.bool lo.null) := h8.cell 2; have e1 : w8.cell? ⟨R, 3, none⟩ = some (.int .i64 lo.num) := h8.cell 3; have e2 : w8.cell? ⟨R, 4, none⟩ = some (.string ⟨lo.txt.toArray⟩) := h8.cell 4; have e3 : w8.cell? ⟨R, 5, none⟩ = some (.bool hi.null) := h8.cell 5; have e4 : w8.cell? ⟨R, 6, none⟩ = some (.int .i64 hi.num) := h8.cell 6; have e5 : w8.cell? ⟨R, 7, none⟩ = some (.string ⟨hi.txt.toArray⟩) := h8.cell 7))
      have OE := Lib.hid own8
      have FE := Lib.hid F8
      clear t0 t1 t2 t3 t4 t5 b0 b1 b2 b3 b4 b5 c0 c1 c2 c3 c4 c5 d0 d1 d2 d3 d4 d5 e0 e1 e2 e3 e4 e5 own5 own6 own7 own8 ow5 ow7 h5 h6 h7 h8 F5 F6 F7 F8 f5 f6 f7 f8
      go_wp2
      go_ret
      exact ⟨v8, rfl, by rw [HS.out, hR]; exact OE.out.mono (by omega), FE.out⟩
    · have hbz : bndZ ⟨r, n, lo, hi⟩ = false := decide_eq_false hb
      replace HN := Lib.hid (HN.out hbz)
      clear HS hbz
      obtain ⟨a0, a1, a2, a3, a4, a5, a6, a7⟩ := znB_cells h4
      replace F4 := Lib.hid F4
      replace own4 := Lib.hid own4
      clear h4
      go_wp2
      go_ret
      exact ⟨v4, rfl, by rw [HN.out]; exact own4.out.mono (by omega), F4.out⟩
end Go.Proofs.Ytihofmmbdedhbaa


namespace Go.Proofs.Ytihofmmbdedhbaa
set_option linter.unusedVariables false
set_option linter.unusedSimpArgs false
set_option maxRecDepth 100000
open Go.RowKit

theorem fstN_lt (l : List UInt8) : fstN l < two64 := by
  cases hr : rd 0 0 l with
  | none => rw [(rest_none hr).2.2.1]; decide
  | some p => obtain ⟨n, r⟩ := p; rw [(rest_some hr).2.2.1]; exact rd_lt hr

/-- 'most' of a bound: the number, what is left, whether it failed -/
def mostOk (l : List UInt8) (m : Int) : Bool := decide (0 ≤ m ∧ (fstN l : Int) ≤ m)
def mostV (l : List UInt8) (m : Int) : Nat := if mostOk l m then fstN l else 0
def mostR (l : List UInt8) (m : Int) : List UInt8 := if mostOk l m then rest l else []
def mostB (l : List UInt8) (m : Int) : Bool := if mostOk l m then fell l else true
/-- 'cut' at a length -/
def cutOk (l : List UInt8) (n : Int) : Bool := decide (0 ≤ n ∧ n ≤ l.length)
def cutT (l : List UInt8) (n : Int) : List UInt8 := if cutOk l n then l.take n.toNat else []
def cutR (l : List UInt8) (n : Int) : List UInt8 := if cutOk l n then l.drop n.toNat else []
def cutB (l : List UInt8) (bad : Bool) (n : Int) : Bool := if cutOk l n then bad else true

theorem xor_swap (k : IntKind) (a b : Int) : bits .xor k a b = bits .xor k b a := by simp only [bits, BitVec.xor_comm]
theorem xor_none (x : Nat) (hx : x < 9223372036854775808) : bits .xor .i64 (x : Int) 0 = x := by
  show IntKind.i64.wrap ((BitVec.ofInt 64 (x : Int) ^^^ BitVec.ofInt 64 0).toNat : Int) = _
  have h2 : (BitVec.ofInt 64 (x : Int)).toNat = x := by
    rw [BitVec.ofInt_natCast, BitVec.toNat_ofNat]; exact Nat.mod_eq_of_lt (by omega)
  have h1 : (BitVec.ofInt 64 0).toNat = 0 := by decide
  rw [BitVec.toNat_xor, h1, h2, Nat.xor_zero]
  exact IntWalk.i64_in _ ⟨by omega, by omega⟩
theorem vunzig {n : Nat} (hn : n < two64) : bits BinOp.xor IntKind.i64 (wrap64 ((n : Int) / 2)) (wrap64 (-wrap64 (bits BinOp.and IntKind.u64 (n : Int) 1))) = unzig n := by
  unfold two64 at hn
  rw [Lib.u64_and1 _ (by omega) (by omega), IntWalk.wrap64_in _ ⟨by omega, by omega⟩, IntWalk.wrap64_in ((n : Int) % 2) ⟨by omega, by omega⟩, IntWalk.wrap64_in _ ⟨by omega, by omega⟩]
  unfold unzig
  by_cases h : n % 2 = 1
  · rw [if_pos h, show -((n : Int) % 2) = -1 by omega, xor_swap, show ((n : Int) / 2) = ((n / 2 : Nat) : Int) by omega, Lib.i64_not _ (by omega)]
  · rw [if_neg h, show -((n : Int) % 2) = 0 by omega, show ((n : Int) / 2) = ((n / 2 : Nat) : Int) by omega, xor_none _ (by omega)]

theorem sint_any (g : Nat) (l : List UInt8) (bad : Bool) (w : World) (h : Src w g l bad) :
    Calls Try.prog 63 #[ptr g] w fun e w' => e = .returned (.int .i64 (unzig (fstN l))) ∧ Src w' g (rest l) (fell l) ∧ Fr (One g) w w' := by
  have h0 := num_any g l bad w h
  have Hl := Lib.hid (fstN_lt l)
  clear h
  go_enter Try.func63, Try.ntmps63
  go_wp2_with fail
  refine h0.mono ?_
  rintro e w' ⟨rfl, hs, hf⟩
  have e1 := vunzig Hl.out
  go_wp2
  go_ret
  exact ⟨rfl, hs, hf⟩

set_option maxHeartbeats 400000 in
theorem most_any (g : Nat) (l : List UInt8) (bad : Bool) (m : Int) (w : World) (h : Src w g l bad) (hm : m ≤ 9223372036854775807) :
    Calls Try.prog 59 #[ptr g, .int .i64 m] w fun e w' => e = .returned (.int .i64 (mostV l m)) ∧ Src w' g (mostR l m) (mostB l m) ∧ Fr (One g) w w' := by
  have h0 := num_any g l bad w h
  have Hl := Lib.hid (fstN_lt l)
  clear h
  by_cases hneg : m < 0
  · have HV : Hid (mostV l m = 0 ∧ mostR l m = [] ∧ mostB l m = true) := by
      unfold mostV mostR mostB mostOk
      rw [decide_eq_false (by omega)]; exact ⟨rfl, rfl, rfl⟩
    go_enter Try.func59, Try.ntmps59
    go_wp2_with fail
    refine h0.mono ?_
    rintro e w' ⟨rfl, hs, hf⟩
    generalize fstN l = n at *
    go_wp2_with fail
    refine (fail_any g _ _ _ hs).mono ?_
    rintro e w2 ⟨rfl, hs2, hf2⟩
    go_wp2
    go_ret
    rw [HV.out.1, HV.out.2.1, HV.out.2.2]
    exact ⟨rfl, hs2, hf.trans hf2⟩
  · have hwr : IntKind.u64.wrap m = m := IntWalk.u64_in _ ⟨by omega, by omega⟩
    by_cases hle : (fstN l : Int) ≤ m
    · have HV : Hid (mostV l m = fstN l ∧ mostR l m = rest l ∧ mostB l m = fell l) := by
        unfold mostV mostR mostB mostOk
        rw [decide_eq_true ⟨by omega, hle⟩]; exact ⟨rfl, rfl, rfl⟩
      have hwi : IntKind.i64.wrap (fstN l) = fstN l := IntWalk.i64_in _ ⟨by omega, by omega⟩
      clear hm
      generalize fstN l = n at *
      go_enter Try.func59, Try.ntmps59
      go_wp2_with fail
      refine h0.mono ?_
      rintro e w' ⟨rfl, hs, hf⟩
      go_wp2
      go_ret
      rw [HV.out.1, HV.out.2.1, HV.out.2.2]
      exact ⟨rfl, hs, hf⟩
    · have HV : Hid (mostV l m = 0 ∧ mostR l m = [] ∧ mostB l m = true) := by
        unfold mostV mostR mostB mostOk
        rw [decide_eq_false (by omega)]; exact ⟨rfl, rfl, rfl⟩
      clear hm
      generalize fstN l = n at *
      go_enter Try.func59, Try.ntmps59
      go_wp2_with fail
      refine h0.mono ?_
      rintro e w' ⟨rfl, hs, hf⟩
      go_wp2_with fail
      refine (fail_any g _ _ _ hs).mono ?_
      rintro e w2 ⟨rfl, hs2, hf2⟩
      go_wp2
      go_ret
      rw [HV.out.1, HV.out.2.1, HV.out.2.2]
      exact ⟨rfl, hs2, hf.trans hf2⟩

theorem below_any (g : Nat) (l : List UInt8) (bad : Bool) (n : Int) (w : World) (h : Src w g l bad) (hn : n ≤ 9223372036854775807) :
    Calls Try.prog 51 #[ptr g, .int .i64 n] w fun e w' => e = .returned (.int .i64 (mostV l (n - 1))) ∧ Src w' g (mostR l (n - 1)) (mostB l (n - 1)) ∧ Fr (One g) w w' := by
  by_cases hneg : n ≤ 0
  · have HV : Hid (mostV l (n - 1) = 0 ∧ mostR l (n - 1) = [] ∧ mostB l (n - 1) = true) := by
      unfold mostV mostR mostB mostOk
      rw [decide_eq_false (by omega)]; exact ⟨rfl, rfl, rfl⟩
    have h0 := fail_any g l bad w h
    clear hn
    go_enter Try.func51, Try.ntmps51
    go_wp2_with fail
    refine h0.mono ?_
    rintro e w2 ⟨rfl, hs2, hf2⟩
    go_wp2
    go_ret
    rw [HV.out.1, HV.out.2.1, HV.out.2.2]
    exact ⟨rfl, hs2, hf2⟩
  · have h0 := most_any g l bad (n - 1) w h (by omega)
    have hw : IntKind.i64.wrap (n - 1) = n - 1 := IntWalk.i64_in _ ⟨by omega, by omega⟩
    go_enter Try.func51, Try.ntmps51
    go_wp2_with fail
    refine h0.mono ?_
    rintro e w2 ⟨rfl, hs2, hf2⟩
    go_wp2
    go_ret
    exact ⟨rfl, hs2, hf2⟩

set_option maxHeartbeats 400000 in
theorem cut_any (g : Nat) (l : List UInt8) (bad : Bool) (n : Int) (w : World) (h : Src w g l bad) :
    Calls Try.prog 66 #[ptr g, .int .i64 n] w fun e w' => e = .returned (.string ⟨(cutT l n).toArray⟩) ∧ Src w' g (cutR l n) (cutB l bad n) ∧ Fr (One g) w w' := by
  have h1 := left_any g l bad w h
  have h2 := fail_any g l bad w h
  by_cases hneg : n < 0
  · have HV : Hid (cutT l n = [] ∧ cutR l n = [] ∧ cutB l bad n = true) := by
      unfold cutT cutR cutB cutOk
      rw [decide_eq_false (by omega)]; exact ⟨rfl, rfl, rfl⟩
    go_enter Try.func66, Try.ntmps66
    go_wp2_with fail
    refine h2.mono ?_
    rintro e w2 ⟨rfl, hs2, hf2⟩
    go_wp2_with fail
    refine (ok_any g [] true w2 hs2).mono ?_
    rintro e w3 ⟨rfl, rfl⟩
    go_wp2
    go_ret
    rw [HV.out.1, HV.out.2.1, HV.out.2.2]
    exact ⟨rfl, hs2, hf2⟩
  · by_cases hbig : (l.length : Int) < n
    · have HV : Hid (cutT l n = [] ∧ cutR l n = [] ∧ cutB l bad n = true) := by
        unfold cutT cutR cutB cutOk
        rw [decide_eq_false (by omega)]; exact ⟨rfl, rfl, rfl⟩
      go_enter Try.func66, Try.ntmps66
      go_wp2_with fail
      refine h1.mono ?_
      rintro e w1 ⟨rfl, rfl⟩
      go_wp2_with fail
      refine h2.mono ?_
      rintro e w2 ⟨rfl, hs2, hf2⟩
      go_wp2_with fail
      refine (ok_any g [] true w2 hs2).mono ?_
      rintro e w3 ⟨rfl, rfl⟩
      go_wp2
      go_ret
      rw [HV.out.1, HV.out.2.1, HV.out.2.2]
      exact ⟨rfl, hs2, hf2⟩
    · obtain ⟨k, rfl⟩ := Int.eq_ofNat_of_zero_le (show 0 ≤ n by omega)
      have hk : k ≤ l.length := by omega
      have HV : Hid (cutT l k = l.take k ∧ cutR l k = l.drop k ∧ cutB l bad k = bad) := by
        unfold cutT cutR cutB cutOk
        rw [decide_eq_true (by omega)]; exact ⟨rfl, rfl, rfl⟩
      have h0 := ok_any g l bad w h
      have hc0 := h.1.cell 0
      have hf0 := h.1.frozen 0
      simp at hc0
      have HB := Lib.hid h
      have hs : ByteArray.size ⟨l.toArray⟩ = l.length := by simp [ByteArray.size]
      have hsl := slice_from l k hk
      have hst := slice_to l k
      clear h h2
      cases bad
      · go_enter Try.func66, Try.ntmps66
        go_wp2_with fail
        refine h1.mono ?_
        rintro e w1 ⟨rfl, rfl⟩
        go_wp2_with fail
        refine h0.mono ?_
        rintro e w1 ⟨rfl, rfl⟩
        go_wp2
        go_ret
        rw [HV.out.1, HV.out.2.1, HV.out.2.2]
        exact ⟨rfl, ⟨HB.out.1.set 0 _, fun h => by cases h⟩, (Fr.refl _ _).set1 _ _⟩
      · go_enter Try.func66, Try.ntmps66
        go_wp2_with fail
        refine h1.mono ?_
        rintro e w1 ⟨rfl, rfl⟩
        go_wp2_with fail
        refine h0.mono ?_
        rintro e w1 ⟨rfl, rfl⟩
        go_wp2
        go_ret
        rw [HV.out.1, HV.out.2.1, HV.out.2.2]
        obtain rfl : l = [] := HB.out.2 rfl
        simp only [List.take_nil, List.drop_nil]
        exact ⟨rfl, HB.out, Fr.refl _ _⟩

/-- 'Text' up to a length -/
def txtT (l : List UInt8) (m : Int) : List UInt8 := cutT (mostR l m) (mostV l m)
def txtR (l : List UInt8) (m : Int) : List UInt8 := cutR (mostR l m) (mostV l m)
def txtB (l : List UInt8) (m : Int) : Bool := cutB (mostR l m) (mostB l m) (mostV l m)

theorem stext_any (g : Nat) (l : List UInt8) (bad : Bool) (m : Int) (w : World) (h : Src w g l bad) (hm : m ≤ 9223372036854775807) :
    Calls Try.prog 64 #[ptr g, .int .i64 m] w fun e w' => e = .returned (.string ⟨(txtT l m).toArray⟩) ∧ Src w' g (txtR l m) (txtB l m) ∧ Fr (One g) w w' := by
  have h0 := most_any g l bad m w h hm
  clear h hm
  go_enter Try.func64, Try.ntmps64
  go_wp2_with fail
  refine h0.mono ?_
  rintro e w1 ⟨rfl, hs1, hf1⟩
  go_wp2_with fail
  refine (cut_any g _ _ _ _ hs1).mono ?_
  rintro e w2 ⟨rfl, hs2, hf2⟩
  go_wp2
  go_ret
  exact ⟨rfl, hs2, hf1.trans hf2⟩

end Go.Proofs.Ytihofmmbdedhbaa


namespace Go.Proofs.Ytihofmmbdedhbaa
set_option linter.unusedVariables false
set_option linter.unusedSimpArgs false
set_option maxRecDepth 100000
open Go.RowKit

/-- the document's source in block g; its bytes lie outside the blocks of S, g among them -/
def SAt (w : World) (g : Nat) (S : Nat → Prop) (l : List UInt8) (bad : Bool) : Prop :=
  ∃ v, Blk w g 42 #[v, .bool bad] ∧ Bs w v l ∧ (∀ k, v.ownBlock = some k → ¬ S k) ∧ S g ∧ (bad = true → l = [])

theorem SAt.fr {S S' : Nat → Prop} {w w' : World} {g : Nat} {l : List UInt8} {bad : Bool} (h : SAt w g S l bad) (hf : Fr S' w w') (hn : ¬ S' g) (hs : ∀ k, S' k → S k) : SAt w' g S l bad := by
  obtain ⟨v, h1, h2, h3, h4, h5⟩ := h
  exact ⟨v, h1.fr hf hn, h2.fr hf fun k hk e => h3 k hk (hs k e), h3, h4, h5⟩

theorem rfail_any (g : Nat) (S : Nat → Prop) (l : List UInt8) (bad : Bool) (w : World) (h : SAt w g S l bad) :
    Calls Try.prog 42 #[ptr g] w fun e w' => e = .returned (.tuple #[]) ∧ SAt w' g S [] true ∧ Fr (One g) w w' := by
  obtain ⟨v, h1, h2, h3, h4, h5⟩ := h
  have hc0 := h1.cell 0
  have hc1 := h1.cell 1
  have hf0 := h1.frozen 0
  have hf1 := h1.frozen 1
  have HB := Lib.hid h1
  simp at hc0 hc1
  clear h1 h2 h3 h5
  go_enter Try.func42, Try.ntmps42
  go_wp2
  go_end0
  refine ⟨rfl, ⟨.slice none 0 0, ?_, Bs.nil_ _, (fun k hk => by cases hk), h4, fun _ => rfl⟩, ((Fr.refl _ _).set1 _ _).set1 _ _⟩
  exact (HB.out.set 1 _).set 0 _

theorem SAt.step {w : World} {g : Nat} {S : Nat → Prop} {l l' : List UInt8} {bad : Bool} {v v' : Value} (hB : Blk w g 42 #[v, .bool bad]) (h3 : ∀ k, v.ownBlock = some k → ¬ S k) (h4 : S g)
    (h5 : bad = true → l = []) (hne : l ≠ []) (hbs : Bs w v' l') (hown : v'.ownBlock = v.ownBlock) : SAt (w.setCell ⟨g, 0, none⟩ v') g S l' false := by
  obtain rfl : bad = false := by cases bad with | true => exact absurd (h5 rfl) hne | false => rfl
  have hn : ∀ k, v'.ownBlock = some k → ¬ S k := fun k hk => h3 k (by rw [← hown]; exact hk)
  exact ⟨v', hB.set 0 _, hbs.fr ((Fr.refl (One g) w).set1 0 v') (fun k hk e => hn k hk (by rw [show k = g from e]; exact h4)), hn, h4, fun h => by cases h⟩

theorem or_sum {k acc x : Nat} (hk : k ≤ 9) (ha : acc < 128 ^ k) (hx : x < 128) (h9 : k = 9 → x ≤ 1) :
    IntKind.u64.wrap ((acc : Int) + IntKind.u64.wrap ((x : Int) * 2 ^ (7 * k))) = ((acc + x * 128 ^ k : Nat) : Int) := by
  have hle : (128 : Nat) ^ k ≤ 128 ^ 9 := Nat.pow_le_pow_right (by decide) hk
  rw [pow128_9] at hle
  have hlt : acc + x * 128 ^ k < 18446744073709551616 := by
    by_cases h : k = 9
    · subst h
      have := h9 rfl
      rw [pow128_9] at ha ⊢
      clear hle
      omega
    · have hle8 : (128 : Nat) ^ k ≤ 128 ^ 8 := Nat.pow_le_pow_right (by decide) (by omega)
      rw [pow128_8] at hle8
      have := Nat.mul_le_mul (show x ≤ 127 by omega) hle8
      omega
  rw [pow27, show ((x : Int) * ((128 ^ k : Nat) : Int)) = ((x * 128 ^ k : Nat) : Int) by push_cast; rfl, IntWalk.u64_in ((x * 128 ^ k : Nat) : Int) ⟨by omega, by omega⟩, IntWalk.u64_in _ ⟨by omega, by omega⟩]
  omega

set_option maxHeartbeats 1000000 in
set_option maxRecDepth 20000 in
theorem rsnum_any (g : Nat) (S : Nat → Prop) (l : List UInt8) (bad : Bool) (w : World) (h : SAt w g S l bad) (hl : l.length < 1000000000) :
    Calls Try.prog 53 #[ptr g] w fun e w' => e = .returned (.int .u64 (fstN l)) ∧ SAt w' g S (rest l) (fell l) ∧ Fr (One g) w w' := by
  have hfail := rfail_any g S l bad w h
  obtain ⟨v, h1, h2, h3, h4, h5⟩ := h
  have HBs := Lib.hid h2
  have H3 := Lib.hid h3
  obtain ⟨A, cap, rfl, hcap, hA, hcells⟩ := h2
  have hc0 := h1.cell 0
  have hf0 := h1.frozen 0
  have HB := Lib.hid h1
  have H5 := Lib.hid h5
  simp at hc0
  clear h1 h3 h5
  go_enter Try.func53, Try.ntmps53
  go_wp2
  go_loop [3, 4] (fun n i => ∃ k acc : Nat, k ≤ 9 ∧ k ≤ l.length ∧ i = .int .i64 k ∧ n = .int .u64 acc ∧ acc < 128 ^ k ∧ rd 0 0 l = rd k acc (l.drop k)) (fun _ i => l.length - (intOf i).toNat)
  case atStart => exact ⟨0, 0, by omega, by omega, rfl, rfl, by decide, by simp⟩
  case round =>
    obtain ⟨k, acc, hk9, hk, rfl, rfl, hacc, hrd⟩ := hrel
    by_cases hlt : k < l.length
    · obtain ⟨c, hc⟩ : ∃ c, l[k] = c := ⟨_, rfl⟩
      rw [drop_at hlt hc] at hrd
      cases A with
      | none => exact absurd (hA rfl) (by omega)
      | some a =>
        have hcell := hcells a rfl k hlt
        rw [hc] at hcell
        unfold bv at hcell
        clear hc hcells hA
        have hc256 : c.toNat < 256 := c.toNat_lt
        by_cases hbad : (k = 9 ∧ 1 < c.toNat) ∨ (0 < k ∧ c.toNat = 0)
        · have HN := Lib.hid (rest_none (hrd.trans (rd_bad hbad)))
          clear hrd hacc
          by_cases c0 : c.toNat = 0
          · obtain rfl : c = 0 := by apply UInt8.toNat_inj.1; simpa using c0
            have b1 : 0 < k := by rcases hbad with ⟨_, hb2⟩ | ⟨hb1, _⟩ <;> omega
            simp at hcell
            clear c0 hbad hc256
            by_cases b9 : 9 ≤ k
            all_goals
              go_wp2_with fail
              refine hfail.mono ?_
              rintro e w2 ⟨rfl, hs2, hf2⟩
              go_wp2
              go_ret
              rw [HN.out.1, HN.out.2.1, HN.out.2.2.1]
              exact ⟨rfl, hs2, hf2⟩
          · have b1 : 9 ≤ k := by omega
            have b2 : 1 < c.toNat := by omega
            clear c0 hbad
            go_wp2_with fail
            refine hfail.mono ?_
            rintro e w2 ⟨rfl, hs2, hf2⟩
            go_wp2
            go_ret
            rw [HN.out.1, HN.out.2.1, HN.out.2.2.1]
            exact ⟨rfl, hs2, hf2⟩
        · have hS := or_sum (x := c.toNat % 128) hk9 hacc (by omega) (by omega)
          rw [show ((c.toNat % 128 : Nat) : Int) = (c.toNat : Int) % 128 by omega] at hS
          by_cases c0 : c.toNat = 0
          · have HN := Lib.hid (rest_some (hrd.trans (rd_last hbad (by omega))))
            obtain rfl : c = 0 := by apply UInt8.toNat_inj.1; simpa using c0
            obtain rfl : k = 0 := by omega
            obtain rfl : acc = 0 := by omega
            obtain ⟨A', c', hrun, hbs', hown'⟩ := slice_lo (some a) l.length cap (0 + 1) .i64 1 (by omega) (by omega) hcap
            have HSL := Lib.hid (SAt.step (l' := l.drop (0 + 1)) HB.out H3.out h4 H5.out (by intro e; subst e; simp at hlt) (hbs' w l rfl HBs.out) hown')
            simp [Addr.add] at hcell
            clear c0 hbad hc256 hS hrd hacc hbs' hown'
            go_wp2_with fail
            go_ret
            rw [HN.out.1, HN.out.2.1, HN.out.2.2.1]
            exact ⟨by simp, HSL.out, (Fr.refl _ _).set1 _ _⟩
          · have b1 : 0 < c.toNat := by omega
            have b2 : ((c.toNat : Int) == 0) = false := by rw [beq_eq_false_iff_ne]; omega
            by_cases b3 : c.toNat < 128
            · have HN := Lib.hid (rest_some (hrd.trans (rd_last hbad b3)))
              by_cases b9 : k = 9
              · subst b9
                obtain ⟨A', c', hrun, hbs', hown'⟩ := slice_lo (some a) l.length cap (9 + 1) .i64 10 (by omega) (by omega) hcap
                have HSL := Lib.hid (SAt.step (l' := l.drop (9 + 1)) HB.out H3.out h4 H5.out (by intro e; subst e; simp at hlt) (hbs' w l rfl HBs.out) hown')
                have b4 : c.toNat ≤ 1 := by omega
                have HE := Lib.hid (show acc + c.toNat % 128 * 128 ^ 9 = acc + c.toNat * 128 ^ 9 by rw [show c.toNat % 128 = c.toNat by omega])
                rw [show (2 : Int) ^ (7 * 9) = 9223372036854775808 by decide, IntWalk.u64_in ((c.toNat : Int) % 128 * 9223372036854775808) ⟨by omega, by omega⟩] at hS
                simp [Addr.add] at hcell
                clear hbad c0 hrd hacc hbs' hown'
                go_wp2_with fail
                all_goals
                  go_ret
                  rw [HN.out.1, HN.out.2.1, HN.out.2.2.1, ← HE.out]
                  exact ⟨rfl, HSL.out, (Fr.refl _ _).set1 _ _⟩
              · obtain ⟨A', c', hrun, hbs', hown'⟩ := slice_lo (some a) l.length cap (k + 1) .i64 ((k : Int) + 1) (by omega) (by omega) hcap
                have HSL := Lib.hid (SAt.step (l' := l.drop (k + 1)) HB.out H3.out h4 H5.out (by intro e; subst e; simp at hlt) (hbs' w l rfl HBs.out) hown')
                have b4 : k < 9 := by omega
                have HE := Lib.hid (show acc + c.toNat % 128 * 128 ^ k = acc + c.toNat * 128 ^ k by rw [show c.toNat % 128 = c.toNat by omega])
                clear hbad c0 hrd hacc hbs' hown' b9
                go_wp2_with fail
                all_goals
                  go_ret
                  rw [HN.out.1, HN.out.2.1, HN.out.2.2.1, ← HE.out]
                  exact ⟨rfl, HSL.out, (Fr.refl _ _).set1 _ _⟩
            · have HN := Lib.hid (hrd.trans (rd_more hbad (by omega)))
              have b4 : k < 9 := by omega
              have b5 : 128 ≤ c.toNat := by omega
              have HA2 := Lib.hid (show acc + c.toNat % 128 * 128 ^ k < 128 ^ (k + 1) by
                have h2 : c.toNat % 128 ≤ 127 := by omega
                have h3 := Nat.mul_le_mul_right (128 ^ k) h2
                rw [Nat.pow_succ]; omega)
              have HE := Lib.hid (show acc + (c.toNat - 128) * 128 ^ k = acc + c.toNat % 128 * 128 ^ k by rw [show c.toNat - 128 = c.toNat % 128 by omega])
              clear hrd hacc hbad c0 b3
              go_wp2_with fail
              all_goals
                refine ⟨⟨k + 1, acc + c.toNat % 128 * 128 ^ k, by omega, by omega, by go_num, rfl, HA2.out, ?_⟩, by simp [intOf]; omega⟩
                rw [HN.out, HE.out]
    · have hd : l.drop k = [] := List.drop_eq_nil_of_le (by omega)
      rw [hd] at hrd
      have HN := Lib.hid (rest_none (hrd.trans rfl))
      clear hrd hacc hd hcells
      go_wp2_with fail
      refine hfail.mono ?_
      rintro e w2 ⟨rfl, hs2, hf2⟩
      go_wp2
      go_ret
      rw [HN.out.1, HN.out.2.1, HN.out.2.2.1]
      exact ⟨rfl, hs2, hf2⟩


/-- the blocks from B on -/
def GeS (B : Nat) : Nat → Prop := fun k => B ≤ k
theorem Src.drew {w : World} {g : Nat} {l : List UInt8} {bad : Bool} (h : Src w g l bad) : Src w.drew g l bad := h
theorem SAt.drew {w : World} {g : Nat} {S : Nat → Prop} {l : List UInt8} {bad : Bool} (h : SAt w g S l bad) : SAt w.drew g S l bad := h
end Go.Proofs.Ytihofmmbdedhbaa


namespace Go.Proofs.Ytihofmmbdedhbaa
set_option linter.unusedVariables false
set_option linter.unusedSimpArgs false
set_option maxRecDepth 100000
open Go.RowKit

theorem fell_zero {l : List UInt8} (h : fell l = true) : fstN l = 0 ∧ rest l = [] := by
  cases hr : rd 0 0 l with
  | none => exact ⟨(rest_none hr).2.2.1, (rest_none hr).1⟩
  | some p => obtain ⟨n, r⟩ := p; rw [(rest_some hr).2.1] at h; cases h

theorem rest_le (l : List UInt8) : (rest l).length ≤ l.length := by
  cases hr : rd 0 0 l with
  | none => rw [(rest_none hr).1]; simp
  | some p => obtain ⟨n, r⟩ := p; rw [(rest_some hr).1]; exact Nat.le_of_lt (rd_len (by omega) hr)

theorem runzig_odd {n : Nat} (hn : n < two64) (h : n % 2 = 1) : wrap64 (wrap64 (-wrap64 ((n : Int) / 2)) - 1) = unzig n := by
  unfold two64 at hn
  rw [IntWalk.wrap64_in ((n : Int) / 2) ⟨by omega, by omega⟩, IntWalk.wrap64_in (-((n : Int) / 2)) ⟨by omega, by omega⟩, IntWalk.wrap64_in _ ⟨by omega, by omega⟩]
  unfold unzig; rw [if_pos h]; omega
theorem runzig_even {n : Nat} (hn : n < two64) (h : ¬ n % 2 = 1) : wrap64 ((n : Int) / 2) = unzig n := by
  unfold two64 at hn
  rw [IntWalk.wrap64_in ((n : Int) / 2) ⟨by omega, by omega⟩]
  unfold unzig; rw [if_neg h]; omega

theorem u64_div2 {m : Nat} (h : m < two64) : IntKind.u64.wrap ((m : Int) / 2) = (m : Int) / 2 := by
  unfold two64 at h
  exact IntWalk.u64_in _ ⟨by omega, by omega⟩

theorem rsint_any (g : Nat) (S : Nat → Prop) (l : List UInt8) (bad : Bool) (w : World) (h : SAt w g S l bad) (hl : l.length < 1000000000) :
    Calls Try.prog 55 #[ptr g] w fun e w' => e = .returned (.int .i64 (unzig (fstN l))) ∧ SAt w' g S (rest l) (fell l) ∧ Fr (One g) w w' := by
  have h0 := rsnum_any g S l bad w h hl
  have Hl := Lib.hid (fstN_lt l)
  have e0 := u64_div2 Hl.out
  clear h
  by_cases hp : fstN l % 2 = 1
  · have E1 := Lib.hid (runzig_odd Hl.out hp)
    have hp' : ((fstN l : Int) % 2 == 1) = true := by rw [beq_iff_eq]; omega
    clear hp
    go_enter Try.func55, Try.ntmps55
    go_wp2_with fail
    refine h0.mono ?_
    rintro e w' ⟨rfl, hs, hf⟩
    go_wp2
    go_ret
    exact ⟨congrArg (fun z => Ending.returned (.int .i64 z)) E1.out, hs, hf⟩
  · have E1 := Lib.hid (runzig_even Hl.out hp)
    have hp' : ((fstN l : Int) % 2 == 1) = false := by rw [beq_eq_false_iff_ne]; omega
    clear hp
    go_enter Try.func55, Try.ntmps55
    go_wp2_with fail
    refine h0.mono ?_
    rintro e w' ⟨rfl, hs, hf⟩
    go_wp2
    go_ret
    exact ⟨congrArg (fun z => Ending.returned (.int .i64 z)) E1.out, hs, hf⟩

theorem SAt.cells {w : World} {g : Nat} {S : Nat → Prop} {l : List UInt8} {bad : Bool} (h : SAt w g S l bad) :
    ∃ A c, w.cell? ⟨g, 0, none⟩ = some (.slice A l.length c) ∧ w.cell? ⟨g, 1, none⟩ = some (.bool bad) ∧ w.frozen? ⟨g, 0, none⟩ = false ∧ l.length ≤ c ∧
      Blk w g 42 #[.slice A l.length c, .bool bad] ∧ Bs w (.slice A l.length c) l ∧ (∀ k, (Value.slice A l.length c).ownBlock = some k → ¬ S k) ∧ S g := by
  obtain ⟨v, h1, h2, h3, h4, h5⟩ := h
  have hh := h2
  obtain ⟨A, c, rfl, hc, _, _⟩ := h2
  exact ⟨A, c, h1.cell 0, h1.cell 1, h1.frozen 0, hc, h1, hh, h3, h4⟩

set_option maxHeartbeats 1000000 in
theorem rbelow_any (g : Nat) (S : Nat → Prop) (l : List UInt8) (bad : Bool) (n : Int) (w : World) (h : SAt w g S l bad) (hl : l.length < 1000000000) (hn : n ≤ 9223372036854775807) :
    Calls Try.prog 40 #[ptr g, .int .i64 n] w fun e w' => e = .returned (.int .i64 (mostV l (n - 1))) ∧ SAt w' g S (mostR l (n - 1)) (mostB l (n - 1)) ∧ Fr (One g) w w' := by
  have h0 := rsnum_any g S l bad w h hl
  have Hl := Lib.hid (fstN_lt l)
  clear h
  by_cases hok : fell l = false ∧ 1 ≤ n ∧ (fstN l : Int) < n
  · obtain ⟨ok1, ok2, ok3⟩ := hok
    have HV : Hid (mostV l (n - 1) = fstN l ∧ mostR l (n - 1) = rest l ∧ mostB l (n - 1) = fell l) := by
      unfold mostV mostR mostB mostOk
      rw [decide_eq_true ⟨by omega, by omega⟩]; exact ⟨rfl, rfl, rfl⟩
    rw [ok1] at h0
    have HF := Lib.hid ok1
    have hwr : IntKind.u64.wrap n = n := IntWalk.u64_in _ ⟨by omega, by omega⟩
    have hwi : IntKind.i64.wrap (fstN l) = fstN l := IntWalk.i64_in _ ⟨by omega, by omega⟩
    clear hn ok1
    go_enter Try.func40, Try.ntmps40
    go_wp2_with fail
    refine h0.mono ?_
    rintro e w' ⟨rfl, hs, hf⟩
    obtain ⟨A, c, c0, c1, f0, _⟩ := hs.cells
    go_wp2
    go_ret
    rw [HV.out.1, HV.out.2.1, HV.out.2.2, HF.out]
    exact ⟨rfl, hs, hf⟩
  · have HV : Hid (mostV l (n - 1) = 0 ∧ mostR l (n - 1) = [] ∧ mostB l (n - 1) = true) := by
      unfold mostV mostR mostB mostOk
      cases hf : fell l with
      | true => have := fell_zero hf; refine ⟨?_, ?_, ?_⟩ <;> split <;> first | rfl | exact this.1 | exact this.2
      | false => rw [decide_eq_false (by rw [hf] at hok; simp at hok; omega)]; exact ⟨rfl, rfl, rfl⟩
    have hwr : 1 ≤ n → IntKind.u64.wrap n = n := fun _ => IntWalk.u64_in _ ⟨by omega, by omega⟩
    cases hf : fell l with
    | true =>
      rw [hf] at h0
      clear hn hok hwr
      have HF := Lib.hid hf; clear hf
      go_enter Try.func40, Try.ntmps40
      go_wp2_with fail
      refine h0.mono ?_
      rintro e w' ⟨rfl, hs, hf⟩
      obtain ⟨A, c, c0, c1, f0, _⟩ := hs.cells
      go_wp2_with fail
      refine (rfail_any g S _ _ _ hs).mono ?_
      rintro e w2 ⟨rfl, hs2, hf2⟩
      go_wp2
      go_ret
      rw [HV.out.1, HV.out.2.1, HV.out.2.2]
      exact ⟨rfl, hs2, hf.trans hf2⟩
    | false =>
      rw [hf] at h0 hok
      have HF := Lib.hid hf; clear hf
      by_cases hneg : n < 1
      · clear hn hok hwr
        go_enter Try.func40, Try.ntmps40
        go_wp2_with fail
        refine h0.mono ?_
        rintro e w' ⟨rfl, hs, hf⟩
        obtain ⟨A, c, c0, c1, f0, _⟩ := hs.cells
        go_wp2_with fail
        refine (rfail_any g S _ _ _ hs).mono ?_
        rintro e w2 ⟨rfl, hs2, hf2⟩
        go_wp2
        go_ret
        rw [HV.out.1, HV.out.2.1, HV.out.2.2]
        exact ⟨rfl, hs2, hf.trans hf2⟩
      · have hge : n ≤ (fstN l : Int) := by simp at hok; omega
        have hwr' := hwr (by omega)
        clear hn hok hwr
        go_enter Try.func40, Try.ntmps40
        go_wp2_with fail
        refine h0.mono ?_
        rintro e w' ⟨rfl, hs, hf⟩
        obtain ⟨A, c, c0, c1, f0, _⟩ := hs.cells
        go_wp2_with fail
        refine (rfail_any g S _ _ _ hs).mono ?_
        rintro e w2 ⟨rfl, hs2, hf2⟩
        go_wp2
        go_ret
        rw [HV.out.1, HV.out.2.1, HV.out.2.2]
        exact ⟨rfl, hs2, hf.trans hf2⟩

set_option maxHeartbeats 1000000 in
theorem rtakeO_any (g : Nat) (S : Nat → Prop) (l : List UInt8) (bad : Bool) (n : Int) (w : World) (h : SAt w g S l bad) (hl : l.length < 1000000000) :
    Calls Try.prog 61 #[ptr g, .int .i64 n] w fun e w' => ∃ v, e = .returned v ∧ Own w' w.heap.size v (cutT l n) ∧ SAt w' g S (cutR l n) (cutB l bad n) ∧ Fr (One g) w w' := by
  have hfail := rfail_any g S l bad w h
  obtain ⟨A, c, c0, c1, f0, hc, hB, hBs, hS, hSg⟩ := h.cells
  have H5 := Lib.hid (show bad = true → l = [] by obtain ⟨v, _, _, _, _, h5⟩ := h; exact h5)
  have HB := Lib.hid hB
  have HBs := Lib.hid hBs
  have HS := Lib.hid hS
  clear h hB hBs hS
  by_cases hok : bad = false ∧ 0 ≤ n ∧ n ≤ l.length
  · obtain ⟨rfl, h0, h1⟩ := hok
    obtain ⟨k, rfl⟩ := Int.eq_ofNat_of_zero_le h0
    have hk : k ≤ l.length := by omega
    have HV : Hid (cutT l k = l.take k ∧ cutR l k = l.drop k ∧ cutB l false k = false) := by
      unfold cutT cutR cutB cutOk
      rw [decide_eq_true (by omega)]; exact ⟨rfl, rfl, rfl⟩
    obtain ⟨A1, d1, hrun1, hbs1, hown1⟩ := slice_hi A l.length c k .i64 (k : Int) rfl hk hc
    obtain ⟨A2, d2, hrun2, hbs2, hown2⟩ := slice_lo A l.length c k .i64 (k : Int) rfl hk hc
    have HB1 := Lib.hid (fun W h => hbs1 W l rfl h)
    have HB2 := Lib.hid (fun W h => hbs2 W l rfl h)
    have HO2 := Lib.hid hown2
    clear hbs1 hbs2 hown1 hown2 hfail
    have hbe : Own (w.alloc (.cells #[] 5)) w.heap.size (.slice (some ⟨w.heap.size, 0, none⟩) 0 0) [] := World.ownsRow_made w #[] 0 (Nat.le_refl _) (by unfold maxLen; omega) rfl
    have hfa : Fr Non w (w.alloc (.cells #[] 5)) := (Fr.refl _ _).alloc _
    have hg := HB.out.lt
    go_enter Try.func61, Try.ntmps61
    go_wp2_with (at_builtin; refine wpList_app rfl (.tmp 25) (.tmp 31) rfl w.heap.size _ _ [] (l.take k) rfl hbe rfl (HB1.out _ (HBs.out.non hfa)) (by simp; omega) (by simp) ?_; intro v3 w3 hown3 hfr3; have hfn := hfa.fresh hfr3 (fun k hk => (hbe.lt k hk).1); have hB3 := Lib.hid (HB.out.fr hfn (fun e => e)); have hBs3 := Lib.hid (HBs.out.non hfn); have c03 := hB3.out.cell 0; have f03 := hB3.out.frozen 0; simp at c03)
    go_ret
    rw [HV.out.1, HV.out.2.1, HV.out.2.2]
    have hl' : 0 < l.length ∨ l = [] := by cases l <;> simp
    refine ⟨v3, rfl, ?_, ?_, (hfn.any).set1 _ _⟩
    · have hne : ∀ q, v3.ownBlock = some q → ¬ One g q := fun q hq e => by
        have := (hown3.lt q hq).1
        rw [show q = g from e] at this
        omega
      simpa using hown3.fr ((Fr.refl (One g) _).set1 0 _) hne
    · have hn : ∀ q, (Value.slice A2 (l.length - k) d2).ownBlock = some q → ¬ S q := fun q hq => HS.out q (by rw [← HO2.out]; exact hq)
      exact ⟨_, hB3.out.set 0 _, (HB2.out w3 hBs3.out).fr ((Fr.refl (One g) _).set1 0 _) (fun q hq e => hn q hq (by rw [show q = g from e]; exact hSg)), hn, hSg, fun h => by cases h⟩
  · have HV : Hid (cutT l n = [] ∧ cutR l n = [] ∧ cutB l bad n = true) := by
      cases hb : bad with
      | true =>
        have hl0 := H5.out hb
        subst hl0
        unfold cutT cutR cutB cutOk
        refine ⟨?_, ?_, ?_⟩ <;> split <;> simp
      | false =>
        unfold cutT cutR cutB cutOk
        rw [decide_eq_false (by rw [hb] at hok; simp at hok; omega)]; exact ⟨rfl, rfl, rfl⟩
    cases bad
    · by_cases hneg : n < 0
      · clear hok
        go_enter Try.func61, Try.ntmps61
        go_wp2_with fail
        refine hfail.mono ?_
        rintro e w2 ⟨rfl, hs2, hf2⟩
        go_wp2
        go_ret
        rw [HV.out.1, HV.out.2.1, HV.out.2.2]
        exact ⟨.slice none 0 0, rfl, own_nil _ _, hs2, hf2⟩
      · have hbig : (l.length : Int) < n := by simp at hok; omega
        clear hok
        go_enter Try.func61, Try.ntmps61
        go_wp2_with fail
        refine hfail.mono ?_
        rintro e w2 ⟨rfl, hs2, hf2⟩
        go_wp2
        go_ret
        rw [HV.out.1, HV.out.2.1, HV.out.2.2]
        exact ⟨.slice none 0 0, rfl, own_nil _ _, hs2, hf2⟩
    · clear hok
      go_enter Try.func61, Try.ntmps61
      go_wp2_with fail
      refine hfail.mono ?_
      rintro e w2 ⟨rfl, hs2, hf2⟩
      go_wp2
      go_ret
      rw [HV.out.1, HV.out.2.1, HV.out.2.2]
      exact ⟨.slice none 0 0, rfl, own_nil _ _, hs2, hf2⟩

theorem rtake_any (g : Nat) (S : Nat → Prop) (l : List UInt8) (bad : Bool) (n : Int) (w : World) (h : SAt w g S l bad) (hl : l.length < 1000000000) :
    Calls Try.prog 61 #[ptr g, .int .i64 n] w fun e w' => ∃ v, e = .returned v ∧ Bs w' v (cutT l n) ∧ (∀ k, v.ownBlock = some k → w.heap.size ≤ k) ∧ SAt w' g S (cutR l n) (cutB l bad n) ∧ Fr (One g) w w' := by
  refine (rtakeO_any g S l bad n w h hl).mono ?_
  rintro e w' ⟨v, rfl, h1, h2, h3⟩
  exact ⟨v, rfl, h1.bs, fun k hk => (h1.lt k hk).1, h2, h3⟩

end Go.Proofs.Ytihofmmbdedhbaa


namespace Go.Proofs.Ytihofmmbdedhbaa
set_option linter.unusedVariables false
set_option linter.unusedSimpArgs false
set_option maxRecDepth 100000
open Go.RowKit

set_option maxHeartbeats 1000000 in
theorem rstext_any (g : Nat) (S : Nat → Prop) (l : List UInt8) (bad : Bool) (m : Int) (w : World) (h : SAt w g S l bad) (hl : l.length < 1000000000) (hm : m ≤ 9223372036854775807) :
    Calls Try.prog 54 #[ptr g, .int .i64 m] w fun e w' => e = .returned (.string ⟨(txtT l m).toArray⟩) ∧ SAt w' g S (txtR l m) (txtB l m) ∧ Fr (One g) w w' := by
  have hfail := rfail_any g S l bad w h
  have h0 := rsnum_any g S l bad w h hl
  have Hl := Lib.hid (fstN_lt l)
  clear h
  by_cases hneg : m < 0
  · have HV : Hid (txtT l m = [] ∧ txtR l m = [] ∧ txtB l m = true) := by
      have hk : mostOk l m = false := decide_eq_false (by omega)
      unfold txtT txtR txtB mostV mostR mostB
      rw [hk]; exact ⟨rfl, rfl, rfl⟩
    clear hm
    go_enter Try.func54, Try.ntmps54
    go_wp2_with fail
    refine hfail.mono ?_
    rintro e w2 ⟨rfl, hs2, hf2⟩
    go_wp2
    go_ret
    rw [HV.out.1, HV.out.2.1, HV.out.2.2]
    exact ⟨rfl, hs2, hf2⟩
  · have hwr : IntKind.u64.wrap m = m := IntWalk.u64_in _ ⟨by omega, by omega⟩
    cases hf : fell l with
    | true =>
      have HV : Hid (txtT l m = [] ∧ txtR l m = [] ∧ txtB l m = true) := by
        have hz := fell_zero hf
        have hk : mostOk l m = true := decide_eq_true (by rw [hz.1]; omega)
        unfold txtT txtR txtB mostV mostR mostB
        rw [hk]; simp only [if_true, hz.1, hz.2, hf]; exact ⟨rfl, rfl, rfl⟩
      rw [hf] at h0
      clear hm hf
      go_enter Try.func54, Try.ntmps54
      go_wp2_with fail
      refine h0.mono ?_
      rintro e w1 ⟨rfl, hs1, hf1⟩
      obtain ⟨A, c, c0, c1, f0, _⟩ := hs1.cells
      go_wp2_with fail
      refine (rfail_any g S _ _ _ hs1).mono ?_
      rintro e w2 ⟨rfl, hs2, hf2⟩
      go_wp2
      go_ret
      rw [HV.out.1, HV.out.2.1, HV.out.2.2]
      exact ⟨rfl, hs2, hf1.trans hf2⟩
    | false =>
      rw [hf] at h0
      by_cases hle : (fstN l : Int) ≤ m
      · have hk : mostOk l m = true := decide_eq_true ⟨by omega, hle⟩
        have hw2 : IntKind.u64.wrap ((rest l).length : Int) = (rest l).length := IntWalk.u64_in _ ⟨by omega, by have := rest_le l; omega⟩
        by_cases hfit : fstN l ≤ (rest l).length
        · have hwi : IntKind.i64.wrap (fstN l) = fstN l := IntWalk.i64_in _ ⟨by omega, by omega⟩
          have HV : Hid (txtT l m = cutT (rest l) (fstN l) ∧ txtR l m = cutR (rest l) (fstN l) ∧ txtB l m = cutB (rest l) false (fstN l)) := by
            unfold txtT txtR txtB mostV mostR mostB
            rw [hk]; simp only [if_true, hf]; exact ⟨trivial, trivial, trivial⟩
          have hrl := rest_le l
          clear hm hf hk
          go_enter Try.func54, Try.ntmps54
          go_wp2_with fail
          refine h0.mono ?_
          rintro e w1 ⟨rfl, hs1, hf1⟩
          obtain ⟨A, c, c0, c1, f0, _⟩ := hs1.cells
          go_wp2_with fail
          refine (rtake_any g S _ _ _ _ hs1 (by omega)).mono ?_
          rintro e w2 ⟨v, rfl, hbs2, hnew2, hs2, hf2⟩
          have cv := run_conv_Bs hbs2 36 9 5 Try.underlying36 Try.underlying5 Try.underlying9
          go_wp2
          go_ret
          rw [HV.out.1, HV.out.2.1, HV.out.2.2]
          exact ⟨rfl, hs2, hf1.trans hf2⟩
        · have HV : Hid (txtT l m = [] ∧ txtR l m = [] ∧ txtB l m = true) := by
            have hc : cutOk (rest l) (fstN l) = false := decide_eq_false (by omega)
            unfold txtT txtR txtB mostV mostR mostB
            rw [hk]; simp only [if_true]
            unfold cutT cutR cutB
            rw [hc]; exact ⟨rfl, rfl, rfl⟩
          clear hm hf hk
          go_enter Try.func54, Try.ntmps54
          go_wp2_with fail
          refine h0.mono ?_
          rintro e w1 ⟨rfl, hs1, hf1⟩
          obtain ⟨A, c, c0, c1, f0, _⟩ := hs1.cells
          go_wp2_with fail
          refine (rfail_any g S _ _ _ hs1).mono ?_
          rintro e w2 ⟨rfl, hs2, hf2⟩
          go_wp2
          go_ret
          rw [HV.out.1, HV.out.2.1, HV.out.2.2]
          exact ⟨rfl, hs2, hf1.trans hf2⟩
      · have HV : Hid (txtT l m = [] ∧ txtR l m = [] ∧ txtB l m = true) := by
          have hk : mostOk l m = false := decide_eq_false (by omega)
          unfold txtT txtR txtB mostV mostR mostB
          rw [hk]; exact ⟨rfl, rfl, rfl⟩
        clear hm hf
        go_enter Try.func54, Try.ntmps54
        go_wp2_with fail
        refine h0.mono ?_
        rintro e w1 ⟨rfl, hs1, hf1⟩
        obtain ⟨A, c, c0, c1, f0, _⟩ := hs1.cells
        go_wp2_with fail
        refine (rfail_any g S _ _ _ hs1).mono ?_
        rintro e w2 ⟨rfl, hs2, hf2⟩
        go_wp2
        go_ret
        rw [HV.out.1, HV.out.2.1, HV.out.2.2]
        exact ⟨rfl, hs2, hf1.trans hf2⟩

end Go.Proofs.Ytihofmmbdedhbaa
