/-
  Joined: Words of our own on memory, for all texts of this seat: what changed between two worlds (Fr), a known block (Blk), bytes that a slice reads as (Bs), bytes in a row of the call's own (Own), and the steps append and convert over them. · Slices of slices of bytes that the call owns (Owns), and the steps that append one slice, or one value of one cell, to a row of the call's own. · Slices of one-celled elements of any type: what one reads as (Vs), a row of the call's own (Ow), and the steps over them: append of one, append of many, make, copy, cuts. · The frame of a law's proof, for any parameters: where the call returned true and turned nothing that was there, the row's words hold. · Arguments opened: a slice of one-celled elements of any type; of truths; of whole numbers. · Slices of structs of k one-celled fields, of any type: what one reads as (Ns), a row of the call's own (No), and the steps over them: made, stored into, append of one, append of many, opened. · Texts as plain lists of bytes: Go's '<' on them, and an order in three ways. Nothing of the program. · Layer 12: a column as a value; slices of columns; two compared. · Names: which texts may be one; nothing of the program. · Layer 1 as plain functions on lists of bytes: what a number's bytes are (the library's 'uvarint'), which number bytes begin with (rd), and that each is the other's back. Nothing of the program. · Layer 1, what is written, texts: contracts of join and Text, the program's own and the document's. · Layer 1, what is read: contracts of Source's methods. · Layer 1, what is read: contracts of Source's methods. · Layer 9: a cell as a value; which cells there may be, both programs'. · Layer 1, what is read: contracts of the document's own source, S. · Layer 1, what is read: contracts of the document's own source: Int, Below, Take, Text, End. · Columns: which there may be, where one is, which rows; their bytes, and what is read of bytes; nothing of the program. · Slices of texts: a text's cell; what their type is. · Layer 12: letters, digits, words. · Layer 12: which texts may be names, both programs'. · A map of texts to whole numbers of the call's own: which texts it has, and how many; made, written, counted. · Layer 12: which columns a table may have, the program's. · Layer 12: which columns a table may have, the document's; the law's words; the example. · Layer 12: where a column is; which columns are the same; both programs'. · Slices of cells: what one reads as (Cs), a row of the call's own (Oc), and the steps over them.
-/
import Derived.Lib.Zigzag
import Derived.Laws.Rows
import Derived.Laws.ResultCell
import Derived.Test.YtoaeiokjaikalaaProg
import Derived.WalkKit
import Derived.WalkSpells
import Derived.Deep.AppendSrc
import Derived.Maps.AppendAt
import Derived.Lib.Hide
import Derived.Deep.Draws
import Derived.Lib.AppendStr
import Derived.Laws.CopyOwn
import Derived.Laws.OwnMore
import Derived.Test.YtoaeiokjaikalaaRows
import Derived.ProofKit
import Derived.OpenShut
import Derived.ShutString
import Derived.ChangeOld
import Derived.Below
import Derived.Deep.Slices
import Derived.BigFrame
import Derived.Laws.StructEq
import Derived.Lib.Varint
import Derived.Laws.RangeAny
import Derived.BigQuiet
import Derived.Maps.OwnSet
import Derived.Maps.OwnOps

namespace Go.Proofs.Ytoaeiokjaikalaa
set_option linter.unusedVariables false
set_option linter.unusedSimpArgs false
set_option maxRecDepth 100000
open Go.RowKit

/-! ### What changed: of the blocks that were there, at most those of S -/
structure Fr (S : Nat → Prop) (w w' : World) : Prop where
  os : w'.os = w.os
  tape : w'.tape = w.tape
  output : w'.output = w.output
  size : w.heap.size ≤ w'.heap.size
  block : ∀ k, k < w.heap.size → ¬ S k → w'.heap[k]? = w.heap[k]?

/-- nothing -/
def Non : Nat → Prop := fun _ => False
/-- one block -/
def One (g : Nat) : Nat → Prop := fun k => k = g

theorem Fr.refl (S : Nat → Prop) (w : World) : Fr S w w := ⟨rfl, rfl, rfl, Nat.le_refl _, fun _ _ _ => rfl⟩
theorem Fr.join {S S' : Nat → Prop} {w w1 w2 : World} (h : Fr S w w1) (h' : Fr S' w1 w2) (hs : ∀ k, k < w.heap.size → S' k → S k) : Fr S w w2 :=
  ⟨h'.os.trans h.os, h'.tape.trans h.tape, h'.output.trans h.output, Nat.le_trans h.size h'.size,
    fun k hk hn => (h'.block k (Nat.lt_of_lt_of_le hk h.size) (fun e => hn (hs k hk e))).trans (h.block k hk hn)⟩
theorem Fr.trans {S : Nat → Prop} {w w1 w2 : World} (h : Fr S w w1) (h' : Fr S w1 w2) : Fr S w w2 := h.join h' fun _ _ e => e
theorem Fr.then {S : Nat → Prop} {w w1 w2 : World} (h : Fr S w w1) (h' : Fr Non w1 w2) : Fr S w w2 := h.join h' fun _ _ e => e.elim
theorem Fr.mono {S S' : Nat → Prop} {w w' : World} (h : Fr S w w') (hs : ∀ k, k < w.heap.size → S k → S' k) : Fr S' w w' :=
  ⟨h.os, h.tape, h.output, h.size, fun k hk hn => h.block k hk fun e => hn (hs k hk e)⟩
theorem Fr.any {S : Nat → Prop} {w w' : World} (h : Fr Non w w') : Fr S w w' := h.mono fun _ _ e => e.elim
theorem Fr.fresh {S S' : Nat → Prop} {w w1 w2 : World} (h : Fr S w w1) (h' : Fr S' w1 w2) (hs : ∀ k, S' k → w.heap.size ≤ k) : Fr S w w2 :=
  h.join h' fun k hk e => absurd (hs k e) (by omega)
theorem Fr.drew {S : Nat → Prop} {w w' : World} (h : Fr S w w') : Fr S w w'.drew := ⟨h.os, h.tape, h.output, h.size, h.block⟩
theorem Fr.drewN {S : Nat → Prop} {w w' : World} (h : Fr S w w') (n : Nat) : Fr S w (w'.drewN n) := ⟨h.os, h.tape, h.output, h.size, h.block⟩
theorem Fr.alloc {S : Nat → Prop} {w w' : World} (h : Fr S w w') (o : Obj) : Fr S w (w'.alloc o) :=
  h.then ⟨rfl, rfl, rfl, by simp, fun k hk _ => Below.heap_alloc _ _ _ hk⟩
theorem Fr.setCell {S : Nat → Prop} {w w' : World} (h : Fr S w w') {p : Addr} (hp : p.block < w.heap.size → S p.block) (u : Value) : Fr S w (w'.setCell p u) :=
  ⟨h.os, h.tape, h.output, by simpa [World.setCell] using h.size, fun k hk hn => (Below.heap_setCell w' p u k (fun e => hn (by subst e; exact hp hk))).trans (h.block k hk hn)⟩
theorem Fr.below {w w' : World} (h : Fr Non w w') : Below w.heap.size w w' := ⟨h.os, h.tape, h.output, h.size, fun k hk => h.block k hk fun e => e⟩
theorem Fr.of_grown {w w' : World} {row : Option Nat} (h : w.grownBy w' row) : Fr (fun k => row = some k) w w' :=
  ⟨h.os, h.tape, h.output, h.size, fun k hk hn => h.block k hk (fun e => hn e.symm)⟩
theorem Fr.cell {S : Nat → Prop} {w w' : World} (h : Fr S w w') {p : Addr} (hp : p.block < w.heap.size) (hn : ¬ S p.block) : w'.cell? p = w.cell? p := World.cell?_of_block (h.block _ hp hn)

theorem ret_boolE {a b : Bool} (h : a = b) : Ending.returned (.bool a) = .returned (.bool b) := by rw [h]
theorem ret_int {k : IntKind} {a b : Int} (h : a = b) : Ending.returned (.int k a) = .returned (.int k b) := by rw [h]

/-! ### A block that is known whole -/
def Blk (w : World) (g : Nat) (t : TypeId) (cs : Array Value) : Prop := w.heap[g]? = some (.cells cs t (0, 0))
theorem Blk.lt {w : World} {g : Nat} {t : TypeId} {cs : Array Value} (h : Blk w g t cs) : g < w.heap.size := (Array.getElem?_eq_some_iff.1 h).1
theorem Blk.cell {w : World} {g : Nat} {t : TypeId} {cs : Array Value} (h : Blk w g t cs) (i : Nat) : w.cell? ⟨g, i, none⟩ = cs[i]? := cell_of_row w g i cs t (0, 0) h
theorem Blk.frozen {w : World} {g : Nat} {t : TypeId} {cs : Array Value} (h : Blk w g t cs) (i : Nat) : w.frozen? ⟨g, i, none⟩ = false := by
  unfold Blk at h; simp [World.frozen?, h]
theorem Blk.new (w : World) (t : TypeId) (cs : Array Value) : Blk (w.alloc (.cells cs t)) w.heap.size t cs := heap_alloc_new w _
theorem Blk.fr {S : Nat → Prop} {w w' : World} {g : Nat} {t : TypeId} {cs : Array Value} (h : Blk w g t cs) (hf : Fr S w w') (hn : ¬ S g) : Blk w' g t cs := (hf.block g h.lt hn).trans h
theorem Blk.set {w : World} {g : Nat} {t : TypeId} {cs : Array Value} (h : Blk w g t cs) (i : Nat) (u : Value) : Blk (w.setCell ⟨g, i, none⟩ u) g t (cs.setIfInBounds i u) := by
  unfold Blk at h ⊢; simp [World.setCell, Array.getElem?_modify, h]
theorem Blk.drew {w : World} {g : Nat} {t : TypeId} {cs : Array Value} (h : Blk w g t cs) : Blk w.drew g t cs := h
/-! ### Bytes -/
def bv (b : UInt8) : Value := .int .u8 b.toNat
theorem add_block (a : Addr) (n : Nat) : (a.add n).block = a.block := by unfold Addr.add; split <;> rfl
theorem add_add (a : Addr) (i j : Nat) : (a.add i).add j = a.add (i + j) := by
  unfold Addr.add
  by_cases hi : i = 0 <;> by_cases hj : j = 0 <;> simp [hi, hj, Nat.add_assoc]

/-- the slice v reads as the bytes l -/
def Bs (w : World) (v : Value) (l : List UInt8) : Prop :=
  ∃ A c, v = .slice A l.length c ∧ l.length ≤ c ∧ (A = none → c = 0) ∧ ∀ a, A = some a → ∀ j (h : j < l.length), w.cell? (a.add j) = some (bv l[j])

theorem Bs.nil_ (w : World) : Bs w (.slice none 0 0) [] := ⟨none, 0, rfl, Nat.le_refl _, fun _ => rfl, fun _ h => by cases h⟩
theorem Bs.keep {w w' : World} {v : Value} {l : List UInt8} (h : Bs w v l) (hk : ∀ k, v.ownBlock = some k → k < w.heap.size → w'.heap[k]? = w.heap[k]?) : Bs w' v l := by
  obtain ⟨A, c, rfl, h1, h2, h3⟩ := h
  refine ⟨A, c, rfl, h1, h2, fun a ha j hj => ?_⟩
  have := h3 a ha j hj
  subst ha
  have hb := World.block_lt_of_cell? w _ this
  rw [add_block] at hb
  rw [← this]
  exact World.cell?_of_block (by rw [add_block]; exact hk _ rfl hb)
theorem Bs.fr {S : Nat → Prop} {w w' : World} {v : Value} {l : List UInt8} (h : Bs w v l) (hf : Fr S w w') (hn : ∀ k, v.ownBlock = some k → ¬ S k) : Bs w' v l :=
  h.keep fun k hk hlt => hf.block k hlt (hn k hk)
theorem Bs.non {w w' : World} {v : Value} {l : List UInt8} (h : Bs w v l) (hf : Fr Non w w') : Bs w' v l := h.fr hf fun _ _ e => e
theorem Bs.drew {w : World} {v : Value} {l : List UInt8} (h : Bs w v l) : Bs w.drew v l := h
theorem Bs.shape {w : World} {v : Value} {l : List UInt8} (h : Bs w v l) : ∃ A c, v = .slice A l.length c := by
  obtain ⟨A, c, rfl, _⟩ := h; exact ⟨A, c, rfl⟩

/-- bytes that the call owns: a row of its own, from block B on -/
def Own (w : World) (B : Nat) (v : Value) (l : List UInt8) : Prop := w.ownsRow B 5 1 v l.length (l.map bv)
theorem Own.lt {w : World} {B : Nat} {v : Value} {l : List UInt8} (h : Own w B v l) : ∀ k, v.ownBlock = some k → B ≤ k ∧ k < w.heap.size := World.ownsRow.lt h
theorem Own.bs {w : World} {B : Nat} {v : Value} {l : List UInt8} (h : Own w B v l) : Bs w v l := by
  rcases h.2 with ⟨rfl, h0⟩ | ⟨g, cap, cur, rfl, _, _, hle, _, _, _⟩
  · have hl : l = [] := List.eq_nil_of_length_eq_zero h0
    subst hl; exact Bs.nil_ w
  · refine ⟨_, cap, rfl, hle, (fun h => by cases h), fun a ha j hj => ?_⟩
    cases ha
    exact World.ownsRow.cells h (g := g) rfl j _ (by simp [hj])
theorem Own.keep {w w' : World} {B : Nat} {v : Value} {l : List UInt8} (h : Own w B v l) (hk : ∀ k, v.ownBlock = some k → w'.heap[k]? = w.heap[k]?) : Own w' B v l := by
  refine ⟨h.1, ?_⟩
  rcases h.2 with h2 | ⟨g, cap, cur, hv, hb, hg, r⟩
  · exact .inl h2
  · exact .inr ⟨g, cap, cur, hv, hb, by rw [hk g (by rw [hv]; rfl)]; exact hg, r⟩
theorem Own.fr {S : Nat → Prop} {w w' : World} {B : Nat} {v : Value} {l : List UInt8} (h : Own w B v l) (hf : Fr S w w') (hn : ∀ k, v.ownBlock = some k → ¬ S k) : Own w' B v l :=
  h.keep fun k hk => hf.block k (h.lt k hk).2 (hn k hk)
theorem Own.non {w w' : World} {B : Nat} {v : Value} {l : List UInt8} (h : Own w B v l) (hf : Fr Non w w') : Own w' B v l := h.fr hf fun _ _ e => e
theorem Own.alloc {w : World} {B : Nat} {v : Value} {l : List UInt8} (h : Own w B v l) (o : Obj) : Own (w.alloc o) B v l := h.non ((Fr.refl _ _).alloc o)
theorem Own.mono {w : World} {B B' : Nat} {v : Value} {l : List UInt8} (h : Own w B v l) (hB : B' ≤ B) : Own w B' v l := by
  refine ⟨h.1, ?_⟩
  rcases h.2 with h2 | ⟨g, cap, cur, hv, hb, r⟩
  · exact .inl h2
  · exact .inr ⟨g, cap, cur, hv, by omega, r⟩

theorem Own.row {w : World} {B : Nat} {v : Value} {l : List UInt8} (h : Own w B v l) (hn : l ≠ []) : ∃ g cap, v = .slice (some ⟨g, 0, none⟩) l.length cap ∧ B ≤ g ∧ g < w.heap.size ∧ l.length ≤ cap ∧ cap ≤ maxLen := by
  rcases h.2 with ⟨rfl, h0⟩ | ⟨g, cap, cur, rfl, hb, hg, hle, hm, _⟩
  · exact absurd (List.eq_nil_of_length_eq_zero h0) hn
  · exact ⟨g, cap, rfl, hb, (Array.getElem?_eq_some_iff.1 hg).1, hle, hm⟩
theorem Own.cell {w : World} {B g n cap : Nat} {l : List UInt8} (h : Own w B (.slice (some ⟨g, 0, none⟩) n cap) l) (hn : n = l.length) (j : Nat) (b : UInt8) (hb : l[j]? = some b) : w.cell? ⟨g, j, none⟩ = some (.int .u8 b.toNat) := by
  subst hn
  have hj : j < l.length := (List.getElem?_eq_some_iff.1 hb).1
  rw [World.ownsRow.cellAt h j (by omega), List.getElem?_map, hb]; rfl
theorem Own.frozen {w : World} {B g n cap : Nat} {l : List UInt8} (h : Own w B (.slice (some ⟨g, 0, none⟩) n cap) l) (hn : n = l.length) (j : Nat) : w.frozen? ⟨g, j, none⟩ = false := by
  subst hn; exact World.ownsRow.frozenAt h j
theorem Own.drew {w : World} {B : Nat} {v : Value} {l : List UInt8} (h : Own w B v l) : Own w.drew B v l := h

/-! ### A slice of slices of bytes -/
def Bss (w : World) (v : Value) (ls : List (List UInt8)) : Prop :=
  ∃ A c, v = .slice A ls.length c ∧ ls.length ≤ c ∧ (A = none → c = 0) ∧ ∀ a, A = some a → ∀ j (h : j < ls.length), ∃ u, w.cell? (a.add j) = some u ∧ Bs w u ls[j]
theorem Bss.non {w w' : World} {v : Value} {ls : List (List UInt8)} (h : Bss w v ls) (hf : Fr Non w w') : Bss w' v ls := by
  obtain ⟨A, c, rfl, h1, h2, h3⟩ := h
  refine ⟨A, c, rfl, h1, h2, fun a ha j hj => ?_⟩
  obtain ⟨u, hu, hb⟩ := h3 a ha j hj
  exact ⟨u, by rw [← hu]; exact hf.cell (World.block_lt_of_cell? w _ hu) (fun e => e), hb.non hf⟩
/-! ### Pieces of a slice of bytes -/
end Go.Proofs.Ytoaeiokjaikalaa


namespace Go.Proofs.Ytoaeiokjaikalaa
set_option linter.unusedVariables false
set_option linter.unusedSimpArgs false
set_option maxRecDepth 100000
open Go.RowKit

/-- a slice of slices of bytes that the call owns, row and all -/
def Owns (w : World) (B : Nat) (v : Value) (ls : List (List UInt8)) : Prop :=
  ∃ vs : List Value, w.ownsRow B 38 1 v vs.length vs ∧ vs.length = ls.length ∧ ∀ (i : Nat) (u : Value) (l : List UInt8), vs[i]? = some u → ls[i]? = some l → Own w B u l

theorem Own.kind {w : World} {B : Nat} {u : Value} {l : List UInt8} (h : Own w B u l) : ∀ k, u.ownBlock = some k → ∃ cur, w.heap[k]? = some (.cells cur 5 (0, 0)) := by
  intro k hk
  rcases h.2 with ⟨rfl, _⟩ | ⟨g, cap, cur, rfl, _, hg, _⟩
  · cases hk
  · obtain rfl : g = k := by simpa [Value.ownBlock] using hk
    exact ⟨cur, hg⟩
theorem row_kind {w : World} {B : Nat} {E : TypeId} {n : Nat} {v : Value} {xs : List Value} (h : w.ownsRow B E 1 v n xs) : ∀ k, v.ownBlock = some k → ∃ cur, w.heap[k]? = some (.cells cur E (0, 0)) := by
  intro k hk
  rcases h.2 with ⟨rfl, _⟩ | ⟨g, cap, cur, rfl, _, hg, _⟩
  · cases hk
  · obtain rfl : g = k := by simpa [Value.ownBlock] using hk
    exact ⟨cur, hg⟩
theorem row_keep {w w' : World} {B : Nat} {E : TypeId} {n : Nat} {v : Value} {xs : List Value} (h : w.ownsRow B E 1 v n xs) (hk : ∀ k, v.ownBlock = some k → w'.heap[k]? = w.heap[k]?) : w'.ownsRow B E 1 v n xs := by
  refine ⟨h.1, ?_⟩
  rcases h.2 with h2 | ⟨g, cap, cur, hv, hb, hg, r⟩
  · exact .inl h2
  · exact .inr ⟨g, cap, cur, hv, hb, by rw [hk g (by rw [hv]; rfl)]; exact hg, r⟩
theorem row_lt {w : World} {B : Nat} {E : TypeId} {n : Nat} {v : Value} {xs : List Value} (h : w.ownsRow B E 1 v n xs) : ∀ k, v.ownBlock = some k → B ≤ k ∧ k < w.heap.size := World.ownsRow.lt h
theorem row_mono {w : World} {B B' : Nat} {E : TypeId} {n : Nat} {v : Value} {xs : List Value} (h : w.ownsRow B E 1 v n xs) (hB : B' ≤ B) : w.ownsRow B' E 1 v n xs := by
  refine ⟨h.1, ?_⟩
  rcases h.2 with h2 | ⟨g, cap, cur, hv, hb, r⟩
  · exact .inl h2
  · exact .inr ⟨g, cap, cur, hv, by omega, r⟩

theorem Owns.lt {w : World} {B : Nat} {v : Value} {ls : List (List UInt8)} (h : Owns w B v ls) : ∀ k, v.ownBlock = some k → B ≤ k ∧ k < w.heap.size := by
  obtain ⟨vs, h1, _⟩ := h; exact row_lt h1
/-- it stays where the blocks that turn are no rows of slices and no bytes -/
theorem Owns.keep {w w' : World} {B : Nat} {v : Value} {ls : List (List UInt8)} (h : Owns w B v ls)
    (hk : ∀ k cur, (w.heap[k]? = some (.cells cur 38 (0, 0)) ∨ w.heap[k]? = some (.cells cur 5 (0, 0))) → B ≤ k → w'.heap[k]? = w.heap[k]?) : Owns w' B v ls := by
  obtain ⟨vs, h1, h2, h3⟩ := h
  refine ⟨vs, row_keep h1 fun k e => ?_, h2, fun i u l hu hl => (h3 i u l hu hl).keep fun k e => ?_⟩
  · obtain ⟨cur, hc⟩ := row_kind h1 k e
    exact hk k cur (.inl hc) (row_lt h1 k e).1
  · obtain ⟨cur, hc⟩ := (h3 i u l hu hl).kind k e
    exact hk k cur (.inr hc) ((h3 i u l hu hl).lt k e).1
theorem Owns.fr {S : Nat → Prop} {w w' : World} {B : Nat} {v : Value} {ls : List (List UInt8)} (h : Owns w B v ls) (hf : Fr S w w')
    (hS : ∀ k cur, S k → w.heap[k]? ≠ some (.cells cur 38 (0, 0)) ∧ w.heap[k]? ≠ some (.cells cur 5 (0, 0))) : Owns w' B v ls :=
  h.keep fun k cur hc _ => hf.block k (by rcases hc with e | e <;> exact (Array.getElem?_eq_some_iff.1 e).1) fun e => by
    rcases hc with h1 | h1
    · exact (hS k cur e).1 h1
    · exact (hS k cur e).2 h1
theorem Owns.non {w w' : World} {B : Nat} {v : Value} {ls : List (List UInt8)} (h : Owns w B v ls) (hf : Fr Non w w') : Owns w' B v ls := h.fr hf fun k cur e => e.elim
theorem Owns.mono {w : World} {B B' : Nat} {v : Value} {ls : List (List UInt8)} (h : Owns w B v ls) (hB : B' ≤ B) : Owns w B' v ls := by
  obtain ⟨vs, h1, h2, h3⟩ := h
  exact ⟨vs, row_mono h1 hB, h2, fun i u l hu hl => (h3 i u l hu hl).mono hB⟩
theorem Owns.bss {w : World} {B : Nat} {v : Value} {ls : List (List UInt8)} (h : Owns w B v ls) : Bss w v ls := by
  obtain ⟨vs, h1, h2, h3⟩ := h
  rcases h1.2 with ⟨rfl, h0⟩ | ⟨g, cap, cur, rfl, _, _, hle, _, _, _⟩
  · have hl : ls = [] := List.eq_nil_of_length_eq_zero (by omega)
    subst hl
    exact ⟨none, 0, rfl, Nat.le_refl _, fun _ => rfl, fun _ h => by cases h⟩
  · refine ⟨_, cap, by rw [h2], by omega, (fun h => by cases h), fun a ha j hj => ?_⟩
    cases ha
    have hj' : j < vs.length := by omega
    exact ⟨vs[j], World.ownsRow.cells h1 (g := g) rfl j _ (by simp [hj']), (h3 j vs[j] ls[j] (by simp [hj']) (by simp [hj])).bs⟩
theorem Owns.shape {w : World} {B : Nat} {v : Value} {ls : List (List UInt8)} (h : Owns w B v ls) : ∃ A c, v = .slice A ls.length c := by
  obtain ⟨A, c, rfl, _⟩ := h.bss; exact ⟨A, c, rfl⟩
/-! ### Whole numbers in a row of the call's own -/
def iv (n : Int) : Value := .int .i64 n
def OwnI (w : World) (B : Nat) (v : Value) (l : List Int) : Prop := w.ownsRow B 3 1 v (l.map iv).length (l.map iv)
theorem OwnI.non {w w' : World} {B : Nat} {v : Value} {l : List Int} (h : OwnI w B v l) (hf : Fr Non w w') : OwnI w' B v l := row_keep h fun k hk => hf.block k (row_lt h k hk).2 fun e => e
theorem OwnI.fr {S : Nat → Prop} {w w' : World} {B : Nat} {v : Value} {l : List Int} (h : OwnI w B v l) (hf : Fr S w w') (hn : ∀ k, v.ownBlock = some k → ¬ S k) : OwnI w' B v l := row_keep h fun k hk => hf.block k (row_lt h k hk).2 (hn k hk)
theorem OwnI.cell {w : World} {B : Nat} {v : Value} {l : List Int} (h : OwnI w B v l) {g n c : Nat} (hv : v = .slice (some ⟨g, 0, none⟩) n c) (j : Nat) (hj : j < l.length) : w.cell? ⟨g, j, none⟩ = some (.int .i64 l[j]) := by
  subst hv
  have := World.ownsRow.cells h (g := g) rfl j (iv l[j]) (by simp [hj])
  rwa [Addr.add_lit, Nat.zero_add] at this
end Go.Proofs.Ytoaeiokjaikalaa


namespace Go.Proofs.Ytoaeiokjaikalaa
set_option linter.unusedVariables false
set_option linter.unusedSimpArgs false
set_option maxRecDepth 100000
open Go.RowKit

/-- the slice v reads as the list l, each element's cell being f of it -/
def Vs {α : Type} (f : α → Value) (w : World) (v : Value) (l : List α) : Prop :=
  ∃ A c, v = .slice A l.length c ∧ l.length ≤ c ∧ (A = none → c = 0) ∧ ∀ a, A = some a → ∀ j (h : j < l.length), w.cell? (a.add j) = some (f l[j])
/-- a row of the call's own, from block B on, of elements of type E -/
def Ow {α : Type} (f : α → Value) (E : TypeId) (w : World) (B : Nat) (v : Value) (l : List α) : Prop := w.ownsRow B E 1 v l.length (l.map f)

section
variable {α : Type} {f : α → Value}

theorem Vs.nil_ (w : World) : Vs f w (.slice none 0 0) [] := ⟨none, 0, rfl, Nat.le_refl _, fun _ => rfl, fun _ h => by cases h⟩
theorem Vs.keep {w w' : World} {v : Value} {l : List α} (h : Vs f w v l) (hk : ∀ k, v.ownBlock = some k → k < w.heap.size → w'.heap[k]? = w.heap[k]?) : Vs f w' v l := by
  obtain ⟨A, c, rfl, h1, h2, h3⟩ := h
  refine ⟨A, c, rfl, h1, h2, fun a ha j hj => ?_⟩
  have := h3 a ha j hj
  subst ha
  have hb := World.block_lt_of_cell? w _ this
  rw [add_block] at hb
  rw [← this]
  exact World.cell?_of_block (by rw [add_block]; exact hk _ rfl hb)
theorem Vs.fr {S : Nat → Prop} {w w' : World} {v : Value} {l : List α} (h : Vs f w v l) (hf : Fr S w w') (hn : ∀ k, v.ownBlock = some k → ¬ S k) : Vs f w' v l :=
  h.keep fun k hk hlt => hf.block k hlt (hn k hk)
theorem Vs.non {w w' : World} {v : Value} {l : List α} (h : Vs f w v l) (hf : Fr Non w w') : Vs f w' v l := h.fr hf fun _ _ e => e
theorem Vs.drew {w : World} {v : Value} {l : List α} (h : Vs f w v l) : Vs f w.drew v l := h
theorem Vs.drewN {w : World} {v : Value} {l : List α} (h : Vs f w v l) (n : Nat) : Vs f (w.drewN n) v l := h
theorem Vs.shape {w : World} {v : Value} {l : List α} (h : Vs f w v l) : ∃ A c, v = .slice A l.length c := by
  obtain ⟨A, c, rfl, _⟩ := h; exact ⟨A, c, rfl⟩
variable {E : TypeId}
theorem Ow.lt {w : World} {B : Nat} {v : Value} {l : List α} (h : Ow f E w B v l) : ∀ k, v.ownBlock = some k → B ≤ k ∧ k < w.heap.size := World.ownsRow.lt h
theorem Ow.vs {w : World} {B : Nat} {v : Value} {l : List α} (h : Ow f E w B v l) : Vs f w v l := by
  rcases h.2 with ⟨rfl, h0⟩ | ⟨g, cap, cur, rfl, _, _, hle, _, _, _⟩
  · have hl : l = [] := List.eq_nil_of_length_eq_zero h0
    subst hl; exact Vs.nil_ w
  · refine ⟨_, cap, rfl, hle, (fun h => by cases h), fun a ha j hj => ?_⟩
    cases ha
    exact World.ownsRow.cells h (g := g) rfl j _ (by simp [hj])
theorem Ow.shape {w : World} {B : Nat} {v : Value} {l : List α} (h : Ow f E w B v l) : ∃ A c, v = .slice A l.length c := h.vs.shape
theorem Ow.keep {w w' : World} {B : Nat} {v : Value} {l : List α} (h : Ow f E w B v l) (hk : ∀ k, v.ownBlock = some k → w'.heap[k]? = w.heap[k]?) : Ow f E w' B v l := row_keep h hk
theorem Ow.fr {S : Nat → Prop} {w w' : World} {B : Nat} {v : Value} {l : List α} (h : Ow f E w B v l) (hf : Fr S w w') (hn : ∀ k, v.ownBlock = some k → ¬ S k) : Ow f E w' B v l :=
  h.keep fun k hk => hf.block k (h.lt k hk).2 (hn k hk)
theorem Ow.non {w w' : World} {B : Nat} {v : Value} {l : List α} (h : Ow f E w B v l) (hf : Fr Non w w') : Ow f E w' B v l := h.fr hf fun _ _ e => e
theorem Ow.alloc {w : World} {B : Nat} {v : Value} {l : List α} (h : Ow f E w B v l) (o : Obj) : Ow f E (w.alloc o) B v l := h.non ((Fr.refl _ _).alloc o)
theorem Ow.drew {w : World} {B : Nat} {v : Value} {l : List α} (h : Ow f E w B v l) : Ow f E w.drew B v l := h
theorem Ow.drewN {w : World} {B : Nat} {v : Value} {l : List α} (h : Ow f E w B v l) (n : Nat) : Ow f E (w.drewN n) B v l := h
theorem Ow.mono {w : World} {B B' : Nat} {v : Value} {l : List α} (h : Ow f E w B v l) (hB : B' ≤ B) : Ow f E w B' v l := row_mono h hB
theorem Ow.kind {w : World} {B : Nat} {v : Value} {l : List α} (h : Ow f E w B v l) : ∀ k, v.ownBlock = some k → ∃ cur, w.heap[k]? = some (.cells cur E (0, 0)) := row_kind h
/-- where it has an element, it stands at a row's head -/
theorem Ow.row {w : World} {B : Nat} {v : Value} {l : List α} (h : Ow f E w B v l) (hn : 0 < l.length) : ∃ g cap, v = .slice (some ⟨g, 0, none⟩) l.length cap ∧ B ≤ g ∧ g < w.heap.size ∧ l.length ≤ cap ∧ cap ≤ maxLen := by
  rcases h.2 with ⟨rfl, h0⟩ | ⟨g, cap, cur, rfl, hb, hg, hle, hm, _⟩
  · omega
  · exact ⟨g, cap, rfl, hb, (Array.getElem?_eq_some_iff.1 hg).1, hle, hm⟩
theorem Ow.cell {w : World} {B g n cap : Nat} {l : List α} (h : Ow f E w B (.slice (some ⟨g, 0, none⟩) n cap) l) (hn : n = l.length) (j : Nat) (x : α) (hb : l[j]? = some x) : w.cell? ⟨g, j, none⟩ = some (f x) := by
  subst hn
  have hj : j < l.length := (List.getElem?_eq_some_iff.1 hb).1
  rw [World.ownsRow.cellAt h j (by omega), List.getElem?_map, hb]; rfl
theorem Ow.frozen {w : World} {B g n cap : Nat} {l : List α} (h : Ow f E w B (.slice (some ⟨g, 0, none⟩) n cap) l) (hn : n = l.length) (j : Nat) : w.frozen? ⟨g, j, none⟩ = false := by
  subst hn; exact World.ownsRow.frozenAt h j
theorem ow_lit (w : World) (B g : Nat) (l : List α) (cs : Array Value) (hcs : cs.toList = l.map f) (hg : g = w.heap.size) (hB : B ≤ g) (hm : l.length ≤ maxLen) : Ow f E (w.alloc (.cells cs E)) B (.slice (some ⟨g, 0, none⟩) l.length l.length) l := by
  subst hg
  unfold Ow
  rw [← hcs]
  exact World.ownsRow_lit w cs l.length hB hm (by have := congrArg List.length hcs; simpa using this)
/-! ### Steps -/
variable {T : TypeId} {z : Value} {by_ : Nat}
/-! ### Pieces -/
end

/-! ### Truths, whole numbers, bytes -/
theorem Bs.vs {w : World} {v : Value} {l : List UInt8} (h : Bs w v l) : Vs bv w v l := h
theorem Vs.bs {w : World} {v : Value} {l : List UInt8} (h : Vs bv w v l) : Bs w v l := h
theorem Ow.own {w : World} {B : Nat} {v : Value} {l : List UInt8} (h : Ow bv 5 w B v l) : Own w B v l := h

end Go.Proofs.Ytoaeiokjaikalaa


namespace Go.Proofs.Ytoaeiokjaikalaa
set_option linter.unusedVariables false
set_option linter.unusedSimpArgs false
set_option maxRecDepth 100000
open Go.ChangeShapes Go.WideShapes Go.ChangeAt Go.RowKit

theorem frame_own : ownKnob Try.prog.godebug = none := by kernel_rfl
theorem frame_laidOut : laidOutB Try.prog = true := by kernel_rfl

/-- every argument reads as it did -/
theorem trodAll_below {H : Type} {enc : TypeId × Value → H} {W W' : World} (hb : Below W.heap.size W W') :
    ∀ (ts : List TypeId) (vs : List Value) (ds : List (DataW H)) (ps : List MemPlace), (∀ t ∈ ts, Try.prog.readableRec t = true ∧ t < Try.prog.types.size) →
      DataW.TrodAll enc Try.prog W 0 (fun _ => true) true ts vs ds ps → DataW.TrodAll enc Try.prog W' 0 (fun b => decide (b < W.heap.size)) true ts vs ds ps := by
  intro ts
  induction ts with
  | nil => intro vs ds ps _ h; cases vs <;> cases ds <;> simp_all [DataW.TrodAll]
  | cons t ts ih =>
    intro vs ds ps hr h
    cases vs with
    | nil => cases ds <;> simp_all [DataW.TrodAll]
    | cons v vs =>
      cases ds with
      | nil => simp_all [DataW.TrodAll]
      | cons d ds =>
        obtain ⟨p, q, h1, h2, rfl⟩ := h
        have hlt : ∀ x ∈ p, x.block < W.heap.size := by obtain ⟨m, hm⟩ := h1; exact DataW.trod_lt m _ _ _ hm
        have ht := hr t (List.mem_cons_self ..)
        exact ⟨p, q, Below.trod frame_laidOut ht.1 ht.2 h1 hb hlt, ih vs ds q (fun u hu => hr u (List.mem_cons_of_mem _ hu)) h2, rfl⟩

noncomputable def typesOk (ts : List TypeId) : Bool := ts.all fun t => Try.prog.readableRec t && decide (t < Try.prog.types.size)
theorem types_ok (ts : List TypeId) (h : typesOk ts = true) : ∀ t ∈ ts, Try.prog.readableRec t = true ∧ t < Try.prog.types.size := by
  intro t ht
  have := List.all_eq_true.1 h t ht
  simpa using this

/-- a slice that came in: nil, or it leads into a block that is there -/
theorem slice_in {W : World} {base : Nat} {t e : TypeId} {v : Value} (ht : Try.prog.underlying t = some (.slice e)) (hv : Value.okWide Try.prog W .any base t v) :
    v = .slice none 0 0 ∨ ∃ b o n c, v = .slice (some ⟨b, o, none⟩) n c ∧ n ≤ c ∧ b < W.heap.size := by
  obtain ⟨a, n, c, rfl⟩ := okWide_slice ht hv
  simp only [Value.okWide, ht, Cell.okWide] at hv
  cases a with
  | none =>
    left
    simp only [Cell.ok, ht] at hv
    cases n <;> cases c <;> simp_all
  | some a =>
    right
    simp only [Cell.ok, ht] at hv
    obtain ⟨h1, _, _, h2, row, cells, h3, _⟩ := hv
    obtain ⟨b, o, sp⟩ := a
    simp only at h2 h3
    subst h2
    refine ⟨b, o, n, c, rfl, h1, ?_⟩
    rcases Nat.lt_or_ge b W.heap.size with h | h
    · exact h
    · unfold World.shape? at h3
      rw [Array.getElem?_eq_none h] at h3
      cases h3

theorem wf_i64_bd {n : Int} (h : (Lit.int .i64 n).wf = true) : -9223372036854775808 ≤ n ∧ n ≤ 9223372036854775807 := by
  simpa [Lit.wf, IntKind.min, IntKind.max, IntKind.signed, IntKind.bits] using h
end Go.Proofs.Ytoaeiokjaikalaa


namespace Go.Proofs.Ytoaeiokjaikalaa
set_option linter.unusedVariables false
set_option linter.unusedSimpArgs false
set_option maxRecDepth 100000
open Go.ChangeShapes Go.WideShapes Go.ChangeAt Go.RowKit

theorem choose_listG {α : Type} (P : Nat → α → Prop) : ∀ (n : Nat), (∀ i, i < n → ∃ x, P i x) → ∃ l : List α, l.length = n ∧ ∀ i (h : i < l.length), P i l[i]
  | 0, _ => ⟨[], rfl, fun i h => by simp at h⟩
  | n + 1, h => by
    obtain ⟨l, hl, hp⟩ := choose_listG P n fun i hi => h i (by omega)
    obtain ⟨x, hx⟩ := h n (by omega)
    refine ⟨l ++ [x], by simp [hl], fun i hi => ?_⟩
    by_cases hin : i < l.length
    · rw [List.getElem_append_left hin]; exact hp i hin
    · have : i = n := by simp at hi; omega
      subst this
      rw [List.getElem_append_right (by omega)]
      simpa using hx

end Go.Proofs.Ytoaeiokjaikalaa


namespace Go.Proofs.Ytoaeiokjaikalaa
set_option linter.unusedVariables false
set_option linter.unusedSimpArgs false
set_option maxRecDepth 100000
open Go.ChangeShapes Go.WideShapes Go.ChangeAt Go.RowKit

/-- f: an element's cells, k of them -/
structure Fd {α : Type} (f : α → List Value) (k : Nat) : Prop where
  len : ∀ x, (f x).length = k
  one : ∀ x, ∀ u ∈ f x, u.oneCell' = true
  pos : 0 < k
  small : k ≤ 64

section
variable {α : Type} {f : α → List Value} {k : Nat}

theorem catN_len (h : Fd f k) (l : List α) : (l.flatMap f).length = l.length * k := by
  induction l with
  | nil => simp
  | cons c l ih => rw [List.flatMap_cons, List.length_append, ih, h.len, List.length_cons, Nat.succ_mul, Nat.add_comm]
theorem catN_at (h : Fd f k) (l : List α) (j i : Nat) (hj : j < l.length) (hi : i < k) : (l.flatMap f)[j * k + i]? = (f l[j])[i]? := by
  induction l generalizing j with
  | nil => cases hj
  | cons c l ih =>
    rw [List.flatMap_cons]
    cases j with
    | zero => rw [List.getElem?_append_left (by rw [h.len]; omega)]; simp
    | succ j =>
      rw [Nat.succ_mul, List.getElem?_append_right (by rw [h.len]; omega)]
      rw [show j * k + k + i - (f c).length = j * k + i by rw [h.len]; omega]
      exact ih j (by simpa using hj)
theorem catN_set (h : Fd f k) (l : List α) (j i : Nat) (u : Value) (x y : α) (hj : l[j]? = some y) (hi : i < k) (hx : f x = (f y).set i u) : (l.set j x).flatMap f = (l.flatMap f).set (j * k + i) u := by
  induction l generalizing j with
  | nil => simp at hj
  | cons d l ih =>
    cases j with
    | zero =>
      obtain rfl : d = y := by simpa using hj
      rw [List.set_cons_zero, List.flatMap_cons, List.flatMap_cons, hx, List.set_append_left _ _ (by rw [h.len]; omega)]
      simp
    | succ j =>
      rw [List.set_cons_succ, List.flatMap_cons, List.flatMap_cons, ih j (by simpa using hj), Nat.succ_mul]
      rw [List.set_append_right _ _ (by rw [h.len]; omega), show j * k + k + i - (f d).length = j * k + i by rw [h.len]; omega]

/-- cells, one behind the other, that hold us -/
def AtN (w : World) (a : Addr) (us : List Value) : Prop := ∀ (i : Nat) (u : Value), us[i]? = some u → w.cell? (a.add i) = some u
theorem AtN.keep {w w' : World} {a : Addr} {us : List Value} (h : AtN w a us) (hk : a.block < w.heap.size → w'.heap[a.block]? = w.heap[a.block]?) : AtN w' a us := by
  intro i u hu
  have h1 := h i u hu
  have hb := World.block_lt_of_cell? w _ h1
  rw [add_block] at hb
  rw [← h1]
  exact World.cell?_of_block (by rw [add_block]; exact hk hb)
theorem AtN.non {w w' : World} {a : Addr} {us : List Value} (h : AtN w a us) (hf : Fr Non w w') : AtN w' a us := h.keep fun hb => hf.block _ hb (fun e => e)

/-- the slice v reads as the list l, each element's cells being f of it -/
def Ns (f : α → List Value) (k : Nat) (w : World) (v : Value) (l : List α) : Prop :=
  ∃ A c, v = .slice A l.length c ∧ l.length ≤ c ∧ (A = none → c = 0) ∧ ∀ a, A = some a → ∀ j (h : j < l.length), AtN w (a.add (j * k)) (f l[j])
/-- a row of the call's own, from block B on, of elements of type E -/
def No (f : α → List Value) (k : Nat) (E : TypeId) (w : World) (B : Nat) (v : Value) (l : List α) : Prop := w.ownsRow B E k v l.length (l.flatMap f)

theorem Ns.nil_ (w : World) : Ns f k w (.slice none 0 0) [] := ⟨none, 0, rfl, Nat.le_refl _, fun _ => rfl, fun _ h => by cases h⟩
theorem Ns.keep {w w' : World} {v : Value} {l : List α} (h : Ns f k w v l) (hk : ∀ b, v.ownBlock = some b → b < w.heap.size → w'.heap[b]? = w.heap[b]?) : Ns f k w' v l := by
  obtain ⟨A, c, rfl, h1, h2, h3⟩ := h
  refine ⟨A, c, rfl, h1, h2, fun a ha j hj => ?_⟩
  subst ha
  refine (h3 a rfl j hj).keep fun hb => ?_
  rw [add_block] at hb ⊢
  exact hk _ rfl hb
theorem Ns.fr {S : Nat → Prop} {w w' : World} {v : Value} {l : List α} (h : Ns f k w v l) (hf : Fr S w w') (hn : ∀ b, v.ownBlock = some b → ¬ S b) : Ns f k w' v l :=
  h.keep fun b hb hlt => hf.block b hlt (hn b hb)
theorem Ns.non {w w' : World} {v : Value} {l : List α} (h : Ns f k w v l) (hf : Fr Non w w') : Ns f k w' v l := h.fr hf fun _ _ e => e
theorem Ns.drew {w : World} {v : Value} {l : List α} (h : Ns f k w v l) : Ns f k w.drew v l := h.keep fun _ _ _ => rfl
theorem Ns.drewN {w : World} {v : Value} {l : List α} (h : Ns f k w v l) (n : Nat) : Ns f k (w.drewN n) v l := h.keep fun _ _ _ => rfl
theorem Ns.shape {w : World} {v : Value} {l : List α} (h : Ns f k w v l) : ∃ A c, v = .slice A l.length c := by
  obtain ⟨A, c, rfl, _⟩ := h; exact ⟨A, c, rfl⟩
/-- the element at j -/
theorem Ns.at_ {w : World} {A : Option Addr} {n c : Nat} {l : List α} (h : Ns f k w (.slice A n c) l) (j : Nat) (x : α) (hx : l[j]? = some x) : ∃ a, A = some a ∧ AtN w (a.add (j * k)) (f x) := by
  obtain ⟨hj, rfl⟩ := List.getElem?_eq_some_iff.1 hx
  obtain ⟨A0, c0, he, h1, h2, h3⟩ := h
  simp only [Value.slice.injEq] at he
  obtain ⟨rfl, rfl, rfl⟩ := he
  cases A with
  | none => have := h2 rfl; omega
  | some a => exact ⟨a, rfl, h3 a rfl j hj⟩

variable {E : TypeId}
theorem No.lt {w : World} {B : Nat} {v : Value} {l : List α} (h : No f k E w B v l) : ∀ b, v.ownBlock = some b → B ≤ b ∧ b < w.heap.size := World.ownsRow.lt h
theorem No.ns (hF : Fd f k) {w : World} {B : Nat} {v : Value} {l : List α} (h : No f k E w B v l) : Ns f k w v l := by
  rcases h.2 with ⟨rfl, h0⟩ | ⟨g, cap, cur, rfl, _, _, hle, _, _, _⟩
  · have hl : l = [] := List.eq_nil_of_length_eq_zero h0
    subst hl; exact Ns.nil_ w
  · refine ⟨_, cap, rfl, hle, (fun h => by cases h), fun a ha j hj i u hu => ?_⟩
    cases ha
    have hi : i < k := by rw [← hF.len l[j]]; exact (List.getElem?_eq_some_iff.1 hu).1
    rw [add_add]
    exact World.ownsRow.cells h (g := g) rfl (j * k + i) _ ((catN_at hF l j i hj hi).trans hu)
theorem No.keep {w w' : World} {B : Nat} {v : Value} {l : List α} (h : No f k E w B v l) (hk : ∀ b, v.ownBlock = some b → w'.heap[b]? = w.heap[b]?) : No f k E w' B v l := by
  refine ⟨h.1, ?_⟩
  rcases h.2 with h2 | ⟨g, cap, cur, hv, hb, hg, r⟩
  · exact .inl h2
  · exact .inr ⟨g, cap, cur, hv, hb, by rw [hk g (by rw [hv]; rfl)]; exact hg, r⟩
theorem No.fr {S : Nat → Prop} {w w' : World} {B : Nat} {v : Value} {l : List α} (h : No f k E w B v l) (hf : Fr S w w') (hn : ∀ b, v.ownBlock = some b → ¬ S b) : No f k E w' B v l :=
  h.keep fun b hb => hf.block b (h.lt b hb).2 (hn b hb)
theorem No.non {w w' : World} {B : Nat} {v : Value} {l : List α} (h : No f k E w B v l) (hf : Fr Non w w') : No f k E w' B v l := h.fr hf fun _ _ e => e
theorem No.alloc {w : World} {B : Nat} {v : Value} {l : List α} (h : No f k E w B v l) (o : Obj) : No f k E (w.alloc o) B v l := h.non ((Fr.refl _ _).alloc o)
theorem No.drew {w : World} {B : Nat} {v : Value} {l : List α} (h : No f k E w B v l) : No f k E w.drew B v l := h
theorem No.mono {w : World} {B B' : Nat} {v : Value} {l : List α} (h : No f k E w B v l) (hB : B' ≤ B) : No f k E w B' v l := by
  refine ⟨h.1, ?_⟩
  rcases h.2 with h2 | ⟨g, cap, cur, hv, hb, r⟩
  · exact .inl h2
  · exact .inr ⟨g, cap, cur, hv, by omega, r⟩
theorem No.kind {w : World} {B : Nat} {v : Value} {l : List α} (h : No f k E w B v l) : ∀ b, v.ownBlock = some b → ∃ cur, w.heap[b]? = some (.cells cur E (0, 0)) := by
  intro b hk
  rcases h.2 with ⟨rfl, _⟩ | ⟨g, cap, cur, rfl, _, hg, _⟩
  · cases hk
  · obtain rfl : g = b := by simpa [Value.ownBlock] using hk
    exact ⟨cur, hg⟩
theorem No.row {w : World} {B : Nat} {v : Value} {l : List α} (h : No f k E w B v l) (hn : 0 < l.length) : ∃ g cap, v = .slice (some ⟨g, 0, none⟩) l.length cap ∧ B ≤ g ∧ g < w.heap.size ∧ l.length ≤ cap ∧ cap ≤ maxLen := by
  rcases h.2 with ⟨rfl, h0⟩ | ⟨g, cap, cur, rfl, hb, hg, hle, hm, _⟩
  · omega
  · exact ⟨g, cap, rfl, hb, (Array.getElem?_eq_some_iff.1 hg).1, hle, hm⟩
theorem No.frozen {w : World} {B g n cap : Nat} {l : List α} (h : No f k E w B (.slice (some ⟨g, 0, none⟩) n cap) l) (hn : n = l.length) (j : Nat) : w.frozen? ⟨g, j, none⟩ = false := by
  subst hn; exact World.ownsRow.frozenAt h j
/-- one value stored -/
theorem No.put (hF : Fd f k) {w : World} {B g n cap : Nat} {l : List α} (h : No f k E w B (.slice (some ⟨g, 0, none⟩) n cap) l) (hn : n = l.length) (j i : Nat) (x y : α) (u : Value) (hy : l[j]? = some y) (hi : i < k) (hx : f x = (f y).set i u) :
    No f k E (w.setCell ⟨g, j * k + i, none⟩ u) B (.slice (some ⟨g, 0, none⟩) n cap) (l.set j x) := by
  subst hn
  unfold No
  rw [List.length_set, catN_set hF l j i u x y hy hi hx]
  exact (World.ownsRow.stored h (j * k + i) u).1
theorem no_lit (hF : Fd f k) (w : World) (B g : Nat) (l : List α) (cs : Array Value) (hcs : cs.toList = l.flatMap f) (hg : g = w.heap.size) (hB : B ≤ g) (hm : l.length ≤ 1000000) : No f k E (w.alloc (.cells cs E)) B (.slice (some ⟨g, 0, none⟩) l.length l.length) l := by
  subst hg
  have h := World.ownsRow_lit (e := E) (size := k) w cs l.length hB (by unfold maxLen; omega) (by rw [← Array.length_toList, hcs, catN_len hF])
  rw [hcs] at h
  exact h
variable {T : TypeId} {z : Value} {by_ : Nat}
/-- an argument opened -/
theorem ns_in (hF : Fd f k) {T E : TypeId} (hT : Try.prog.underlying T = some (.slice E)) (hc : Try.prog.cellsOf E = k) {H : Type} {enc : TypeId × Value → H} {W : World} {base : Nat} {v : Value} {d : DataW H} {p : List MemPlace}
    (pr : α → Prop) (each : ∀ n cs y, cs.length = k → DataW.trod enc Try.prog W 0 (fun _ => true) true n E cs = some y → ∃ x, cs = f x ∧ pr x)
    (hv : Value.okWide Try.prog W .any base T v) (h : DataW.Trod enc Try.prog W 0 (fun _ => true) true T v d p) : ∃ l, Ns f k W v l ∧ l.length ≤ 9223372036854775807 ∧ (∀ x ∈ l, pr x) ∧ ∀ b, v.ownBlock = some b → b < W.heap.size := by
  have hlt : ∀ b, v.ownBlock = some b → b < W.heap.size := by
    rcases slice_in hT hv with rfl | ⟨b, o, n, c, rfl, _, hb⟩
    · intro k hk; cases hk
    · intro k hk
      obtain rfl : b = k := by simpa [Value.ownBlock] using hk
      exact hb
  obtain ⟨A, n, c, rfl⟩ := okWide_slice hT hv
  obtain ⟨fuel, hf⟩ := h
  rcases Go.Deep.open_slice hT hf with ⟨hcs, _⟩ | ⟨a, len, cap, m, q, D, Pl, hcs, _, hl, hm, hmm, _, hr⟩
  · simp [Value.cells] at hcs
    obtain ⟨rfl, rfl, rfl⟩ := hcs
    exact ⟨[], Ns.nil_ W, by simp, by simp, hlt⟩
  · simp [Value.cells] at hcs
    obtain ⟨rfl, rfl, rfl⟩ := hcs
    have hnm : n ≤ m := by rw [hmm]; simp; exact hl
    obtain ⟨l, hll, hls⟩ := choose_listG (fun i (x : α) => AtN W (a.add (i * k)) (f x) ∧ pr x) n (by
      intro i hi
      obtain ⟨cs', h1, h2⟩ := hr i (by omega)
      rw [hc] at h1
      obtain ⟨_, hlen, hcell⟩ := World.cells?_some h1
      obtain ⟨x, rfl, hp⟩ := each _ _ _ hlen h2
      refine ⟨x, fun j u hu => ?_, hp⟩
      rw [hcell j (by rw [← hF.len x]; exact (List.getElem?_eq_some_iff.1 hu).1)]
      exact hu)
    subst hll
    refine ⟨l, ⟨some a, c, rfl, hl, (fun h => by cases h), fun b hb j hj => ?_⟩, by unfold maxLen at hm; omega, fun x hx => ?_, hlt⟩
    · cases hb
      exact (hls j hj).1
    · obtain ⟨j, hj, rfl⟩ := List.mem_iff_getElem.1 hx
      exact (hls j hj).2
end
end Go.Proofs.Ytoaeiokjaikalaa


namespace Go.Proofs.Ytoaeiokjaikalaa
set_option linter.unusedVariables false
set_option linter.unusedSimpArgs false
set_option maxRecDepth 100000

abbrev Tx := List UInt8

end Go.Proofs.Ytoaeiokjaikalaa


namespace Go.Proofs.Ytoaeiokjaikalaa
set_option linter.unusedVariables false
set_option linter.unusedSimpArgs false
set_option maxRecDepth 100000
open Go.RowKit

/-- a column: its name, its type, whether its cells may be null -/
structure Co where
  name : List UInt8
  ty : Int
  nl : Bool
  deriving DecidableEq
def coL (c : Co) : List Value := [.string ⟨c.name.toArray⟩, .int .i64 c.ty, .bool c.nl]
def coC (c : Co) : Array Value := #[.string ⟨c.name.toArray⟩, .int .i64 c.ty, .bool c.nl]
def coV (c : Co) : Value := .agg (coC c)
theorem fd_co : Fd coL 3 := ⟨fun _ => rfl, fun x u hu => by simp [coL] at hu; rcases hu with rfl | rfl | rfl <;> rfl, by omega, by omega⟩
abbrev Ks (w : World) (v : Value) (l : List Co) : Prop := Ns coL 3 w v l
/-- as a walk spells them -/
theorem co_lit {w : World} {a : Addr} {c : Co} (h : AtN w a (coL c)) : w.cell? a = some (.string ⟨c.name.toArray⟩) ∧ w.cell? { block := a.block, off := a.off + 1 } = some (.int .i64 c.ty) ∧ w.cell? { block := a.block, off := a.off + 2 } = some (.bool c.nl) :=
  ⟨h 0 _ rfl, h 1 _ rfl, h 2 _ rfl⟩
/-- the column c lies in block g -/
abbrev CoB (w : World) (g : Nat) (c : Co) : Prop := Blk w g 52 #[.string ⟨c.name.toArray⟩, .int .i64 c.ty, .bool c.nl]
theorem co_new (w : World) (c : Co) : CoB (w.alloc (.cells #[.string ⟨c.name.toArray⟩, .int .i64 c.ty, .bool c.nl] 52)) w.heap.size c := Blk.new _ _ _
end Go.Proofs.Ytoaeiokjaikalaa


namespace Go.Proofs.Ytoaeiokjaikalaa
set_option linter.unusedVariables false
set_option linter.unusedSimpArgs false
set_option maxRecDepth 100000
open Go.RowKit

/-- a letter, a digit -/
def ltrI (r : Int) : Bool := decide (97 ≤ r) && decide (r ≤ 122)
def dgtI (r : Int) : Bool := decide (48 ≤ r) && decide (r ≤ 57)
/-- may r stand at j? -/
def okI (j : Nat) (r : Int) : Bool := ltrI r || (decide (j ≠ 0) && (dgtI r || decide (r = 95)))
/-- the words of queries -/
def wordsL : List (List UInt8) := [[97, 110, 100], [111, 114], [110, 111, 116], [105, 115], [110, 117, 108, 108], [108, 105, 107, 101], [116, 114, 117, 101], [102, 97, 108, 115, 101], [115, 101, 108, 101, 99, 116], [102, 114, 111, 109], [119, 104, 101, 114, 101], [103, 114, 111, 117, 112], [98, 121], [97, 108, 108], [99, 111, 117, 110, 116], [104, 97, 115], [115, 117, 109], [109, 105, 110], [109, 97, 120]]
def nmOk (l : List UInt8) : Prop := ∀ j (h : j < l.length), okI j (l[j]).toNat = true
instance (l : List UInt8) : Decidable (nmOk l) := inferInstanceAs (Decidable (∀ j (h : j < l.length), okI j (l[j]).toNat = true))
/-- may l be a name? -/
def nameB (l : List UInt8) : Bool := decide (1 ≤ l.length ∧ l.length ≤ 12 ∧ l ∉ wordsL ∧ nmOk l)

theorem name_yes {l : List UInt8} (h1 : 1 ≤ l.length) (h2 : l.length ≤ 12) (h3 : l ∉ wordsL) (h4 : nmOk l) : nameB l = true := decide_eq_true ⟨h1, h2, h3, h4⟩
theorem name_nil {l : List UInt8} (h : l.length = 0) : nameB l = false := decide_eq_false fun h' => by omega
theorem name_long {l : List UInt8} (h : 12 < l.length) : nameB l = false := decide_eq_false fun h' => by omega
theorem name_word {l : List UInt8} (h : l ∈ wordsL) : nameB l = false := decide_eq_false fun h' => h'.2.2.1 h
theorem name_bad {l : List UInt8} {j : Nat} (h : j < l.length) (hb : okI j (l[j]).toNat = false) : nameB l = false := decide_eq_false fun h' => by
  have := h'.2.2.2 j h; rw [hb] at this; cases this
theorem okI_high {j : Nat} {r : Int} (h : 128 ≤ r) : okI j r = false := by
  unfold okI ltrI dgtI
  rw [decide_eq_false (show ¬ r ≤ 122 by omega), decide_eq_false (show ¬ r ≤ 57 by omega), decide_eq_false (show ¬ r = 95 by omega)]
  simp
end Go.Proofs.Ytoaeiokjaikalaa


namespace Go.Proofs.Ytoaeiokjaikalaa
set_option linter.unusedVariables false
set_option linter.unusedSimpArgs false
set_option maxRecDepth 100000

/-- the number that bytes begin with, from its i-th byte on, acc being what the bytes ahead of it make -/
def rd (i acc : Nat) : List UInt8 → Option (Nat × List UInt8)
  | [] => none
  | c :: r => if (i = 9 ∧ 1 < c.toNat) ∨ (0 < i ∧ c.toNat = 0) then none else if c.toNat < 128 then some (acc + c.toNat * 128 ^ i, r) else rd (i + 1) (acc + (c.toNat - 128) * 128 ^ i) r

end Go.Proofs.Ytoaeiokjaikalaa


namespace Go.Proofs.Ytoaeiokjaikalaa
set_option linter.unusedVariables false
set_option linter.unusedSimpArgs false
set_option maxRecDepth 100000
open Go.RowKit

/-- a row of slices, from the head of block g on, that read as the lists ls -/
def Parts (w : World) (g : Nat) (xs : List Value) (ls : List (List UInt8)) : Prop :=
  xs.length = ls.length ∧ ∀ j x l, xs[j]? = some x → ls[j]? = some l → w.cell? ⟨g, j, none⟩ = some x ∧ Bs w x l
theorem Parts.non {w w' : World} {g : Nat} {xs : List Value} {ls : List (List UInt8)} (h : Parts w g xs ls) (hf : Fr Non w w') : Parts w' g xs ls :=
  ⟨h.1, fun j x l hx hl => by
    obtain ⟨h1, h2⟩ := h.2 j x l hx hl
    exact ⟨(hf.cell (p := ⟨g, j, none⟩) (World.block_lt_of_cell? w _ h1) (fun e => e)).trans h1, h2.non hf⟩⟩
theorem Parts.two {w : World} {t : TypeId} {x y : Value} {l m : List UInt8} (hx : Bs w x l) (hy : Bs w y m) : Parts (w.alloc (.cells #[x, y] t)) w.heap.size [x, y] [l, m] := by
  refine ⟨rfl, fun j u k hu hk => ?_⟩
  have hb := Blk.new w t #[x, y]
  have hf : Fr Non w (w.alloc (.cells #[x, y] t)) := (Fr.refl _ _).alloc _
  match j with
  | 0 =>
    obtain rfl : x = u := by simpa using hu
    obtain rfl : l = k := by simpa using hk
    exact ⟨hb.cell 0, hx.non hf⟩
  | 1 =>
    obtain rfl : y = u := by simpa using hu
    obtain rfl : m = k := by simpa using hk
    exact ⟨hb.cell 1, hy.non hf⟩
  | j + 2 => simp at hu

theorem Own.shape {w : World} {B : Nat} {v : Value} {l : List UInt8} (h : Own w B v l) : ∃ A c, v = .slice A l.length c := h.bs.shape

end Go.Proofs.Ytoaeiokjaikalaa


namespace Go.Proofs.Ytoaeiokjaikalaa
set_option linter.unusedVariables false
set_option linter.unusedSimpArgs false
set_option maxRecDepth 100000
open Go.RowKit

theorem byte_at (l : List UInt8) (k : Nat) (c : UInt8) (hk : k < l.length) (hc : l[k] = c) : ∀ h : k < ByteArray.size ⟨l.toArray⟩, (⟨l.toArray⟩ : ByteArray)[k] = c := by
  intro h; exact hc

end Go.Proofs.Ytoaeiokjaikalaa


namespace Go.Proofs.Ytoaeiokjaikalaa
set_option linter.unusedVariables false
set_option linter.unusedSimpArgs false
set_option maxRecDepth 100000
open Go.RowKit

/-- a source in block g: what is left, and whether it failed -/
def Src (w : World) (g : Nat) (l : List UInt8) (bad : Bool) : Prop := Blk w g 60 #[.string ⟨l.toArray⟩, .bool bad] ∧ (bad = true → l = [])
theorem Src.fr {S : Nat → Prop} {w w' : World} {g : Nat} {l : List UInt8} {bad : Bool} (h : Src w g l bad) (hf : Fr S w w') (hn : ¬ S g) : Src w' g l bad := ⟨h.1.fr hf hn, h.2⟩

/-- what a number leaves -/
def rest (l : List UInt8) : List UInt8 := match rd 0 0 l with | none => [] | some (_, r) => r
end Go.Proofs.Ytoaeiokjaikalaa


namespace Go.Proofs.Ytoaeiokjaikalaa
set_option linter.unusedVariables false
set_option linter.unusedSimpArgs false
set_option maxRecDepth 100000
open Go.RowKit

/-- a cell: null or not, its number, its text -/
structure Cl where
  null : Bool
  num : Int
  txt : List UInt8
  deriving DecidableEq
/-- its cells, and its value -/
def clC (c : Cl) : Array Value := #[.bool c.null, .int .i64 c.num, .string ⟨c.txt.toArray⟩]
def clV (c : Cl) : Value := .agg (clC c)
/-- are two the same? -/
def ceq (a b : Cl) : Bool := decide (a = b)
theorem eq_parts (a b : Cl) : ceq a b = (a.null == b.null && (a.num == b.num && a.txt == b.txt)) := by
  obtain ⟨an, ai, at_⟩ := a
  obtain ⟨bn, bi, bt⟩ := b
  unfold ceq
  rw [Bool.eq_iff_iff]
  simp

theorem run_eql_cl (W : World) (a b : Cl) : (binOp .eql 27 (.agg #[.bool a.null, .int .i64 a.num, .string ⟨a.txt.toArray⟩]) (.agg #[.bool b.null, .int .i64 b.num, .string ⟨b.txt.toArray⟩])).run Try.prog W = .ok (.bool (ceq a b)) W := by
  rw [eq_parts]
  obtain ⟨an, ai, at_⟩ := a
  obtain ⟨bn, bi, bt⟩ := b
  go_simp
  by_cases h1 : an = bn <;> by_cases h2 : ai = bi <;> by_cases h3 : at_ = bt <;> simp [h1, h2, h3]
theorem csame_any (a b : Cl) (w : World) : Calls Try.prog 51 #[clV a, clV b] w fun e w' => e = .returned (.bool (ceq a b)) ∧ Fr Non w w' := by
  have h := fun W => run_eql_cl W a b
  unfold clV clC
  go_enter Try.func51, Try.ntmps51
  go_wp2
  go_ret
  exact ⟨rfl, ((Fr.refl _ _).alloc _).alloc _⟩

/-- is there such a type? -/
def isTy (ty : Int) : Bool := ty == 1 || ty == 2 || ty == 3
/-- which cells there may be -/
def mayC (ty : Int) (nl : Bool) (c : Cl) : Bool :=
  isTy ty && (if c.null then nl && (c.num == 0 && c.txt.isEmpty) else if ty = 3 then c.num == 0 && decide (c.txt.length ≤ 40) else c.txt.isEmpty && (ty == 1 || (c.num == 0 || c.num == 1)))

theorem istype_any (ty : Int) (w : World) : Calls Try.prog 50 #[.int .i64 ty] w fun e w' => e = .returned (.bool (isTy ty)) ∧ w = w' := by
  go_enter Try.func50, Try.ntmps50
  go_wp2
  all_goals
    go_ret
    exact ⟨ret_boolE (by simp_all [isTy]), rfl⟩

theorem slen (l : List UInt8) : ByteArray.size ⟨l.toArray⟩ = l.length := by simp [ByteArray.size]
theorem mayC_no {ty : Int} (h1 : ¬ ty = 1) (h2 : ¬ ty = 2) (h3 : ¬ ty = 3) (nl : Bool) (c : Cl) : mayC ty nl c = false := by
  simp [mayC, isTy, h1, h2, h3]
theorem mayC_null (ty : Int) (nl : Bool) (i : Int) (t : Tx) : mayC ty nl ⟨true, i, t⟩ = (nl && (isTy ty && ceq ⟨true, i, t⟩ ⟨true, 0, []⟩)) := by
  rw [eq_parts]
  unfold mayC
  cases isTy ty <;> cases nl <;> cases t <;> simp

set_option maxHeartbeats 1000000 in
theorem may_any (ty : Int) (nl : Bool) (c : Cl) (w : World) : Calls Try.prog 35 #[.int .i64 ty, .bool nl, clV c] w fun e w' => e = .returned (.bool (mayC ty nl c)) ∧ Fr Non w w' := by
  obtain ⟨n, i, t⟩ := c
  unfold clV clC
  cases n
  · have hs := slen t
    by_cases h1 : ty = 1
    · subst h1
      go_enter Try.func35, Try.ntmps35
      go_wp2
      all_goals
        go_ret
        exact ⟨ret_boolE (by first | rfl | (simp [mayC, isTy]; done) | (simp_all [mayC, isTy]; done) | (simp_all [mayC, isTy] <;> omega)), (Fr.refl _ _).alloc _⟩
    · by_cases h2 : ty = 2
      · subst h2
        go_enter Try.func35, Try.ntmps35
        go_wp2
        all_goals
          go_ret
          exact ⟨ret_boolE (by first | rfl | (simp [mayC, isTy]; done) | (simp_all [mayC, isTy]; done) | (simp_all [mayC, isTy] <;> omega)), (Fr.refl _ _).alloc _⟩
      · by_cases h3 : ty = 3
        · subst h3
          go_enter Try.func35, Try.ntmps35
          go_wp2
          all_goals
            go_ret
            exact ⟨ret_boolE (by first | rfl | (simp [mayC, isTy]; done) | (simp_all [mayC, isTy]; done) | (simp_all [mayC, isTy] <;> omega)), (Fr.refl _ _).alloc _⟩
        · have H := Lib.hid (mayC_no h1 h2 h3 nl ⟨false, i, t⟩)
          go_enter Try.func35, Try.ntmps35
          go_wp2
          go_ret
          exact ⟨ret_boolE H.out.symm, (Fr.refl _ _).alloc _⟩
  · have H := Lib.hid (mayC_null ty nl i t)
    cases nl
    · go_enter Try.func35, Try.ntmps35
      go_wp2
      go_ret
      exact ⟨ret_boolE (by rw [H.out]; rfl), (Fr.refl _ _).alloc _⟩
    · cases hT : isTy ty with
      | false =>
        have h0 := fun W => istype_any ty W
        simp only [hT] at h0
        have HT := Lib.hid hT
        clear hT
        go_enter Try.func35, Try.ntmps35
        go_wp2_with fail
        refine (h0 _).mono ?_
        rintro e w1 ⟨rfl, rfl⟩
        go_wp2
        go_ret
        exact ⟨ret_boolE (by rw [H.out, HT.out]; rfl), (Fr.refl _ _).alloc _⟩
      | true =>
        have h0 := fun W => istype_any ty W
        simp only [hT] at h0
        have HT := Lib.hid hT
        clear hT
        go_enter Try.func35, Try.ntmps35
        go_wp2_with fail
        refine (h0 _).mono ?_
        rintro e w1 ⟨rfl, rfl⟩
        go_wp2_with fail
        refine (csame_any ⟨true, i, t⟩ ⟨true, 0, []⟩ _).mono ?_
        rintro e w1 ⟨rfl, hf1⟩
        go_wp2
        go_ret
        exact ⟨ret_boolE (by rw [H.out, HT.out]; rfl), ((Fr.refl _ _).alloc _).trans hf1⟩

set_option maxHeartbeats 1000000 in
theorem rmay_any (ty : Int) (nl : Bool) (c : Cl) (w : World) : Calls Try.prog 36 #[.int .i64 ty, .bool nl, clV c] w fun e w' => e = .returned (.bool (mayC ty nl c)) ∧ Fr Non w w' := by
  obtain ⟨n, i, t⟩ := c
  unfold clV clC
  by_cases h0 : ty < 1
  · have H := Lib.hid (mayC_no (ty := ty) (by omega) (by omega) (by omega) nl ⟨n, i, t⟩)
    go_enter Try.func36, Try.ntmps36
    go_wp2
    go_ret
    exact ⟨ret_boolE H.out.symm, (Fr.refl _ _).alloc _⟩
  · by_cases h4 : 3 < ty
    · have H := Lib.hid (mayC_no (ty := ty) (by omega) (by omega) (by omega) nl ⟨n, i, t⟩)
      go_enter Try.func36, Try.ntmps36
      go_wp2
      go_ret
      exact ⟨ret_boolE H.out.symm, (Fr.refl _ _).alloc _⟩
    · have hs := slen t
      have h3 : ty = 1 ∨ ty = 2 ∨ ty = 3 := by omega
      clear h0 h4
      cases n
      · rcases h3 with h | h | h
        · subst h
          go_enter Try.func36, Try.ntmps36
          go_wp2
          all_goals
            go_ret
            exact ⟨ret_boolE (by first | rfl | (simp [mayC, isTy]; done) | (simp_all [mayC, isTy]; done) | (simp_all [mayC, isTy] <;> omega)), (Fr.refl _ _).alloc _⟩
        · subst h
          go_enter Try.func36, Try.ntmps36
          go_wp2
          all_goals
            go_ret
            exact ⟨ret_boolE (by first | rfl | (simp [mayC, isTy]; done) | (simp_all [mayC, isTy]; done) | (simp_all [mayC, isTy] <;> omega)), (Fr.refl _ _).alloc _⟩
        · subst h
          go_enter Try.func36, Try.ntmps36
          go_wp2
          all_goals
            go_ret
            exact ⟨ret_boolE (by first | rfl | (simp [mayC, isTy]; done) | (simp_all [mayC, isTy]; done) | (simp_all [mayC, isTy] <;> omega)), (Fr.refl _ _).alloc _⟩
      · have hT : isTy ty = true := by rcases h3 with rfl | rfl | rfl <;> rfl
        have hl : ¬ ty < 1 := by omega
        have hg : ¬ 3 < ty := by omega
        clear h3
        cases nl
        · go_enter Try.func36, Try.ntmps36
          go_wp2
          all_goals
            go_ret
            exact ⟨ret_boolE (by first | (simp [mayC, hT]; done) | (simp_all [mayC]; done)), (Fr.refl _ _).alloc _⟩
        · go_enter Try.func36, Try.ntmps36
          go_wp2
          all_goals
            go_ret
            exact ⟨ret_boolE (by first | (simp [mayC, hT]; done) | (simp_all [mayC]; done)), (Fr.refl _ _).alloc _⟩
end Go.Proofs.Ytoaeiokjaikalaa


namespace Go.Proofs.Ytoaeiokjaikalaa
set_option linter.unusedVariables false
set_option linter.unusedSimpArgs false
set_option maxRecDepth 100000
open Go.RowKit

/-- the document's source in block g; its bytes lie outside the blocks of S, g among them -/
def SAt (w : World) (g : Nat) (S : Nat → Prop) (l : List UInt8) (bad : Bool) : Prop :=
  ∃ v, Blk w g 43 #[v, .bool bad] ∧ Bs w v l ∧ (∀ k, v.ownBlock = some k → ¬ S k) ∧ S g ∧ (bad = true → l = [])

theorem SAt.fr {S S' : Nat → Prop} {w w' : World} {g : Nat} {l : List UInt8} {bad : Bool} (h : SAt w g S l bad) (hf : Fr S' w w') (hn : ¬ S' g) (hs : ∀ k, S' k → S k) : SAt w' g S l bad := by
  obtain ⟨v, h1, h2, h3, h4, h5⟩ := h
  exact ⟨v, h1.fr hf hn, h2.fr hf fun k hk e => h3 k hk (hs k e), h3, h4, h5⟩

theorem Src.drew {w : World} {g : Nat} {l : List UInt8} {bad : Bool} (h : Src w g l bad) : Src w.drew g l bad := h
theorem SAt.drew {w : World} {g : Nat} {S : Nat → Prop} {l : List UInt8} {bad : Bool} (h : SAt w g S l bad) : SAt w.drew g S l bad := h
theorem Src.drewN {w : World} {g : Nat} {l : List UInt8} {bad : Bool} (h : Src w g l bad) (n : Nat) : Src (w.drewN n) g l bad := h
theorem SAt.drewN {w : World} {g : Nat} {S : Nat → Prop} {l : List UInt8} {bad : Bool} (h : SAt w g S l bad) (n : Nat) : SAt (w.drewN n) g S l bad := h

end Go.Proofs.Ytoaeiokjaikalaa


namespace Go.Proofs.Ytoaeiokjaikalaa
set_option linter.unusedVariables false
set_option linter.unusedSimpArgs false
set_option maxRecDepth 100000
open Go.RowKit

theorem SAt.cells {w : World} {g : Nat} {S : Nat → Prop} {l : List UInt8} {bad : Bool} (h : SAt w g S l bad) :
    ∃ A c, w.cell? ⟨g, 0, none⟩ = some (.slice A l.length c) ∧ w.cell? ⟨g, 1, none⟩ = some (.bool bad) ∧ w.frozen? ⟨g, 0, none⟩ = false ∧ l.length ≤ c ∧
      Blk w g 43 #[.slice A l.length c, .bool bad] ∧ Bs w (.slice A l.length c) l ∧ (∀ k, (Value.slice A l.length c).ownBlock = some k → ¬ S k) ∧ S g := by
  obtain ⟨v, h1, h2, h3, h4, h5⟩ := h
  have hh := h2
  obtain ⟨A, c, rfl, hc, _, _⟩ := h2
  exact ⟨A, c, h1.cell 0, h1.cell 1, h1.frozen 0, hc, h1, hh, h3, h4⟩

end Go.Proofs.Ytoaeiokjaikalaa


namespace Go.Proofs.Ytoaeiokjaikalaa
set_option linter.unusedVariables false
set_option linter.unusedSimpArgs false
set_option maxRecDepth 100000
open Go.RowKit

/-- no table may have c -/
def badC (c : Co) : Bool := !(nameB c.name && isTy c.ty)
def namesC (l : List Co) : List Tx := l.map Co.name
/-- what is wrong with l: 0, nothing; 1, 4 -/
def chkC (l : List Co) : Int := if l.length = 0 ∨ l.any badC = true ∨ ¬ (namesC l).Nodup then 1 else if 6 < l.length then 4 else 0
theorem chk_bad {l : List Co} {k : Nat} (h : k < l.length) (hb : badC l[k] = true) : chkC l = 1 := if_pos (.inr (.inl (List.any_eq_true.2 ⟨_, List.getElem_mem h, hb⟩)))
theorem chk_any {l : List Co} (hb : l.any badC = true) : chkC l = 1 := if_pos (.inr (.inl hb))
theorem chk_dup {l : List Co} (h : ¬ (namesC l).Nodup) : chkC l = 1 := if_pos (.inr (.inr h))
theorem chk_none {l : List Co} (h : l.length = 0) : chkC l = 1 := if_pos (.inl h)
theorem chk_many {l : List Co} (h0 : ¬ l.length = 0) (h1 : l.any badC = false) (h2 : (namesC l).Nodup) (h3 : 6 < l.length) : chkC l = 4 := by
  unfold chkC; rw [if_neg (by rintro (h | h | h); exact h0 h; rw [h1] at h; cases h; exact h h2), if_pos h3]
theorem chk_ok {l : List Co} (h0 : ¬ l.length = 0) (h1 : l.any badC = false) (h2 : (namesC l).Nodup) (h3 : ¬ 6 < l.length) : chkC l = 0 := by
  unfold chkC; rw [if_neg (by rintro (h | h | h); exact h0 h; rw [h1] at h; cases h; exact h h2), if_neg h3]
/-- the names up to k are unlike, and so is k's -/
theorem nodup_more {l : List Co} {k : Nat} (h : k < l.length) (h1 : (namesC (l.take k)).Nodup) (h2 : ∀ j (hj : j < l.length), j < k → l[j].name ≠ l[k].name) : (namesC (l.take (k + 1))).Nodup := by
  unfold namesC
  rw [List.take_succ_eq_append_getElem h, List.map_append, List.nodup_append]
  refine ⟨h1, by simp, ?_⟩
  intro a ha b hb
  obtain ⟨c, hc, rfl⟩ := List.mem_map.1 ha
  obtain rfl : l[k].name = b := by rw [List.map_cons, List.map_nil, List.mem_singleton] at hb; exact hb.symm
  obtain ⟨j, hj, rfl⟩ := List.mem_iff_getElem.1 hc
  rw [List.length_take] at hj
  rw [List.getElem_take]
  exact h2 j (by omega) (by omega)
theorem nodup_not {l : List Co} {j k : Nat} (hk : k < l.length) (hj : j < k) (h : l[j].name = l[k].name) : ¬ (namesC l).Nodup := by
  intro hn
  have h1 : (namesC l)[j]'(by unfold namesC; rw [List.length_map]; omega) = (namesC l)[k]'(by unfold namesC; rw [List.length_map]; omega) := by
    unfold namesC; rw [List.getElem_map, List.getElem_map]; exact h
  have := (List.getElem_inj hn).1 h1
  omega
theorem any_more {l : List Co} {k : Nat} (h : k < l.length) (h1 : (l.take k).any badC = false) (h2 : badC l[k] = false) : (l.take (k + 1)).any badC = false := by
  rw [List.take_succ_eq_append_getElem h, List.any_append, h1]; simp [h2]

theorem ne_more {l : List Co} {n : Tx} {k : Nat} (h : k < l.length) (ha : ∀ j (hj : j < l.length), j < k → l[j].name ≠ n) (hb : l[k].name ≠ n) : ∀ j (hj : j < l.length), j < k + 1 → l[j].name ≠ n := by
  intro j hj hlt
  by_cases e : j = k
  · subst e; exact hb
  · exact ha j hj (by omega)

/-- where the first one of that name is -/
def findC (l : List Co) (n : Tx) : Option Nat := l.findIdx? fun c => c.name == n
theorem find_at {l : List Co} {n : Tx} {k : Nat} (h : k < l.length) (he : l[k].name = n) (hn : ∀ j (hj : j < l.length), j < k → l[j].name ≠ n) : findC l n = some k := by
  unfold findC
  rw [List.findIdx?_eq_some_iff_getElem]
  exact ⟨h, by simpa using he, fun j hj => by simpa using hn j (by omega) hj⟩
theorem find_no {l : List Co} {n : Tx} (hn : ∀ j (hj : j < l.length), l[j].name ≠ n) : findC l n = none := by
  unfold findC
  rw [List.findIdx?_eq_none_iff]
  intro c hc
  obtain ⟨j, hj, rfl⟩ := List.mem_iff_getElem.1 hc
  simpa using hn j hj
theorem find_lt {l : List Co} {n : Tx} {k : Nat} (h : findC l n = some k) : k < l.length := by
  unfold findC at h
  exact (List.findIdx?_eq_some_iff_getElem.1 h).1

/-- may row be one of a table with these columns? -/
def rowB (l : List Co) (row : List Cl) : Bool := decide (l.length = row.length ∧ ∀ j (h : j < l.length) (h2 : j < row.length), mayC l[j].ty l[j].nl row[j] = true)
theorem row_len {l : List Co} {row : List Cl} (h : ¬ l.length = row.length) : rowB l row = false := decide_eq_false fun h' => h h'.1
theorem row_bad {l : List Co} {row : List Cl} {j : Nat} (h : j < l.length) (h2 : j < row.length) (hb : mayC l[j].ty l[j].nl row[j] = false) : rowB l row = false := decide_eq_false fun h' => by
  have := h'.2 j h h2; rw [hb] at this; cases this
theorem row_yes {l : List Co} {row : List Cl} (h : l.length = row.length) (h2 : ∀ j (h : j < l.length) (h2 : j < row.length), mayC l[j].ty l[j].nl row[j] = true) : rowB l row = true := decide_eq_true ⟨h, h2⟩
theorem row_more {l : List Co} {row : List Cl} {k : Nat} (h : k < l.length) (h2 : k < row.length) (ha : ∀ j (h : j < l.length) (h2 : j < row.length), j < k → mayC l[j].ty l[j].nl row[j] = true) (hb : mayC l[k].ty l[k].nl row[k] = true) :
    ∀ j (h : j < l.length) (h2 : j < row.length), j < k + 1 → mayC l[j].ty l[j].nl row[j] = true := by
  intro j hj hj2 hlt
  by_cases e : j = k
  · subst e; exact hb
  · exact ha j hj hj2 (by omega)
end Go.Proofs.Ytoaeiokjaikalaa


namespace Go.Proofs.Ytoaeiokjaikalaa
set_option linter.unusedVariables false
set_option linter.unusedSimpArgs false
set_option maxRecDepth 100000
open Go.RowKit

/-- a text's cell -/
def sv (l : List UInt8) : Value := .string ⟨l.toArray⟩
end Go.Proofs.Ytoaeiokjaikalaa


namespace Go.Proofs.Ytoaeiokjaikalaa
set_option linter.unusedVariables false
set_option linter.unusedSimpArgs false
set_option maxRecDepth 100000
open Go.RowKit

theorem isletter_any (r : Int) (w : World) : Calls Try.prog 29 #[.int .i32 r] w fun e w' => e = .returned (.bool (ltrI r)) ∧ w = w' := by
  by_cases h1 : 97 ≤ r
  · by_cases h2 : r ≤ 122
    · have H := Lib.hid (show ltrI r = true by simp [ltrI, h1, h2])
      go_enter Try.func29, Try.ntmps29
      go_wp2
      go_ret
      exact ⟨ret_boolE H.out.symm, rfl⟩
    · have H := Lib.hid (show ltrI r = false by simp [ltrI, h1, h2])
      go_enter Try.func29, Try.ntmps29
      go_wp2
      go_ret
      exact ⟨ret_boolE H.out.symm, rfl⟩
  · have H := Lib.hid (show ltrI r = false by simp [ltrI, h1])
    go_enter Try.func29, Try.ntmps29
    go_wp2
    go_ret
    exact ⟨ret_boolE H.out.symm, rfl⟩
theorem isdigit_any (r : Int) (w : World) : Calls Try.prog 30 #[.int .i32 r] w fun e w' => e = .returned (.bool (dgtI r)) ∧ w = w' := by
  by_cases h1 : 48 ≤ r
  · by_cases h2 : r ≤ 57
    · have H := Lib.hid (show dgtI r = true by simp [dgtI, h1, h2])
      go_enter Try.func30, Try.ntmps30
      go_wp2
      go_ret
      exact ⟨ret_boolE H.out.symm, rfl⟩
    · have H := Lib.hid (show dgtI r = false by simp [dgtI, h1, h2])
      go_enter Try.func30, Try.ntmps30
      go_wp2
      go_ret
      exact ⟨ret_boolE H.out.symm, rfl⟩
  · have H := Lib.hid (show dgtI r = false by simp [dgtI, h1])
    go_enter Try.func30, Try.ntmps30
    go_wp2
    go_ret
    exact ⟨ret_boolE H.out.symm, rfl⟩

set_option maxHeartbeats 4000000 in
theorem isword_any (l : List UInt8) (w : World) : Calls Try.prog 28 #[.string ⟨l.toArray⟩] w fun e w' => e = .returned (.bool (decide (l ∈ wordsL))) ∧ w = w' := by
  go_enter Try.func28, Try.ntmps28
  go_wp2
  all_goals
    go_ret
    exact ⟨ret_boolE (by simp_all [wordsL]), rfl⟩

theorem words_any (w : World) : Calls Try.prog 31 #[] w fun e w' => ∃ v, e = .returned v ∧ Vs sv w' v wordsL ∧ Fr Non w w' := by
  have hv := ow_lit (f := sv) (E := 9) w 0 _ wordsL #[.string ⟨#[97, 110, 100]⟩, .string ⟨#[111, 114]⟩, .string ⟨#[110, 111, 116]⟩, .string ⟨#[105, 115]⟩, .string ⟨#[110, 117, 108, 108]⟩, .string ⟨#[108, 105, 107, 101]⟩, .string ⟨#[116, 114, 117, 101]⟩, .string ⟨#[102, 97, 108, 115, 101]⟩, .string ⟨#[115, 101, 108, 101, 99, 116]⟩, .string ⟨#[102, 114, 111, 109]⟩, .string ⟨#[119, 104, 101, 114, 101]⟩, .string ⟨#[103, 114, 111, 117, 112]⟩, .string ⟨#[98, 121]⟩, .string ⟨#[97, 108, 108]⟩, .string ⟨#[99, 111, 117, 110, 116]⟩, .string ⟨#[104, 97, 115]⟩, .string ⟨#[115, 117, 109]⟩, .string ⟨#[109, 105, 110]⟩, .string ⟨#[109, 97, 120]⟩] rfl rfl (Nat.zero_le _) (by unfold maxLen; decide)
  have HV := Lib.hid hv.vs
  clear hv
  go_enter Try.func31, Try.ntmps31
  go_wp2
  go_ret
  exact ⟨_, rfl, HV.out, (Fr.refl _ _).alloc _⟩
end Go.Proofs.Ytoaeiokjaikalaa


namespace Go.Proofs.Ytoaeiokjaikalaa
set_option linter.unusedVariables false
set_option linter.unusedSimpArgs false
set_option maxRecDepth 100000
open Go.RowKit

theorem slenN (l : List UInt8) : ByteArray.size ⟨l.toArray⟩ = l.length := by simp [ByteArray.size]
theorem not_word {l : List UInt8} (h : ∀ j (hj : j < wordsL.length), wordsL[j] ≠ l) : l ∉ wordsL := by
  intro hm
  obtain ⟨j, hj, e⟩ := List.mem_iff_getElem.1 hm
  exact h j hj e
theorem nmOk_more {l : List UInt8} {k : Nat} (h : ∀ j (hj : j < l.length), j < k → okI j (l[j]).toNat = true) (hk : k < l.length) (hc : okI k (l[k]).toNat = true) : ∀ j (hj : j < l.length), j < k + 1 → okI j (l[j]).toNat = true := by
  intro j hj hlt
  by_cases e : j = k
  · subst e; exact hc
  · exact h j hj (by omega)

set_option maxHeartbeats 2000000 in
theorem rname_any (l : List UInt8) (w : World) (hl : l.length ≤ 1000000000) : Calls Try.prog 11 #[.string ⟨l.toArray⟩] w fun e w' => e = .returned (.bool (nameB l)) ∧ Fr Non w w' := by
  have hs := slenN l
  go_enter Try.func11, Try.ntmps11
  go_wp2
  go_loop [3] (fun i => ∃ k : Nat, k ≤ l.length ∧ i = .int .i64 k ∧ Hid (∀ j (hj : j < l.length), j < k → okI j (l[j]).toNat = true)) (fun i => l.length - (intOf i).toNat)
  case atStart => exact ⟨0, by omega, rfl, Lib.hid (fun _ _ h => by omega)⟩
  case round =>
    obtain ⟨k, hk, rfl, hok⟩ := hrel
    by_cases hlt : k < l.length
    · obtain ⟨c, hc⟩ : ∃ c, l[k] = c := ⟨_, rfl⟩
      have hb := byte_at l k c hlt hc
      have HC := Lib.hid hc
      clear hc
      have HM := Lib.hid (fun (h : okI k c.toNat = true) => nmOk_more hok.out hlt (by rw [HC.out]; exact h))
      have HX := Lib.hid (fun (h : okI k c.toNat = false) => name_bad hlt (by rw [HC.out]; exact h))
      clear HC hok
      go_wp2
      all_goals first
        | (go_ret
           refine ⟨ret_boolE (HX.out ?_).symm, Fr.refl _ _⟩
           clear HX HM hb hs
           rw [Bool.eq_false_iff]
           intro hh
           simp [okI, ltrI, dgtI] at *
           done)
        | (go_ret
           refine ⟨ret_boolE (HX.out ?_).symm, Fr.refl _ _⟩
           clear HX HM hb hs
           rw [Bool.eq_false_iff]
           intro hh
           simp [okI, ltrI, dgtI] at *
           omega)
        | (go_roundw
           case rel =>
             refine ⟨k + 1, by omega, by go_num, Lib.hid (HM.out ?_)⟩
             clear HX HM hb hs
             simp [okI, ltrI, dgtI] at *
             omega
           case measure => simp [intOf]; omega)
        | (go_roundw
           case rel =>
             refine ⟨k + 1, by omega, by go_num, Lib.hid (HM.out ?_)⟩
             clear HX HM hb hs
             simp [okI, ltrI, dgtI] at *
             done
           case measure => simp [intOf]; omega)
    · have HO : Hid (nmOk l) := Lib.hid (fun j hj => hok.out j hj (by omega))
      clear hok
      go_wp2_with fail
      refine (words_any _).mono ?_
      rintro e w1 ⟨v, rfl, hv, hf1⟩
      have hw : wordsL.length = 19 := rfl
      obtain ⟨A, c, he, hc, hn, hcell⟩ := hv
      rw [hw] at he hc
      subst he
      have HN := Lib.hid hn
      have HCE := Lib.hid hcell
      have HF := Lib.hid hf1
      clear hn hcell hf1
      go_wp2
      go_loop [8] (fun i => ∃ q : Nat, q ≤ 19 ∧ i = .int .i64 q ∧ Hid (∀ j (hj : j < wordsL.length), j < q → wordsL[j] ≠ l)) (fun i => 19 - (intOf i).toNat)
      case atStart => exact ⟨0, by omega, rfl, Lib.hid (fun _ _ h => by omega)⟩
      case round =>
        obtain ⟨q, hq, rfl, hne⟩ := hrel
        by_cases hlq : q < 19
        · cases A with
          | none => have := HN.out rfl; omega
          | some a =>
            have hql : q < wordsL.length := by rw [hw]; exact hlq
            have hce := HCE.out a rfl q hql
            unfold sv at hce
            by_cases he : wordsL[q] = l
            · have HE := Lib.hid (name_word (l := l) (by rw [← he]; exact List.getElem_mem hql))
              rw [he] at hce
              clear he
              go_wp2
              go_ret
              exact ⟨ret_boolE HE.out.symm, HF.out⟩
            · have HE : Hid (∀ j (hj : j < wordsL.length), j < q + 1 → wordsL[j] ≠ l) := Lib.hid (fun j hj hlt => by
                by_cases e : j = q
                · subst e; exact he
                · exact hne.out j hj (by omega))
              have hb : (wordsL[q] == l) = false := by rw [beq_eq_false_iff_ne]; exact he
              clear he hne
              generalize wordsL[q] = x at *
              go_wp2
              go_roundw
              case rel => exact ⟨q + 1, by omega, by go_num, HE⟩
              case measure => simp [intOf]; omega
        · have HW : Hid (l ∉ wordsL) := Lib.hid (not_word fun j hj => hne.out j hj (by rw [hw] at hj; omega))
          clear hne
          by_cases h1 : 1 ≤ l.length
          · by_cases h2 : l.length ≤ 12
            · have H := Lib.hid (name_yes h1 h2 HW.out HO.out)
              go_wp2
              go_ret
              exact ⟨ret_boolE (by rw [H.out]; exact decide_eq_true (by omega)), HF.out⟩
            · have H := Lib.hid (name_long (l := l) (by omega))
              go_wp2
              go_ret
              exact ⟨ret_boolE (by rw [H.out]; exact decide_eq_false (by omega)), HF.out⟩
          · have H := Lib.hid (name_nil (l := l) (by omega))
            go_wp2
            go_ret
            exact ⟨ret_boolE H.out.symm, HF.out⟩

set_option maxHeartbeats 2000000 in
theorem sname_any (l : List UInt8) (w : World) (hl : l.length ≤ 1000000000) : Calls Try.prog 10 #[.string ⟨l.toArray⟩] w fun e w' => e = .returned (.bool (nameB l)) ∧ Fr Non w w' := by
  have hs := slenN l
  by_cases h0 : l = []
  · subst h0
    go_enter Try.func10, Try.ntmps10
    go_wp2
    go_ret
    exact ⟨rfl, Fr.refl _ _⟩
  · have h0b : (l == []) = false := by rw [beq_eq_false_iff_ne]; exact h0
    have HL : Hid (1 ≤ l.length) := Lib.hid (Nat.pos_of_ne_zero (fun e => h0 (List.eq_nil_of_length_eq_zero e)))
    clear h0
    by_cases h12 : 12 < l.length
    · have H := Lib.hid (name_long h12)
      go_enter Try.func10, Try.ntmps10
      go_wp2
      go_ret
      exact ⟨ret_boolE H.out.symm, Fr.refl _ _⟩
    · have HI := fun W => isword_any l W
      cases hw : decide (l ∈ wordsL)
      · simp only [hw] at HI
        have HW := Lib.hid (of_decide_eq_false hw)
        clear hw
        replace HI := Lib.hid HI
        go_enter Try.func10, Try.ntmps10
        go_wp2_with fail
        refine (HI.out _).mono ?_
        rintro e w1 ⟨rfl, rfl⟩
        clear HI
        go_wp2
        go_loopw [3, 4] (fun _ _ wr => ∃ k : Nat, k ≤ l.length ∧ wr = w.iter ⟨l.toArray⟩ k ∧ Hid (∀ j (hj : j < l.length), j < k → okI j (l[j]).toNat = true)) (fun _ _ wr => l.length - wr.iterPos w.heap.size)
        case atStart => exact ⟨0, by omega, rfl, Lib.hid (fun _ _ h => by omega)⟩
        case round =>
          obtain ⟨k, hk, rfl, hok⟩ := hrel
          by_cases hlt : k < l.length
          · obtain ⟨c, hc⟩ : ∃ c, l[k] = c := ⟨_, rfl⟩
            have hm := World.iterPos_iter w ⟨l.toArray⟩ k
            have HC := Lib.hid hc
            have hbk : (⟨l.toArray⟩ : ByteArray)[k]'(by rw [hs]; exact hlt) = c := hc
            clear hc
            have HM := Lib.hid (fun (h : okI k c.toNat = true) => nmOk_more hok.out hlt (by rw [HC.out]; exact h))
            have HX := Lib.hid (fun (h : okI k c.toNat = false) => name_bad hlt (by rw [HC.out]; exact h))
            clear HC hok
            by_cases hhi : c.toNat < 128
            · have hn := fun ty => run_next_ascii (P := Try.prog) w ⟨l.toArray⟩ k ty (by rw [hs]; exact hlt) (by rw [hbk]; exact hhi)
              rw [hbk] at hn
              clear hbk hhi
              have hm1 := World.iterPos_iter w ⟨l.toArray⟩ (k + 1)
              have FR1 := Lib.hid ((Fr.refl Non w).alloc (.stringIter ⟨l.toArray⟩ (k + 1)))
              replace hm1 := Lib.hid hm1
              change Hid (Fr Non w (w.iter ⟨l.toArray⟩ (k + 1))) at FR1
              have HM1 := hm1
              clear hm1
              have HL1 := fun W => isletter_any c.toNat W
              have HD1 := fun W => isdigit_any c.toNat W
              cases hL : ltrI c.toNat
              · simp only [hL] at HL1
                replace HL1 := Lib.hid HL1
                by_cases hk0 : k = 0
                · subst hk0
                  replace HX := Lib.hid (HX.out (by simp [okI, hL]))
                  clear HD1 HM hL
                  go_wp2_with fail
                  refine (HL1.out _).mono ?_
                  rintro e w1 ⟨rfl, rfl⟩
                  clear HL1
                  go_wp2
                  go_ret
                  exact ⟨ret_boolE HX.out.symm, FR1.out⟩
                · have hkb : ((k : Int) == 0) = false := by rw [beq_eq_false_iff_ne]; omega
                  have HK0 := Lib.hid hk0
                  clear hk0
                  cases hD : dgtI c.toNat
                  · simp only [hD] at HD1
                    replace HD1 := Lib.hid HD1
                    by_cases h95 : (c.toNat : Int) = 95
                    · replace HM := Lib.hid (HM.out (by simp [okI, hL, hD, h95]; exact .inr HK0.out))
                      have h95b : ((c.toNat : Int) == 95) = true := by rw [beq_iff_eq]; exact h95
                      clear HX hL hD h95
                      go_wp2_with fail
                      refine (HL1.out _).mono ?_
                      rintro e w1 ⟨rfl, rfl⟩
                      clear HL1
                      go_wp2_with fail
                      refine (HD1.out _).mono ?_
                      rintro e w1 ⟨rfl, rfl⟩
                      clear HD1
                      go_wp2
                      go_roundw
                      case rel => exact ⟨k + 1, by omega, rfl, HM⟩
                      case measure => rw [hm, HM1.out]; omega
                    · replace HX := Lib.hid (HX.out (by simp [okI, hL, hD, h95]))
                      have h95b : ((c.toNat : Int) == 95) = false := by rw [beq_eq_false_iff_ne]; exact h95
                      clear HM hL hD h95
                      go_wp2_with fail
                      refine (HL1.out _).mono ?_
                      rintro e w1 ⟨rfl, rfl⟩
                      clear HL1
                      go_wp2_with fail
                      refine (HD1.out _).mono ?_
                      rintro e w1 ⟨rfl, rfl⟩
                      clear HD1
                      go_wp2
                      go_ret
                      exact ⟨ret_boolE HX.out.symm, FR1.out⟩
                  · simp only [hD] at HD1
                    replace HD1 := Lib.hid HD1
                    replace HM := Lib.hid (HM.out (by simp [okI, hL, hD]; exact HK0.out))
                    clear HX hL hD
                    go_wp2_with fail
                    refine (HL1.out _).mono ?_
                    rintro e w1 ⟨rfl, rfl⟩
                    clear HL1
                    go_wp2_with fail
                    refine (HD1.out _).mono ?_
                    rintro e w1 ⟨rfl, rfl⟩
                    clear HD1
                    go_wp2
                    go_roundw
                    case rel => exact ⟨k + 1, by omega, rfl, HM⟩
                    case measure => rw [hm, HM1.out]; omega
              · simp only [hL] at HL1
                replace HL1 := Lib.hid HL1
                replace HM := Lib.hid (HM.out (by simp [okI, hL]))
                clear HX hL HD1
                go_wp2_with fail
                refine (HL1.out _).mono ?_
                rintro e w1 ⟨rfl, rfl⟩
                clear HL1
                go_wp2
                go_roundw
                case rel => exact ⟨k + 1, by omega, rfl, HM⟩
                case measure => rw [hm, HM1.out]; omega
            · have hn := fun ty => run_next_any (P := Try.prog) w ⟨l.toArray⟩ k ty (by rw [hs]; exact hlt)
              have hr := (decode_high ⟨l.toArray⟩ k (by rw [hs]; exact hlt) (by rw [hbk]; omega)).1
              replace HX := Lib.hid (HX.out (okI_high (by omega)))
              clear HM hbk
              generalize (Utf8.decode ⟨l.toArray⟩ k).1 = r at *
              generalize k + (Utf8.decode ⟨l.toArray⟩ k).2 = p at *
              have FR1 := Lib.hid ((Fr.refl Non w).alloc (.stringIter ⟨l.toArray⟩ p))
              change Hid (Fr Non w (w.iter ⟨l.toArray⟩ p)) at FR1
              have HL1 := fun W => isletter_any r W
              have HD1 := fun W => isdigit_any r W
              have e1 : ltrI r = false := by simp [ltrI]; omega
              have e2 : dgtI r = false := by simp [dgtI]; omega
              have h95b : ((r : Int) == 95) = false := by rw [beq_eq_false_iff_ne]; omega
              simp only [e1] at HL1
              simp only [e2] at HD1
              replace HL1 := Lib.hid HL1
              replace HD1 := Lib.hid HD1
              clear e1 e2 hr hhi
              by_cases hk0 : k = 0
              · subst hk0
                clear HD1
                go_wp2_with fail
                refine (HL1.out _).mono ?_
                rintro e w1 ⟨rfl, rfl⟩
                clear HL1
                go_wp2
                go_ret
                exact ⟨ret_boolE HX.out.symm, FR1.out⟩
              · have hkb : ((k : Int) == 0) = false := by rw [beq_eq_false_iff_ne]; omega
                clear hk0
                go_wp2_with fail
                refine (HL1.out _).mono ?_
                rintro e w1 ⟨rfl, rfl⟩
                clear HL1
                go_wp2_with fail
                refine (HD1.out _).mono ?_
                rintro e w1 ⟨rfl, rfl⟩
                clear HD1
                go_wp2
                go_ret
                exact ⟨ret_boolE HX.out.symm, FR1.out⟩
          · have hn := fun ty => run_next_end (P := Try.prog) w ⟨l.toArray⟩ k ty (by rw [hs]; exact hlt)
            have H := Lib.hid (name_yes HL.out (by omega) HW.out (fun j hj => hok.out j hj (by omega)))
            clear hok
            go_wp2
            go_ret
            exact ⟨ret_boolE H.out.symm, (Fr.refl _ _).alloc _⟩
      · simp only [hw] at HI
        have H := Lib.hid (name_word (of_decide_eq_true hw))
        clear hw
        replace HI := Lib.hid HI
        go_enter Try.func10, Try.ntmps10
        go_wp2_with fail
        refine (HI.out _).mono ?_
        rintro e w1 ⟨rfl, rfl⟩
        go_wp2
        go_ret
        exact ⟨ret_boolE H.out.symm, Fr.refl _ _⟩
end Go.Proofs.Ytoaeiokjaikalaa


namespace Go.Proofs.Ytoaeiokjaikalaa
set_option linter.unusedVariables false
set_option linter.unusedSimpArgs false
set_option maxRecDepth 100000
open Go.RowKit Go.Maps

/-- how many unlike ones -/
def cntU : List Tx → Nat
  | [] => 0
  | y :: r => if y ∈ r then cntU r else cntU r + 1
theorem cntU_le (l : List Tx) : cntU l ≤ l.length := by
  induction l with
  | nil => exact Nat.le_refl _
  | cons y r ih =>
    unfold cntU
    rw [List.length_cons]
    split <;> omega
theorem cntU_all (l : List Tx) : cntU l = l.length ↔ l.Nodup := by
  induction l with
  | nil => simp [cntU]
  | cons y r ih =>
    have := cntU_le r
    unfold cntU
    rw [List.length_cons, List.nodup_cons]
    split
    · rename_i h
      constructor
      · intro e; omega
      · intro e; exact absurd h e.1
    · rename_i h
      rw [← ih]
      constructor
      · intro e; exact ⟨h, by omega⟩
      · intro e; omega

/-- block b is a map of at most n texts: those of ks -/
def MapS (w : World) (b n : Nat) (ks : List Tx) : Prop :=
  ∃ D : DataW Unit, w.ownsMap Try.prog 9 (plainElem Try.prog 3) b n D ∧ (∀ x, has D (.string x) = decide (x ∈ ks)) ∧ Maps.size D = cntU ks
theorem MapS.lt {w : World} {b n : Nat} {ks : List Tx} (h : MapS w b n ks) : b < w.heap.size := by
  obtain ⟨D, h1, _⟩ := h; exact h1.lt
theorem MapS.fr {S : Nat → Prop} {w w' : World} {b n : Nat} {ks : List Tx} (h : MapS w b n ks) (hf : Fr S w w') (hn : ¬ S b) : MapS w' b n ks := by
  obtain ⟨D, h1, h2, h3⟩ := h
  have hlt := h1.lt
  obtain ⟨es, clock, hb, F, hs, hD⟩ := h1
  exact ⟨D, ⟨es, clock, (hf.block b hlt hn).trans hb, F, hs, hD⟩, h2, h3⟩
theorem MapS.made (w : World) : MapS (w.alloc (.map #[] 0)) w.heap.size 0 [] :=
  ⟨.map [], World.ownsMap_made w _ _ _, fun x => by simp [has], rfl⟩

theorem keyLitS (x : Tx) : WideAt.IsKeyLit (.string x) := trivial
theorem keyStrS {x : Tx} (hx : x.length ≤ maxLen) : keyOf Try.prog 9 (.string ⟨x.toArray⟩) = some (.string x) := by
  have := Go.WideMaps.keyOf_string_mk (P := Try.prog) Try.underlying9 (s := ⟨x.toArray⟩) (by simpa [ByteArray.size] using hx)
  simpa using this
theorem MapS.put {w w' : World} {b n : Nat} {ks : List Tx} {D : DataW Unit} (h1 : w.ownsMap Try.prog 9 (plainElem Try.prog 3) b n D) (h2 : ∀ x, has D (.string x) = decide (x ∈ ks)) (h3 : Maps.size D = cntU ks)
    (y : Tx) (v : Int) (h : w'.ownsMap Try.prog 9 (plainElem Try.prog 3) b (n + 1) (D.put (.string y) (.lit (.int .i64 v)))) : MapS w' b (n + 1) (y :: ks) := by
  have hm := h1.isMap
  refine ⟨_, h, fun x => ?_, ?_⟩
  · by_cases he : x = y
    · subst he; rw [has_put_same hm (keyLitS x)]; simp
    · rw [has_put_other (by simpa using he), h2]; simp [he]
  · rw [Maps.size_put (h1.tidy (string_keyed Try.underlying9)), h2, h3]
    rw [show cntU (y :: ks) = if y ∈ ks then cntU ks else cntU ks + 1 from rfl]
    by_cases hy : y ∈ ks <;> simp [hy]

/-- 'm[y] = v' -/
theorem wpList_putS (w : World) {ops : Array Oper} {rest : List Oper} {o : Oper} {a : Act} {Q : Exit → Act → World → Prop} (hg : o.guard = none) (m x v : Operand) (hop : o.op = Op.mapUpdate 69 m x v)
    (b n : Nat) (ks : List Tx) (hm : a.eval m = .map (some b)) (hown : MapS w b n ks) (hn : n ≤ 1000000000) (y : Tx) (z : Int) (hx : a.eval x = .string ⟨y.toArray⟩) (hv : a.eval v = .int .i64 z)
    (hy : y.length ≤ 9223372036854775807) (hz1 : -9223372036854775808 ≤ z) (hz2 : z ≤ 9223372036854775807)
    (hK : ∀ w', MapS w' b (n + 1) (y :: ks) → Fr (One b) w w' → wpList Try.prog ops Q rest (a.put o.dst undef) w') : wpList Try.prog ops Q (o :: rest) a w := by
  obtain ⟨D, h1, h2, h3⟩ := hown
  refine wpList_mapUpdate_own w hg m x v 69 hop 9 3 (string_keyed Try.underlying9) Try.underlying69 _ b n D hm h1 (by unfold maxLen; omega) _ _ (.string y) hx hv (keyStrS (by simpa [maxLen] using hy)) (.lit (.int .i64 z)) [] (plainElem_int Try.underlying3 (WalkArith.wf_i64 ⟨hz1, hz2⟩)) ?_
  intro w' hw' hg'
  exact hK w' (MapS.put h1 h2 h3 y z hw') ((Fr.of_grown hg').mono fun k _ e => by simpa [One, eq_comm] using e)
/-- 'len(m)' -/
theorem MapS.len {w : World} {b n : Nat} {ks : List Tx} (h : MapS w b n ks) (ty : TypeId) : (Builtin.len_ #[69] ty #[.map (some b)]).run Try.prog w = .ok (.int .i64 (cntU ks)) w := by
  obtain ⟨D, h1, h2, h3⟩ := h
  rw [← h3]
  exact h1.len Try.underlying69 ty
end Go.Proofs.Ytoaeiokjaikalaa


namespace Go.Proofs.Ytoaeiokjaikalaa
set_option linter.unusedVariables false
set_option linter.unusedSimpArgs false
set_option maxRecDepth 100000
open Go.RowKit

theorem mayC_nullT (ty : Int) : mayC ty true ⟨true, 0, []⟩ = isTy ty := by rw [mayC_null]; simp [ceq]
theorem ktype_any (ty : Int) (w : World) : Calls Try.prog 49 #[.int .i64 ty] w fun e w' => e = .returned (.bool (isTy ty)) ∧ Fr Non w w' := by
  have M := fun W => may_any ty true ⟨true, 0, []⟩ W
  rw [mayC_nullT] at M
  unfold clV clC at M
  dsimp only at M
  go_enter Try.func49, Try.ntmps49
  go_wp2_with fail
  refine (M _).mono ?_
  rintro e w1 ⟨rfl, f1⟩
  go_wp2
  go_ret
  exact ⟨rfl, f1⟩

theorem maynot_any (c : Co) (w : World) (hc : c.name.length ≤ 1000000000) : Calls Try.prog 33 #[coV c] w fun e w' => e = .returned (.bool (badC c)) ∧ Fr Non w w' := by
  obtain ⟨n, ty, nl⟩ := c
  have M := fun W => sname_any n W hc
  have T := fun W => ktype_any ty W
  have b0 := co_new w ⟨n, ty, nl⟩
  have g0 : _ = _ := b0.cell 0
  simp at g0
  unfold badC coV coC
  dsimp only
  cases hn : nameB n
  · simp only [hn] at M
    replace M := Lib.hid M
    clear T
    go_enter Try.func33, Try.ntmps33
    go_wp2_with fail
    refine (M.out _).mono ?_
    rintro e w1 ⟨rfl, f1⟩
    go_wp2
    go_ret
    exact ⟨rfl, ((Fr.refl _ _).alloc _).trans f1⟩
  · simp only [hn] at M
    replace M := Lib.hid M
    replace T := Lib.hid T
    replace b0 : Hid (CoB _ _ _) := Lib.hid b0
    go_enter Try.func33, Try.ntmps33
    go_wp2_with fail
    refine (M.out _).mono ?_
    rintro e w1 ⟨rfl, f1⟩
    have g1 := (b0.out.fr f1 (fun e => e)).cell 1
    simp at g1
    go_wp2_with fail
    refine (T.out _).mono ?_
    rintro e w2 ⟨rfl, f2⟩
    go_wp2
    go_ret
    exact ⟨ret_boolE (by simp), (((Fr.refl _ _).alloc _).trans f1).trans f2⟩

theorem idx_any (v : Value) (l : List Co) (w : World) (hv : Ks w v l) (hl : l.length ≤ 1000000000) (hb : ∀ c ∈ l, c.name.length ≤ 1000000000) :
    Calls Try.prog 48 #[v, .func (.func 33) #[] #[]] w fun e w' => ∃ z : Int, e = .returned (.int .i64 z) ∧ decide (0 ≤ z) = l.any badC ∧ Fr Non w w' := by
  obtain ⟨A, c, rfl, hlc, hn, hcell⟩ := hv
  have HC := Lib.hid hcell
  have HN := Lib.hid hn
  have HB := Lib.hid hb
  clear hcell hn hb
  go_enter Try.func48, Try.ntmps48
  go_wp2
  go_loopw [8] (fun i wr => ∃ (k : Nat), k ≤ l.length ∧ i = .int .i64 k ∧ Hid ((l.take k).any badC = false) ∧ Fr Non w wr) (fun i _ => l.length - (intOf i).toNat)
  case atStart => exact ⟨0, Nat.zero_le _, rfl, Lib.hid rfl, Fr.refl _ _⟩
  case round =>
    obtain ⟨k, hk, rfl, hne, hfr⟩ := hrel
    by_cases hlt : k < l.length
    · cases A with
      | none => have := HN.out rfl; omega
      | some a =>
        obtain ⟨hc0, hc1, hc2⟩ := co_lit ((HC.out a rfl k hlt).non hfr)
        have HY := Lib.hid (fun h => any_more hlt hne.out h)
        have HX : Hid (badC l[k] = true → l.any badC = true) := Lib.hid (fun h => List.any_eq_true.2 ⟨_, List.getElem_mem hlt, h⟩)
        have M := fun W => maynot_any l[k] W (HB.out _ (List.getElem_mem hlt))
        clear hne
        generalize l[k] = x at *
        obtain ⟨xn, xt, xb⟩ := x
        unfold coV coC at M
        dsimp only at hc0 hc1 hc2 HY HX M
        have HF := Lib.hid hfr
        clear hfr
        cases hx : badC ⟨xn, xt, xb⟩
        · have HE := Lib.hid (HY.out hx)
          simp only [hx] at M
          replace M := Lib.hid M
          clear HX HY hx
          go_wp2_with fail
          refine (M.out _).mono ?_
          rintro e w2 ⟨rfl, f2⟩
          go_wp2
          go_roundw
          case rel => exact ⟨k + 1, by omega, by go_num, HE, HF.out.trans f2⟩
          case measure => simp [intOf]; omega
        · have HE := Lib.hid (HX.out hx)
          simp only [hx] at M
          replace M := Lib.hid M
          clear HX HY hx
          go_wp2_with fail
          refine (M.out _).mono ?_
          rintro e w2 ⟨rfl, f2⟩
          go_wp2
          go_ret
          exact ⟨_, rfl, by rw [HE.out]; exact decide_eq_true (by omega), HF.out.trans f2⟩
    · have HE : Hid (l.any badC = false) := Lib.hid (by have := hne.out; rwa [List.take_of_length_le (by omega)] at this)
      clear hne
      go_wp2
      go_ret
      exact ⟨_, rfl, by rw [HE.out]; rfl, hfr⟩
theorem contains_any (v : Value) (l : List Co) (w : World) (hv : Ks w v l) (hl : l.length ≤ 1000000000) (hb : ∀ c ∈ l, c.name.length ≤ 1000000000) :
    Calls Try.prog 32 #[v, .func (.func 33) #[] #[]] w fun e w' => e = .returned (.bool (l.any badC)) ∧ Fr Non w w' := by
  have h0 := Lib.hid (idx_any v l w hv hl hb)
  clear hv hb
  go_enter Try.func32, Try.ntmps32
  go_wp2_with fail
  refine h0.out.mono ?_
  rintro e w1 ⟨z, rfl, hz, f1⟩
  go_wp2
  go_ret
  exact ⟨rfl, f1⟩

/-- the names up to k, the last one first -/
def nmsR (l : List Co) (k : Nat) : List Tx := (namesC (l.take k)).reverse
theorem nmsR_more {l : List Co} {k : Nat} (h : k < l.length) : nmsR l (k + 1) = l[k].name :: nmsR l k := by
  unfold nmsR namesC
  rw [List.take_succ_eq_append_getElem h, List.map_append, List.reverse_append]; rfl
theorem nmsR_all {l : List Co} {k : Nat} (h : k = l.length) : decide ((cntU (nmsR l k) : Int) = l.length) = decide ((namesC l).Nodup) := by
  subst h
  unfold nmsR
  rw [List.take_length]
  have h1 := cntU_all (namesC l).reverse
  rw [List.length_reverse, (List.reverse_perm (namesC l)).nodup_iff] at h1
  have h2 : (namesC l).length = l.length := by unfold namesC; rw [List.length_map]
  rw [h2] at h1
  rw [decide_eq_decide, ← h1]
  omega

set_option maxHeartbeats 1000000 in
theorem unlike_any (v : Value) (l : List Co) (w : World) (hv : Ks w v l) (hl : l.length ≤ 1000000000) (hb : ∀ c ∈ l, c.name.length ≤ 1000000000) :
    Calls Try.prog 34 #[v] w fun e w' => e = .returned (.bool (decide ((namesC l).Nodup))) ∧ Fr Non w w' := by
  obtain ⟨A, c, rfl, hlc, hn, hcell⟩ := hv
  have HC := Lib.hid hcell
  have HN := Lib.hid hn
  have HB := Lib.hid hb
  clear hcell hn hb
  have hmm := @run_makeMap Try.prog
  go_enter Try.func34, Try.ntmps34
  go_wp2
  have hm0 := MapS.made w
  have hf0 : Fr Non w (w.alloc (.map #[] 0)) := (Fr.refl _ _).alloc _
  go_loopw [9] (fun i wr => ∃ (k : Nat), k ≤ l.length ∧ i = .int .i64 k ∧ MapS wr w.heap.size k (nmsR l k) ∧ Fr Non w wr) (fun i _ => l.length - (intOf i).toNat)
  case atStart => exact ⟨0, Nat.zero_le _, rfl, hm0, hf0⟩
  case round =>
    clear hm0 hf0
    obtain ⟨k, hk, rfl, hm, hfr⟩ := hrel
    by_cases hlt : k < l.length
    · cases A with
      | none => have := HN.out rfl; omega
      | some a =>
        obtain ⟨hc0, hc1, hc2⟩ := co_lit ((HC.out a rfl k hlt).non hfr)
        have HM := Lib.hid (nmsR_more hlt)
        have hxl := HB.out _ (List.getElem_mem hlt)
        generalize l[k] = x at *
        obtain ⟨xn, xt, xb⟩ := x
        dsimp only at hc0 hc1 hc2 HM hxl
        have f1 := (Fr.refl Non wr).alloc (.cells #[.string ⟨xn.toArray⟩, .int .i64 xt, .bool xb] 52)
        have hm1 := Lib.hid (hm.fr f1 (fun e => e))
        have HF := Lib.hid (hfr.trans f1)
        have g0 := (co_new wr ⟨xn, xt, xb⟩).cell 0
        simp at g0
        clear hm hfr f1
        go_wp2_with (at_mapUpdate; refine wpList_putS _ rfl _ _ _ rfl w.heap.size k (nmsR l k) rfl hm1.out (by omega) xn (k : Int) rfl rfl (by omega) (by omega) (by omega) ?_; intro w1 hm2 hf2)
        go_roundw
        case rel => exact ⟨k + 1, by omega, by go_num, by rw [HM.out]; exact hm2, HF.out.fresh hf2 (fun q hq => by have : q = w.heap.size := hq; omega)⟩
        case measure => simp [intOf]; omega
    · have HE := Lib.hid (nmsR_all (l := l) (k := k) (by omega))
      have hlen := fun ty => hm.len ty
      clear hm
      go_wp2
      go_ret
      exact ⟨ret_boolE HE.out, hfr⟩

set_option maxHeartbeats 1000000 in
theorem scheck_any (v : Value) (l : List Co) (w : World) (hv : Ks w v l) (hl : l.length ≤ 1000000000) (hb : ∀ c ∈ l, c.name.length ≤ 1000000000) :
    Calls Try.prog 13 #[v] w fun e w' => e = .returned (.int .i64 (chkC l)) ∧ Fr Non w w' := by
  obtain ⟨A, c, rfl⟩ := hv.shape
  have HV := Lib.hid hv
  have C1 := Lib.hid (contains_any _ l w hv hl hb)
  have U1 := fun W h => unlike_any (.slice A l.length c) l W h hl hb
  replace U1 := Lib.hid U1
  clear hv hb
  by_cases h0 : l.length = 0
  · have H := Lib.hid (chk_none h0)
    go_enter Try.func13, Try.ntmps13
    go_wp2
    go_ret
    exact ⟨ret_int H.out.symm, Fr.refl _ _⟩
  · have h0b : ((l.length : Int) == 0) = false := by rw [beq_eq_false_iff_ne]; omega
    have H0 := Lib.hid h0
    clear h0
    cases ha : l.any badC
    · have HA := Lib.hid ha
      rw [ha] at C1
      clear ha
      by_cases hd : (namesC l).Nodup
      · have HD := Lib.hid hd
        rw [decide_eq_true hd] at U1
        clear hd
        by_cases h6 : 6 < l.length
        · have H := Lib.hid (chk_many H0.out HA.out HD.out h6)
          go_enter Try.func13, Try.ntmps13
          go_wp2_with fail
          refine C1.out.mono ?_
          rintro e w1 ⟨rfl, f1⟩
          go_wp2_with fail
          refine (U1.out _ (HV.out.non f1)).mono ?_
          rintro e w2 ⟨rfl, f2⟩
          go_wp2
          go_ret
          exact ⟨ret_int H.out.symm, f1.trans f2⟩
        · have H := Lib.hid (chk_ok H0.out HA.out HD.out h6)
          go_enter Try.func13, Try.ntmps13
          go_wp2_with fail
          refine C1.out.mono ?_
          rintro e w1 ⟨rfl, f1⟩
          go_wp2_with fail
          refine (U1.out _ (HV.out.non f1)).mono ?_
          rintro e w2 ⟨rfl, f2⟩
          go_wp2
          go_ret
          exact ⟨ret_int H.out.symm, f1.trans f2⟩
      · have H := Lib.hid (chk_dup hd)
        rw [decide_eq_false hd] at U1
        clear hd
        go_enter Try.func13, Try.ntmps13
        go_wp2_with fail
        refine C1.out.mono ?_
        rintro e w1 ⟨rfl, f1⟩
        go_wp2_with fail
        refine (U1.out _ (HV.out.non f1)).mono ?_
        rintro e w2 ⟨rfl, f2⟩
        go_wp2
        go_ret
        exact ⟨ret_int H.out.symm, f1.trans f2⟩
    · have H := Lib.hid (chk_any ha)
      rw [ha] at C1
      clear ha
      go_enter Try.func13, Try.ntmps13
      go_wp2_with fail
      refine C1.out.mono ?_
      rintro e w1 ⟨rfl, f1⟩
      go_wp2
      go_ret
      exact ⟨ret_int H.out.symm, f1⟩
end Go.Proofs.Ytoaeiokjaikalaa


namespace Go.Proofs.Ytoaeiokjaikalaa
set_option linter.unusedVariables false
set_option linter.unusedSimpArgs false
set_option maxRecDepth 100000
open Go.RowKit

theorem badC_no {n : Tx} {ty : Int} {nl : Bool} (h : nameB n = true) (h1 : ¬ ty < 1) (h2 : ¬ 3 < ty) : badC ⟨n, ty, nl⟩ = false := by
  unfold badC; dsimp only; rw [h]
  have : isTy ty = true := by simp [isTy]; omega
  rw [this]; rfl
theorem badC_name {n : Tx} {ty : Int} {nl : Bool} (h : nameB n = false) : badC ⟨n, ty, nl⟩ = true := by
  unfold badC; dsimp only; rw [h]; rfl
theorem badC_ty {n : Tx} {ty : Int} {nl : Bool} (h : ty < 1 ∨ 3 < ty) : badC ⟨n, ty, nl⟩ = true := by
  unfold badC; dsimp only
  have : isTy ty = false := by simp [isTy]; omega
  rw [this]; simp

set_option maxHeartbeats 2000000 in
theorem rcheck_any (v : Value) (l : List Co) (w : World) (hv : Ks w v l) (hl : l.length ≤ 1000000000) (hb : ∀ c ∈ l, c.name.length ≤ 1000000000) :
    Calls Try.prog 14 #[v] w fun e w' => e = .returned (.int .i64 (chkC l)) ∧ Fr Non w w' := by
  obtain ⟨A, c, rfl, hlc, hn, hcell⟩ := hv
  have HC := Lib.hid hcell
  have HN := Lib.hid hn
  have HB := Lib.hid hb
  clear hcell hn hb
  go_enter Try.func14, Try.ntmps14
  go_wp2
  go_loopw [3] (fun i wr => ∃ (k : Nat), k ≤ l.length ∧ i = .int .i64 k ∧ Hid ((l.take k).any badC = false) ∧ Hid ((namesC (l.take k)).Nodup) ∧ Fr Non w wr) (fun i _ => l.length - (intOf i).toNat)
  case atStart => exact ⟨0, Nat.zero_le _, rfl, Lib.hid rfl, Lib.hid (by simp [namesC]), Fr.refl _ _⟩
  case round =>
    obtain ⟨k, hk, rfl, hany, hnd, hfr⟩ := hrel
    by_cases hlt : k < l.length
    · cases A with
      | none => have := HN.out rfl; omega
      | some a =>
        have HF := Lib.hid hfr
        obtain ⟨hc0, hc1, hc2⟩ := co_lit ((HC.out a rfl k hlt).non hfr)
        have HX : Hid (badC l[k] = true → chkC l = 1) := Lib.hid (fun h => chk_bad hlt h)
        have HY : Hid (badC l[k] = false → (l.take (k + 1)).any badC = false) := Lib.hid (fun h => any_more hlt hany.out h)
        have HD : Hid (∀ j (hj : j < l.length), j < k → l[j].name = l[k].name → chkC l = 1) := Lib.hid (fun j hj hjk h => chk_dup (nodup_not hlt hjk h))
        have HU : Hid ((∀ j (hj : j < l.length), j < k → l[j].name ≠ l[k].name) → (namesC (l.take (k + 1))).Nodup) := Lib.hid (fun h => nodup_more hlt hnd.out h)
        have M := fun W => rname_any l[k].name W (HB.out _ (List.getElem_mem hlt))
        have HK := Lib.hid (HC.out a rfl k hlt)
        clear hany hnd hfr
        generalize l[k] = x at *
        obtain ⟨xn, xt, xb⟩ := x
        dsimp only at hc0 hc1 hc2 HX HY HD HU M
        cases hm : nameB xn
        · have HE := Lib.hid (HX.out (badC_name hm))
          simp only [hm] at M
          replace M := Lib.hid M
          clear HX HY HD HU hm
          go_wp2_with fail
          refine (M.out _).mono ?_
          rintro e w1 ⟨rfl, f1⟩
          go_wp2
          go_ret
          exact ⟨ret_int HE.out.symm, HF.out.trans f1⟩
        · have HM := Lib.hid hm
          simp only [hm] at M
          replace M := Lib.hid M
          clear hm
          go_wp2_with fail
          refine (M.out _).mono ?_
          rintro e w1 ⟨rfl, f1⟩
          have hF1 := HF.out.trans f1
          clear hc0 hc1 hc2
          obtain ⟨hc0, hc1, hc2⟩ := co_lit (HK.out.non hF1)
          dsimp only at hc0 hc1 hc2
          replace hF1 := Lib.hid hF1
          clear HF f1 M
          by_cases t1 : xt < 1
          · have HE := Lib.hid (HX.out (badC_ty (.inl t1)))
            clear HX HY HD HU
            go_wp2
            go_ret
            exact ⟨ret_int HE.out.symm, hF1.out⟩
          · by_cases t3 : 3 < xt
            · have HE := Lib.hid (HX.out (badC_ty (.inr t3)))
              clear HX HY HD HU
              go_wp2
              go_ret
              exact ⟨ret_int HE.out.symm, hF1.out⟩
            · have HE := Lib.hid (HY.out (badC_no HM.out t1 t3))
              clear HX HY
              go_wp2
              go_loopw [4] (fun i wx => ∃ q : Nat, q ≤ k ∧ i = .int .i64 q ∧ Hid (∀ j (hj : j < l.length), j < q → l[j].name ≠ xn) ∧ ∃ n, wx = w1.drewN n) (fun i _ => k - (intOf i).toNat)
              case atStart => exact ⟨0, Nat.zero_le _, rfl, Lib.hid (fun _ _ h => by omega), 0, rfl⟩
              case round =>
                obtain ⟨q, hq, rfl, hne, n, rfl⟩ := hrel
                by_cases hqk : q < k
                · have hql : q < l.length := by omega
                  have HZ : Hid (l[q].name = xn → chkC l = 1) := Lib.hid (HD.out q hql hqk)
                  have HW := Lib.hid (fun h => ne_more hql hne.out h)
                  obtain ⟨y0, y1, y2⟩ := co_lit ((HC.out a rfl q hql).non hF1.out)
                  clear hne
                  generalize l[q] = y at *
                  obtain ⟨yn, yt, yb⟩ := y
                  dsimp only at y0 y1 y2 HZ HW
                  by_cases he : yn = xn
                  · have H := Lib.hid (HZ.out he)
                    have hbe : (yn == xn) = true := by rw [beq_iff_eq]; exact he
                    clear HZ HW he
                    go_wp2
                    go_quiet (fail)
                    go_wp2
                    go_ret
                    exact ⟨ret_int H.out.symm, (hF1.out.drewN n).drewN _⟩
                  · have H := Lib.hid (HW.out he)
                    have hbe : (yn == xn) = false := by rw [beq_eq_false_iff_ne]; exact he
                    clear HZ HW he
                    go_wp2
                    go_quiet (fail)
                    go_wp2
                    go_roundw
                    case rel => exact ⟨q + 1, by omega, by go_num, H, _, rfl⟩
                    case measure => simp [intOf]; omega
                · have H := Lib.hid (HU.out (fun j hj hjk => hne.out j hj (by omega)))
                  clear HU HD hne
                  go_wp2
                  go_roundw
                  case rel => exact ⟨k + 1, by omega, by go_num, HE, H, hF1.out.drewN n⟩
                  case measure => simp [intOf]; omega
    · have HA : Hid (l.any badC = false) := Lib.hid (by have := hany.out; rwa [List.take_of_length_le (by omega)] at this)
      have HD : Hid ((namesC l).Nodup) := Lib.hid (by have := hnd.out; rwa [List.take_of_length_le (by omega)] at this)
      clear hany hnd
      by_cases h0 : l.length = 0
      · have H := Lib.hid (chk_none h0)
        go_wp2
        go_ret
        exact ⟨ret_int H.out.symm, hfr⟩
      · have h0b : ((l.length : Int) == 0) = false := by rw [beq_eq_false_iff_ne]; omega
        have H0 := Lib.hid h0
        clear h0
        by_cases h6 : 6 < l.length
        · have H := Lib.hid (chk_many H0.out HA.out HD.out h6)
          go_wp2
          go_ret
          exact ⟨ret_int H.out.symm, hfr⟩
        · have H := Lib.hid (chk_ok H0.out HA.out HD.out h6)
          go_wp2
          go_ret
          exact ⟨ret_int H.out.symm, hfr⟩

theorem knum_any (z : Int) (w : World) : Calls Try.prog 12 #[.int .i64 z] w fun e w' => e = .returned (.int .i64 z) ∧ w = w' := by
  go_enter Try.func12, Try.ntmps12
  go_wp2
  go_ret
  exact ⟨rfl, rfl⟩

set_option maxHeartbeats 1000000 in
theorem ksmall_any (v : Value) (l : List Co) (w : World) (hv : Ks w v l) :
    Calls Try.prog 6 #[v] w fun e w' => ∃ b, e = .returned (.bool b) ∧ (b = true → l.length ≤ 20 ∧ ∀ c ∈ l, c.name.length ≤ 100) ∧ Fr Non w w' := by
  obtain ⟨A, c, rfl, hlc, hn, hcell⟩ := hv
  have HC := Lib.hid hcell
  have HN := Lib.hid hn
  clear hcell hn
  go_enter Try.func6, Try.ntmps6
  go_wp2
  go_loopw [3] (fun i wr => ∃ (k : Nat), k ≤ l.length ∧ k ≤ 30 ∧ i = .int .i64 k ∧ Hid (∀ j (h : j < l.length), j < k → l[j].name.length ≤ 100) ∧ Fr Non w wr) (fun i _ => 30 - (intOf i).toNat)
  case atStart => exact ⟨0, Nat.zero_le _, Nat.zero_le _, rfl, Lib.hid (fun _ _ h => by omega), Fr.refl _ _⟩
  case round =>
    obtain ⟨k, hk, hk2, rfl, HS, hfr⟩ := hrel
    by_cases hlt : k < l.length
    · by_cases h30 : k < 30
      · cases A with
        | none => have := HN.out rfl; omega
        | some a =>
          obtain ⟨hc0, hc1, hc2⟩ := co_lit ((HC.out a rfl k hlt).non hfr)
          have HY : Hid (l[k].name.length ≤ 100 → ∀ j (h : j < l.length), j < k + 1 → l[j].name.length ≤ 100) := Lib.hid (fun h j hj hjk => by
            by_cases e : j = k
            · subst e; exact h
            · exact HS.out j hj (by omega))
          clear HS
          generalize l[k] = x at *
          obtain ⟨xn, xi, xt⟩ := x
          dsimp only at hc0 hc1 hc2 HY
          have hs := slenN xn
          by_cases hx : 100 < xn.length
          · go_wp2
            go_ret
            exact ⟨false, rfl, (fun h => by cases h), hfr⟩
          · have H := Lib.hid (HY.out (by omega))
            clear HY
            go_wp2
            go_roundw
            case rel => exact ⟨k + 1, by omega, by omega, by go_num, H, hfr⟩
            case measure => simp [intOf]; omega
      · go_wp2
        go_ret
        exact ⟨_, rfl, (fun h => by have := of_decide_eq_true h; omega), hfr⟩
    · have H : Hid (∀ c ∈ l, c.name.length ≤ 100) := Lib.hid (fun c hc => by
        obtain ⟨j, hj, rfl⟩ := List.mem_iff_getElem.1 hc
        exact HS.out j hj (by omega))
      clear HS
      go_wp2
      go_ret
      exact ⟨_, rfl, (fun h => ⟨by have := of_decide_eq_true h; omega, H.out⟩), hfr⟩

theorem nameB_a_1 : nameB [97, 95, 49] = true := by decide +kernel
theorem nameB_1a : nameB [49, 97] = false := by decide +kernel
theorem nameB_and : nameB [97, 110, 100] = false := by decide +kernel
theorem nameB_A : nameB [65] = false := by decide +kernel
theorem chkC_a : chkC [⟨[97], 1, false⟩] = 0 := by decide +kernel

set_option maxHeartbeats 1000000 in
theorem klive_any (w : World) : Calls Try.prog 7 #[] w fun e w' => e = .returned (.bool true) ∧ Fr Non w w' := by
  have N1 := fun W => sname_any [97, 95, 49] W (by decide)
  have N2 := fun W => sname_any [49, 97] W (by decide)
  have N3 := fun W => sname_any [97, 110, 100] W (by decide)
  have N4 := fun W => sname_any [65] W (by decide)
  rw [nameB_a_1] at N1
  rw [nameB_1a] at N2
  rw [nameB_and] at N3
  rw [nameB_A] at N4
  have C1 := fun W => scheck_any (.slice (some ⟨W.heap.size, 0, none⟩) 1 1) [⟨[97], 1, false⟩] _ ((no_lit (E := 52) fd_co W 0 _ [⟨[97], 1, false⟩] #[.string ⟨#[97]⟩, .int .i64 1, .bool false] rfl rfl (Nat.zero_le _) (by decide)).ns fd_co) (by decide) (by simp)
  rw [chkC_a] at C1
  replace N1 := Lib.hid N1
  replace N2 := Lib.hid N2
  replace N3 := Lib.hid N3
  replace N4 := Lib.hid N4
  replace C1 := Lib.hid C1
  go_enter Try.func7, Try.ntmps7
  go_wp2_with fail
  refine (N1.out _).mono ?_
  rintro e w1 ⟨rfl, f1⟩
  go_wp2_with fail
  refine (N2.out _).mono ?_
  rintro e w2 ⟨rfl, f2⟩
  go_wp2_with fail
  refine (N3.out _).mono ?_
  rintro e w3 ⟨rfl, f3⟩
  go_wp2_with fail
  refine (N4.out _).mono ?_
  rintro e w4 ⟨rfl, f4⟩
  go_wp2_with fail
  refine (C1.out _).mono ?_
  rintro e w5 ⟨rfl, f5⟩
  go_wp2_with fail
  refine (knum_any 0 _).mono ?_
  rintro e w6 ⟨rfl, rfl⟩
  go_wp2
  go_ret
  exact ⟨rfl, ((((f1.trans f2).trans f3).trans f4).alloc _).trans f5⟩
end Go.Proofs.Ytoaeiokjaikalaa


namespace Go.Proofs.Ytoaeiokjaikalaa
set_option linter.unusedVariables false
set_option linter.unusedSimpArgs false
set_option maxRecDepth 100000
open Go.RowKit

/-- what Find tells -/
def findV : Option Nat → Value
  | some k => .tuple #[.int .i64 k, .bool true]
  | none => .tuple #[.int .i64 0, .bool false]
def findI : Option Nat → Int
  | some k => k
  | none => -1
set_option maxHeartbeats 1000000 in
theorem sfind_any (v : Value) (l : List Co) (n : Tx) (w : World) (hv : Ks w v l) (hl : l.length ≤ 1000000000) :
    Calls Try.prog 8 #[v, .string ⟨n.toArray⟩] w fun e w' => e = .returned (findV (findC l n)) ∧ Fr Non w w' := by
  obtain ⟨A, c, rfl, hlc, hn, hcell⟩ := hv
  have HC := Lib.hid hcell
  have HN := Lib.hid hn
  clear hcell hn
  go_enter Try.func8, Try.ntmps8
  go_wp2
  go_loopw [10] (fun i wr => ∃ (k : Nat), k ≤ l.length ∧ i = .int .i64 k ∧ Hid (∀ j (hj : j < l.length), j < k → l[j].name ≠ n) ∧ Fr Non w wr) (fun i _ => l.length - (intOf i).toNat)
  case atStart => exact ⟨0, Nat.zero_le _, rfl, Lib.hid (fun _ _ h => by omega), Fr.refl _ _⟩
  case round =>
    obtain ⟨k, hk, rfl, hne, hfr⟩ := hrel
    by_cases hlt : k < l.length
    · cases A with
      | none => have := HN.out rfl; omega
      | some a =>
        obtain ⟨hc0, hc1, hc2⟩ := co_lit ((HC.out a rfl k hlt).non hfr)
        have HY := Lib.hid (fun h => find_at hlt h hne.out)
        have HX := Lib.hid (fun h => ne_more hlt hne.out h)
        clear hne
        generalize l[k] = x at *
        obtain ⟨xn, xt, xb⟩ := x
        dsimp only at hc0 hc1 hc2 HY HX
        have hfr2 := Lib.hid (hfr.alloc (.cells #[.string ⟨xn.toArray⟩, .int .i64 xt, .bool xb] 52))
        have g0 := (co_new wr ⟨xn, xt, xb⟩).cell 0
        simp at g0
        by_cases he : xn = n
        · have hb : (xn == n) = true := by rw [beq_iff_eq]; exact he
          have HE := Lib.hid (HY.out he)
          clear HY HX he hfr
          go_wp2
          go_ret2
          refine ⟨?_, hfr2.out⟩
          rw [HE.out]; rfl
        · have hb : (xn == n) = false := by rw [beq_eq_false_iff_ne]; exact he
          have HE := Lib.hid (HX.out he)
          clear HY HX he hfr
          go_wp2
          go_roundw
          case rel => exact ⟨k + 1, by omega, by go_num, HE, hfr2.out⟩
          case measure => simp [intOf]; omega
    · have HE := Lib.hid (find_no (l := l) (n := n) (fun j hj => hne.out j hj (by omega)))
      clear hne
      go_wp2
      go_ret2
      refine ⟨?_, hfr⟩
      rw [HE.out]; rfl

set_option maxHeartbeats 1000000 in
theorem rfind_any (v : Value) (l : List Co) (n : Tx) (w : World) (hv : Ks w v l) (hl : l.length ≤ 1000000000) :
    Calls Try.prog 9 #[v, .string ⟨n.toArray⟩] w fun e w' => e = .returned (.int .i64 (findI (findC l n))) ∧ Fr Non w w' := by
  obtain ⟨A, c, rfl, hlc, hn, hcell⟩ := hv
  have HC := Lib.hid hcell
  have HN := Lib.hid hn
  clear hcell hn
  go_enter Try.func9, Try.ntmps9
  go_wp2
  go_loop [5] (fun i => ∃ (k : Nat), k ≤ l.length ∧ i = .int .i64 k ∧ Hid (∀ j (hj : j < l.length), j < k → l[j].name ≠ n)) (fun i => l.length - (intOf i).toNat)
  case atStart => exact ⟨0, Nat.zero_le _, rfl, Lib.hid (fun _ _ h => by omega)⟩
  case round =>
    obtain ⟨k, hk, rfl, hne⟩ := hrel
    by_cases hlt : k < l.length
    · cases A with
      | none => have := HN.out rfl; omega
      | some a =>
        obtain ⟨hc0, hc1, hc2⟩ := co_lit (HC.out a rfl k hlt)
        have HY := Lib.hid (fun h => find_at hlt h hne.out)
        have HX := Lib.hid (fun h => ne_more hlt hne.out h)
        clear hne
        generalize l[k] = x at *
        obtain ⟨xn, xt, xb⟩ := x
        dsimp only at hc0 hc1 hc2 HY HX
        by_cases he : xn = n
        · have hb : (xn == n) = true := by rw [beq_iff_eq]; exact he
          have HE := Lib.hid (HY.out he)
          clear HY HX he
          go_wp2
          go_ret
          refine ⟨?_, Fr.refl _ _⟩
          rw [HE.out]; rfl
        · have hb : (xn == n) = false := by rw [beq_eq_false_iff_ne]; exact he
          have HE := Lib.hid (HX.out he)
          clear HY HX he
          go_wp2
          go_roundw
          case rel => exact ⟨k + 1, by omega, by go_num, HE⟩
          case measure => simp [intOf]; omega
    · have HE := Lib.hid (find_no (l := l) (n := n) (fun j hj => hne.out j hj (by omega)))
      clear hne
      go_wp2
      go_ret
      refine ⟨?_, Fr.refl _ _⟩
      rw [HE.out]; rfl

end Go.Proofs.Ytoaeiokjaikalaa


namespace Go.Proofs.Ytoaeiokjaikalaa
set_option linter.unusedVariables false
set_option linter.unusedSimpArgs false
set_option maxRecDepth 100000
open Go.RowKit

/-- a cell's three values, and those of many -/
def clL (c : Cl) : List Value := [.bool c.null, .int .i64 c.num, .string ⟨c.txt.toArray⟩]
def clsL (l : List Cl) : List Value := l.flatMap clL
theorem clsL_cons (c : Cl) (l : List Cl) : clsL (c :: l) = clL c ++ clsL l := by simp [clsL]
theorem clsL_at (l : List Cl) (j : Nat) (i : Nat) (hj : j < l.length) (hi : i < 3) : (clsL l)[j * 3 + i]? = (clL l[j])[i]? := by
  induction l generalizing j with
  | nil => cases hj
  | cons c l ih =>
    rw [clsL_cons]
    cases j with
    | zero => rw [List.getElem?_append_left (by simp [clL]; omega)]; simp
    | succ j =>
      rw [List.getElem?_append_right (by simp [clL]; omega)]
      rw [show (j + 1) * 3 + i - (clL c).length = j * 3 + i by simp [clL]; omega]
      exact ih j (by simpa using hj)
/-- three cells, one behind the other, that hold c -/
structure At3 (w : World) (a : Addr) (c : Cl) : Prop where
  c0 : w.cell? a = some (.bool c.null)
  c1 : w.cell? (a.add 1) = some (.int .i64 c.num)
  c2 : w.cell? (a.add 2) = some (.string ⟨c.txt.toArray⟩)

/-- the slice v reads as the cells l -/
def Cs (w : World) (v : Value) (l : List Cl) : Prop :=
  ∃ A c, v = .slice A l.length c ∧ l.length ≤ c ∧ (A = none → c = 0) ∧ ∀ a, A = some a → ∀ j (h : j < l.length), At3 w (a.add (j * 3)) l[j]
/-- a row of the call's own, from block B on -/
def Oc (w : World) (B : Nat) (v : Value) (l : List Cl) : Prop := w.ownsRow B 27 3 v l.length (clsL l)

theorem At3.keep {w w' : World} {a : Addr} {c : Cl} (h : At3 w a c) (hk : w'.heap[a.block]? = w.heap[a.block]?) : At3 w' a c := by
  obtain ⟨h0, h1, h2⟩ := h
  exact ⟨by rw [← h0]; exact World.cell?_of_block hk, by rw [← h1]; exact World.cell?_of_block (by rw [add_block]; exact hk), by rw [← h2]; exact World.cell?_of_block (by rw [add_block]; exact hk)⟩

theorem Cs.nil_ (w : World) : Cs w (.slice none 0 0) [] := ⟨none, 0, rfl, Nat.le_refl _, fun _ => rfl, fun _ h => by cases h⟩
theorem Cs.keep {w w' : World} {v : Value} {l : List Cl} (h : Cs w v l) (hk : ∀ k, v.ownBlock = some k → k < w.heap.size → w'.heap[k]? = w.heap[k]?) : Cs w' v l := by
  obtain ⟨A, c, rfl, h1, h2, h3⟩ := h
  refine ⟨A, c, rfl, h1, h2, fun a ha j hj => ?_⟩
  have := h3 a ha j hj
  subst ha
  have hb := World.block_lt_of_cell? w _ this.c0
  refine this.keep ?_
  rw [add_block] at hb ⊢
  exact hk _ rfl hb
theorem Cs.fr {S : Nat → Prop} {w w' : World} {v : Value} {l : List Cl} (h : Cs w v l) (hf : Fr S w w') (hn : ∀ k, v.ownBlock = some k → ¬ S k) : Cs w' v l :=
  h.keep fun k hk hlt => hf.block k hlt (hn k hk)
theorem Cs.non {w w' : World} {v : Value} {l : List Cl} (h : Cs w v l) (hf : Fr Non w w') : Cs w' v l := h.fr hf fun _ _ e => e
theorem Cs.drew {w : World} {v : Value} {l : List Cl} (h : Cs w v l) : Cs w.drew v l := h.keep fun _ _ _ => rfl
theorem Cs.shape {w : World} {v : Value} {l : List Cl} (h : Cs w v l) : ∃ A c, v = .slice A l.length c := by
  obtain ⟨A, c, rfl, _⟩ := h; exact ⟨A, c, rfl⟩
theorem Fr.at3 {w w' : World} {a : Addr} {c : Cl} (hf : Fr Non w w') (h : At3 w a c) : At3 w' a c :=
  h.keep (hf.block _ (World.block_lt_of_cell? w _ h.c0) (fun e => e))
/-- as a walk spells them -/
theorem At3.lit {w : World} {a : Addr} {c : Cl} (h : At3 w a c) : w.cell? a = some (.bool c.null) ∧ w.cell? { block := a.block, off := a.off + 1 } = some (.int .i64 c.num) ∧ w.cell? { block := a.block, off := a.off + 2 } = some (.string ⟨c.txt.toArray⟩) := ⟨h.c0, h.c1, h.c2⟩
theorem Oc.lt {w : World} {B : Nat} {v : Value} {l : List Cl} (h : Oc w B v l) : ∀ k, v.ownBlock = some k → B ≤ k ∧ k < w.heap.size := World.ownsRow.lt h
theorem Oc.cs {w : World} {B : Nat} {v : Value} {l : List Cl} (h : Oc w B v l) : Cs w v l := by
  rcases h.2 with ⟨rfl, h0⟩ | ⟨g, cap, cur, rfl, _, _, hle, _, _, _⟩
  · have hl : l = [] := List.eq_nil_of_length_eq_zero h0
    subst hl; exact Cs.nil_ w
  · refine ⟨_, cap, rfl, hle, (fun h => by cases h), fun a ha j hj => ?_⟩
    cases ha
    have H := fun i hi => World.ownsRow.cells h (g := g) rfl (j * 3 + i) _ ((clsL_at l j i hj hi).trans (List.getElem?_eq_getElem (by simp [clL]; omega)))
    refine ⟨?_, ?_, ?_⟩
    · have := H 0 (by omega); simpa [clL] using this
    · rw [add_add]; have := H 1 (by omega); simpa [clL] using this
    · rw [add_add]; have := H 2 (by omega); simpa [clL] using this
theorem Oc.shape {w : World} {B : Nat} {v : Value} {l : List Cl} (h : Oc w B v l) : ∃ A c, v = .slice A l.length c := h.cs.shape
theorem Oc.keep {w w' : World} {B : Nat} {v : Value} {l : List Cl} (h : Oc w B v l) (hk : ∀ k, v.ownBlock = some k → w'.heap[k]? = w.heap[k]?) : Oc w' B v l := by
  refine ⟨h.1, ?_⟩
  rcases h.2 with h2 | ⟨g, cap, cur, hv, hb, hg, r⟩
  · exact .inl h2
  · exact .inr ⟨g, cap, cur, hv, hb, by rw [hk g (by rw [hv]; rfl)]; exact hg, r⟩
theorem Oc.fr {S : Nat → Prop} {w w' : World} {B : Nat} {v : Value} {l : List Cl} (h : Oc w B v l) (hf : Fr S w w') (hn : ∀ k, v.ownBlock = some k → ¬ S k) : Oc w' B v l :=
  h.keep fun k hk => hf.block k (h.lt k hk).2 (hn k hk)
theorem Oc.non {w w' : World} {B : Nat} {v : Value} {l : List Cl} (h : Oc w B v l) (hf : Fr Non w w') : Oc w' B v l := h.fr hf fun _ _ e => e
theorem Oc.alloc {w : World} {B : Nat} {v : Value} {l : List Cl} (h : Oc w B v l) (o : Obj) : Oc (w.alloc o) B v l := h.non ((Fr.refl _ _).alloc o)
theorem Oc.drew {w : World} {B : Nat} {v : Value} {l : List Cl} (h : Oc w B v l) : Oc w.drew B v l := h
theorem Oc.mono {w : World} {B B' : Nat} {v : Value} {l : List Cl} (h : Oc w B v l) (hB : B' ≤ B) : Oc w B' v l := by
  refine ⟨h.1, ?_⟩
  rcases h.2 with h2 | ⟨g, cap, cur, hv, hb, r⟩
  · exact .inl h2
  · exact .inr ⟨g, cap, cur, hv, by omega, r⟩
theorem Oc.kind {w : World} {B : Nat} {v : Value} {l : List Cl} (h : Oc w B v l) : ∀ k, v.ownBlock = some k → ∃ cur, w.heap[k]? = some (.cells cur 27 (0, 0)) := by
  intro k hk
  rcases h.2 with ⟨rfl, _⟩ | ⟨g, cap, cur, rfl, _, hg, _⟩
  · cases hk
  · obtain rfl : g = k := by simpa [Value.ownBlock] using hk
    exact ⟨cur, hg⟩
theorem Oc.row {w : World} {B : Nat} {v : Value} {l : List Cl} (h : Oc w B v l) (hn : 0 < l.length) : ∃ g cap, v = .slice (some ⟨g, 0, none⟩) l.length cap ∧ B ≤ g ∧ g < w.heap.size ∧ l.length ≤ cap ∧ cap ≤ maxLen := by
  rcases h.2 with ⟨rfl, h0⟩ | ⟨g, cap, cur, rfl, hb, hg, hle, hm, _⟩
  · omega
  · exact ⟨g, cap, rfl, hb, (Array.getElem?_eq_some_iff.1 hg).1, hle, hm⟩
theorem Oc.frozen {w : World} {B g n cap : Nat} {l : List Cl} (h : Oc w B (.slice (some ⟨g, 0, none⟩) n cap) l) (hn : n = l.length) (j : Nat) : w.frozen? ⟨g, j, none⟩ = false := by
  subst hn; exact World.ownsRow.frozenAt h j
/-! ### Steps -/
end Go.Proofs.Ytoaeiokjaikalaa
