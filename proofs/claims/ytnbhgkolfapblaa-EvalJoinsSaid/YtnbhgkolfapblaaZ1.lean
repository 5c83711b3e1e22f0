/-
  Joined: Words of our own on memory, for all texts of this seat: what changed between two worlds (Fr), a known block (Blk), bytes that a slice reads as (Bs), bytes in a row of the call's own (Own), and the steps append and convert over them. · Slices of slices of bytes that the call owns (Owns), and the steps that append one slice, or one value of one cell, to a row of the call's own. · Slices of one-celled elements of any type: what one reads as (Vs), a row of the call's own (Ow), and the steps over them: append of one, append of many, make, copy, cuts. · The frame of a law's proof, for any parameters: where the call returned true and turned nothing that was there, the row's words hold. · Arguments opened: a slice of one-celled elements of any type; of truths; of whole numbers. · Slices of structs of k one-celled fields, of any type: what one reads as (Ns), a row of the call's own (No), and the steps over them: made, stored into, append of one, append of many, opened. · Texts as plain lists of bytes: Go's '<' on them, and an order in three ways. Nothing of the program. · Layer 12: a column as a value; slices of columns; two compared. · Names: which texts may be one; nothing of the program. · Layer 1 as plain functions on lists of bytes: what a number's bytes are (the library's 'uvarint'), which number bytes begin with (rd), and that each is the other's back. Nothing of the program. · Layer 1, what is written, texts: contracts of join and Text, the program's own and the document's. · Layer 1, what is read: contracts of Source's methods. · Layer 9: a cell as a value; which cells there may be, both programs'. · Layer 1, what is read: contracts of the document's own source, S. · Columns: which there may be, where one is, which rows; their bytes, and what is read of bytes; nothing of the program. · Numbers in digits: what digits are of, read again; the texts that are some number's. And a text with each quote twice, or each two quotes once, by the library's replacing. Nothing of the program. · The runes of a text, as a range over it tells them: of lists of bytes; where texts are put together with a letter below 128 between; the bytes of runes, and that they are read again. · Predicates: trees; which there may be, by one count and by another; which fit columns; their columns, their texts. Nothing of the program. · Layer 15, mathematics: which runes a pattern's runes match (mtG); of patterns put together; the way by beginnings; the way by the last % (a state's relation, step by step). · Predicates and queries that are not too great to be asked whether they may be. Nothing of the program. · Layer 9: the order of cells, both programs'. · Layer 9: cells become any and come back. · Predicates asked of rows: which truth. Nothing of the program but what a cell's value is. · Layer 15: words on runes and on a text's iterator; the walks of glob.small, glob.Fold, firkinref15.Fold. · Layer 15: the walks of firkinref15.Fold, glob.empty, glob.matches, glob.Match.
-/
import Derived.Lib.Zigzag
import Derived.Laws.Rows
import Derived.Laws.ResultCell
import Derived.BigRegion
import Derived.Test.YtnbhgkolfapblaaProg
import Derived.WalkKit
import Derived.WalkSpells
import Derived.Deep.AppendSrc
import Derived.Maps.AppendAt
import Derived.Lib.Hide
import Derived.Deep.Draws
import Derived.Lib.AppendStr
import Derived.Laws.CopyOwn
import Derived.Laws.OwnMore
import Derived.Test.YtnbhgkolfapblaaRows
import Derived.ProofKit
import Derived.OpenShut
import Derived.ShutString
import Derived.ChangeOld
import Derived.Below
import Derived.Deep.Slices
import Derived.BigFrame
import Derived.Laws.StructEq
import Derived.Lib.Varint
import Derived.Lib.ItoaLen
import Derived.Lib.ItoaMem
import Derived.Lib.ParseIntBCases
import Derived.Lib.ParseIntBTie
import Derived.Lib.Replace
import Derived.Lib.CountLaws
import Derived.Lib.DecodeN
import Derived.Laws.RangeAny
import Derived.Laws.Cover4
import Derived.Lib.Join
import Derived.Laws.Cover1
import Derived.Lib.OthersKept
import Derived.BigQuiet

namespace Go.Proofs.Ytnbhgkolfapblaa
set_option linter.unusedVariables false
set_option linter.unusedSimpArgs false
set_option maxRecDepth 100000
open Go.RowKit

/-! ### What changed: of the blocks that were there, at most those of S -/
structure Fr (S : Nat → Prop) (w w' : World) : Prop where
  os : w'.os = w.os
  tape : w'.tape = w.tape
  output : w'.output = w.output
  size : w.heap.size ≤ w'.heap.size
  block : ∀ k, k < w.heap.size → ¬ S k → w'.heap[k]? = w.heap[k]?

/-- nothing -/
def Non : Nat → Prop := fun _ => False
/-- one block -/
def One (g : Nat) : Nat → Prop := fun k => k = g

theorem Fr.refl (S : Nat → Prop) (w : World) : Fr S w w := ⟨rfl, rfl, rfl, Nat.le_refl _, fun _ _ _ => rfl⟩
theorem Fr.join {S S' : Nat → Prop} {w w1 w2 : World} (h : Fr S w w1) (h' : Fr S' w1 w2) (hs : ∀ k, k < w.heap.size → S' k → S k) : Fr S w w2 :=
  ⟨h'.os.trans h.os, h'.tape.trans h.tape, h'.output.trans h.output, Nat.le_trans h.size h'.size,
    fun k hk hn => (h'.block k (Nat.lt_of_lt_of_le hk h.size) (fun e => hn (hs k hk e))).trans (h.block k hk hn)⟩
theorem Fr.trans {S : Nat → Prop} {w w1 w2 : World} (h : Fr S w w1) (h' : Fr S w1 w2) : Fr S w w2 := h.join h' fun _ _ e => e
theorem Fr.then {S : Nat → Prop} {w w1 w2 : World} (h : Fr S w w1) (h' : Fr Non w1 w2) : Fr S w w2 := h.join h' fun _ _ e => e.elim
theorem Fr.mono {S S' : Nat → Prop} {w w' : World} (h : Fr S w w') (hs : ∀ k, k < w.heap.size → S k → S' k) : Fr S' w w' :=
  ⟨h.os, h.tape, h.output, h.size, fun k hk hn => h.block k hk fun e => hn (hs k hk e)⟩
theorem Fr.any {S : Nat → Prop} {w w' : World} (h : Fr Non w w') : Fr S w w' := h.mono fun _ _ e => e.elim
theorem Fr.fresh {S S' : Nat → Prop} {w w1 w2 : World} (h : Fr S w w1) (h' : Fr S' w1 w2) (hs : ∀ k, S' k → w.heap.size ≤ k) : Fr S w w2 :=
  h.join h' fun k hk e => absurd (hs k e) (by omega)
theorem Fr.drew {S : Nat → Prop} {w w' : World} (h : Fr S w w') : Fr S w w'.drew := ⟨h.os, h.tape, h.output, h.size, h.block⟩
theorem Fr.drewN {S : Nat → Prop} {w w' : World} (h : Fr S w w') (n : Nat) : Fr S w (w'.drewN n) := ⟨h.os, h.tape, h.output, h.size, h.block⟩
theorem Fr.alloc {S : Nat → Prop} {w w' : World} (h : Fr S w w') (o : Obj) : Fr S w (w'.alloc o) :=
  h.then ⟨rfl, rfl, rfl, by simp, fun k hk _ => Below.heap_alloc _ _ _ hk⟩
theorem Fr.setCell {S : Nat → Prop} {w w' : World} (h : Fr S w w') {p : Addr} (hp : p.block < w.heap.size → S p.block) (u : Value) : Fr S w (w'.setCell p u) :=
  ⟨h.os, h.tape, h.output, by simpa [World.setCell] using h.size, fun k hk hn => (Below.heap_setCell w' p u k (fun e => hn (by subst e; exact hp hk))).trans (h.block k hk hn)⟩
theorem Fr.set1 {g : Nat} {w w' : World} (h : Fr (One g) w w') (i : Nat) (u : Value) : Fr (One g) w (w'.setCell ⟨g, i, none⟩ u) := h.setCell (p := ⟨g, i, none⟩) (fun _ => rfl) u
theorem Fr.below {w w' : World} (h : Fr Non w w') : Below w.heap.size w w' := ⟨h.os, h.tape, h.output, h.size, fun k hk => h.block k hk fun e => e⟩
theorem Fr.of_grown {w w' : World} {row : Option Nat} (h : w.grownBy w' row) : Fr (fun k => row = some k) w w' :=
  ⟨h.os, h.tape, h.output, h.size, fun k hk hn => h.block k hk (fun e => hn e.symm)⟩
theorem Fr.cell {S : Nat → Prop} {w w' : World} (h : Fr S w w') {p : Addr} (hp : p.block < w.heap.size) (hn : ¬ S p.block) : w'.cell? p = w.cell? p := World.cell?_of_block (h.block _ hp hn)

theorem ret_boolE {a b : Bool} (h : a = b) : Ending.returned (.bool a) = .returned (.bool b) := by rw [h]
theorem ret_int {k : IntKind} {a b : Int} (h : a = b) : Ending.returned (.int k a) = .returned (.int k b) := by rw [h]

/-! ### A block that is known whole -/
def Blk (w : World) (g : Nat) (t : TypeId) (cs : Array Value) : Prop := w.heap[g]? = some (.cells cs t (0, 0))
theorem Blk.lt {w : World} {g : Nat} {t : TypeId} {cs : Array Value} (h : Blk w g t cs) : g < w.heap.size := (Array.getElem?_eq_some_iff.1 h).1
theorem Blk.cell {w : World} {g : Nat} {t : TypeId} {cs : Array Value} (h : Blk w g t cs) (i : Nat) : w.cell? ⟨g, i, none⟩ = cs[i]? := cell_of_row w g i cs t (0, 0) h
theorem Blk.frozen {w : World} {g : Nat} {t : TypeId} {cs : Array Value} (h : Blk w g t cs) (i : Nat) : w.frozen? ⟨g, i, none⟩ = false := by
  unfold Blk at h; simp [World.frozen?, h]
theorem Blk.new (w : World) (t : TypeId) (cs : Array Value) : Blk (w.alloc (.cells cs t)) w.heap.size t cs := heap_alloc_new w _
theorem Blk.fr {S : Nat → Prop} {w w' : World} {g : Nat} {t : TypeId} {cs : Array Value} (h : Blk w g t cs) (hf : Fr S w w') (hn : ¬ S g) : Blk w' g t cs := (hf.block g h.lt hn).trans h
theorem Blk.set {w : World} {g : Nat} {t : TypeId} {cs : Array Value} (h : Blk w g t cs) (i : Nat) (u : Value) : Blk (w.setCell ⟨g, i, none⟩ u) g t (cs.setIfInBounds i u) := by
  unfold Blk at h ⊢; simp [World.setCell, Array.getElem?_modify, h]
theorem Blk.drew {w : World} {g : Nat} {t : TypeId} {cs : Array Value} (h : Blk w g t cs) : Blk w.drew g t cs := h
theorem cell_new1 (w : World) (v : Value) (t : TypeId) : (w.alloc (.cells #[v] t)).cell? ⟨w.heap.size, 0, none⟩ = some v := (Blk.new w t #[v]).cell 0

/-! ### Bytes -/
def bv (b : UInt8) : Value := .int .u8 b.toNat
theorem add_block (a : Addr) (n : Nat) : (a.add n).block = a.block := by unfold Addr.add; split <;> rfl
theorem add_add (a : Addr) (i j : Nat) : (a.add i).add j = a.add (i + j) := by
  unfold Addr.add
  by_cases hi : i = 0 <;> by_cases hj : j = 0 <;> simp [hi, hj, Nat.add_assoc]

/-- the slice v reads as the bytes l -/
def Bs (w : World) (v : Value) (l : List UInt8) : Prop :=
  ∃ A c, v = .slice A l.length c ∧ l.length ≤ c ∧ (A = none → c = 0) ∧ ∀ a, A = some a → ∀ j (h : j < l.length), w.cell? (a.add j) = some (bv l[j])

theorem Bs.nil_ (w : World) : Bs w (.slice none 0 0) [] := ⟨none, 0, rfl, Nat.le_refl _, fun _ => rfl, fun _ h => by cases h⟩
theorem Bs.keep {w w' : World} {v : Value} {l : List UInt8} (h : Bs w v l) (hk : ∀ k, v.ownBlock = some k → k < w.heap.size → w'.heap[k]? = w.heap[k]?) : Bs w' v l := by
  obtain ⟨A, c, rfl, h1, h2, h3⟩ := h
  refine ⟨A, c, rfl, h1, h2, fun a ha j hj => ?_⟩
  have := h3 a ha j hj
  subst ha
  have hb := World.block_lt_of_cell? w _ this
  rw [add_block] at hb
  rw [← this]
  exact World.cell?_of_block (by rw [add_block]; exact hk _ rfl hb)
theorem Bs.fr {S : Nat → Prop} {w w' : World} {v : Value} {l : List UInt8} (h : Bs w v l) (hf : Fr S w w') (hn : ∀ k, v.ownBlock = some k → ¬ S k) : Bs w' v l :=
  h.keep fun k hk hlt => hf.block k hlt (hn k hk)
theorem Bs.non {w w' : World} {v : Value} {l : List UInt8} (h : Bs w v l) (hf : Fr Non w w') : Bs w' v l := h.fr hf fun _ _ e => e
theorem Bs.drew {w : World} {v : Value} {l : List UInt8} (h : Bs w v l) : Bs w.drew v l := h
theorem Bs.shape {w : World} {v : Value} {l : List UInt8} (h : Bs w v l) : ∃ A c, v = .slice A l.length c := by
  obtain ⟨A, c, rfl, _⟩ := h; exact ⟨A, c, rfl⟩

/-- bytes that the call owns: a row of its own, from block B on -/
def Own (w : World) (B : Nat) (v : Value) (l : List UInt8) : Prop := w.ownsRow B 5 1 v l.length (l.map bv)
theorem Own.lt {w : World} {B : Nat} {v : Value} {l : List UInt8} (h : Own w B v l) : ∀ k, v.ownBlock = some k → B ≤ k ∧ k < w.heap.size := World.ownsRow.lt h
theorem Own.bs {w : World} {B : Nat} {v : Value} {l : List UInt8} (h : Own w B v l) : Bs w v l := by
  rcases h.2 with ⟨rfl, h0⟩ | ⟨g, cap, cur, rfl, _, _, hle, _, _, _⟩
  · have hl : l = [] := List.eq_nil_of_length_eq_zero h0
    subst hl; exact Bs.nil_ w
  · refine ⟨_, cap, rfl, hle, (fun h => by cases h), fun a ha j hj => ?_⟩
    cases ha
    exact World.ownsRow.cells h (g := g) rfl j _ (by simp [hj])
theorem Own.keep {w w' : World} {B : Nat} {v : Value} {l : List UInt8} (h : Own w B v l) (hk : ∀ k, v.ownBlock = some k → w'.heap[k]? = w.heap[k]?) : Own w' B v l := by
  refine ⟨h.1, ?_⟩
  rcases h.2 with h2 | ⟨g, cap, cur, hv, hb, hg, r⟩
  · exact .inl h2
  · exact .inr ⟨g, cap, cur, hv, hb, by rw [hk g (by rw [hv]; rfl)]; exact hg, r⟩
theorem Own.fr {S : Nat → Prop} {w w' : World} {B : Nat} {v : Value} {l : List UInt8} (h : Own w B v l) (hf : Fr S w w') (hn : ∀ k, v.ownBlock = some k → ¬ S k) : Own w' B v l :=
  h.keep fun k hk => hf.block k (h.lt k hk).2 (hn k hk)
theorem Own.non {w w' : World} {B : Nat} {v : Value} {l : List UInt8} (h : Own w B v l) (hf : Fr Non w w') : Own w' B v l := h.fr hf fun _ _ e => e
theorem Own.alloc {w : World} {B : Nat} {v : Value} {l : List UInt8} (h : Own w B v l) (o : Obj) : Own (w.alloc o) B v l := h.non ((Fr.refl _ _).alloc o)
theorem Own.mono {w : World} {B B' : Nat} {v : Value} {l : List UInt8} (h : Own w B v l) (hB : B' ≤ B) : Own w B' v l := by
  refine ⟨h.1, ?_⟩
  rcases h.2 with h2 | ⟨g, cap, cur, hv, hb, r⟩
  · exact .inl h2
  · exact .inr ⟨g, cap, cur, hv, by omega, r⟩

theorem Own.row {w : World} {B : Nat} {v : Value} {l : List UInt8} (h : Own w B v l) (hn : l ≠ []) : ∃ g cap, v = .slice (some ⟨g, 0, none⟩) l.length cap ∧ B ≤ g ∧ g < w.heap.size ∧ l.length ≤ cap ∧ cap ≤ maxLen := by
  rcases h.2 with ⟨rfl, h0⟩ | ⟨g, cap, cur, rfl, hb, hg, hle, hm, _⟩
  · exact absurd (List.eq_nil_of_length_eq_zero h0) hn
  · exact ⟨g, cap, rfl, hb, (Array.getElem?_eq_some_iff.1 hg).1, hle, hm⟩
theorem Own.store {w : World} {B g n cap : Nat} {l : List UInt8} (h : Own w B (.slice (some ⟨g, 0, none⟩) n cap) l) (hn : n = l.length) (j : Nat) (b : UInt8) : Own (w.setCell ⟨g, j, none⟩ (bv b)) B (.slice (some ⟨g, 0, none⟩) n cap) (l.set j b) := by
  subst hn
  have := (World.ownsRow.stored h j (bv b)).1
  unfold Own
  rw [List.length_set, List.map_set]
  exact this
theorem Own.cell {w : World} {B g n cap : Nat} {l : List UInt8} (h : Own w B (.slice (some ⟨g, 0, none⟩) n cap) l) (hn : n = l.length) (j : Nat) (b : UInt8) (hb : l[j]? = some b) : w.cell? ⟨g, j, none⟩ = some (.int .u8 b.toNat) := by
  subst hn
  have hj : j < l.length := (List.getElem?_eq_some_iff.1 hb).1
  rw [World.ownsRow.cellAt h j (by omega), List.getElem?_map, hb]; rfl
theorem Own.frozen {w : World} {B g n cap : Nat} {l : List UInt8} (h : Own w B (.slice (some ⟨g, 0, none⟩) n cap) l) (hn : n = l.length) (j : Nat) : w.frozen? ⟨g, j, none⟩ = false := by
  subst hn; exact World.ownsRow.frozenAt h j
theorem Own.drew {w : World} {B : Nat} {v : Value} {l : List UInt8} (h : Own w B v l) : Own w.drew B v l := h

/-! ### A slice of slices of bytes -/
def Bss (w : World) (v : Value) (ls : List (List UInt8)) : Prop :=
  ∃ A c, v = .slice A ls.length c ∧ ls.length ≤ c ∧ (A = none → c = 0) ∧ ∀ a, A = some a → ∀ j (h : j < ls.length), ∃ u, w.cell? (a.add j) = some u ∧ Bs w u ls[j]
theorem Bss.non {w w' : World} {v : Value} {ls : List (List UInt8)} (h : Bss w v ls) (hf : Fr Non w w') : Bss w' v ls := by
  obtain ⟨A, c, rfl, h1, h2, h3⟩ := h
  refine ⟨A, c, rfl, h1, h2, fun a ha j hj => ?_⟩
  obtain ⟨u, hu, hb⟩ := h3 a ha j hj
  exact ⟨u, by rw [← hu]; exact hf.cell (World.block_lt_of_cell? w _ hu) (fun e => e), hb.non hf⟩
/-! ### Pieces of a slice of bytes -/
end Go.Proofs.Ytnbhgkolfapblaa


namespace Go.Proofs.Ytnbhgkolfapblaa
set_option linter.unusedVariables false
set_option linter.unusedSimpArgs false
set_option maxRecDepth 100000
open Go.RowKit

/-- append of one value of one cell, which was stored in a new block first -/
theorem run_pushv (T E ty : TypeId) (z : Value) (by_ : Nat) (hT : Try.prog.underlying T = some (.slice E)) (hinfo : (Try.prog.info? E).map (fun i => (i.zero, i.size, i.bytes)) = some (some z, 1, by_)) (hz : z.cells.size = 1)
    (w0 : World) (B : Nat) (v u : Value) (xs : List Value) (hown : w0.ownsRow B E 1 v xs.length xs) (h1 : u.oneCell' = true) (hl : (xs.length + 1) * by_ ≤ 140737488355328) (hm : xs.length + 1 ≤ maxLen) (hB : B ≤ w0.heap.size) (g : Nat) (hg : g = w0.heap.size) :
    ∃ v' w', (Builtin.append_ #[T, T] ty #[v, .slice (some ⟨g, 0, none⟩) 1 1]).run Try.prog (w0.alloc (.cells #[u] E)) = .ok v' w' ∧ w'.ownsRow B E 1 v' (xs ++ [u]).length (xs ++ [u]) ∧ Fr (fun k => v.ownBlock = some k) w0 w' := by
  subst hg
  obtain ⟨i, hi, hz0, hz1, hz2⟩ := info_parts hinfo
  have ho : (w0.alloc (.cells #[u] E)).ownsRow B E 1 v xs.length xs := by
    refine ⟨hown.1, ?_⟩
    rcases hown.2 with h2 | ⟨g, cap, cur, hv, hb, hg, r⟩
    · exact .inl h2
    · exact .inr ⟨g, cap, cur, hv, hb, by rw [Below.heap_alloc _ _ _ (Array.getElem?_eq_some_iff.1 hg).1]; exact hg, r⟩
  obtain ⟨v', w', hr, h2, h3, h4⟩ := run_append_own (P := Try.prog) (w0.alloc (.cells #[u] E)) B T ty E i z 1 by_ hT hi hz0 hz1 hz2 hz (by omega) v xs.length xs ho ⟨w0.heap.size, 0, none⟩ 1 1 [u] rfl
    (fun j x hj => by
      cases j with
      | zero =>
        obtain rfl : u = x := by simpa using hj
        exact cell_new1 _ _ _
      | succ j => simp at hj)
    (fun x hx => by obtain rfl : x = u := by simpa using hx
                    exact h1) hm hl (by simp; omega)
  refine ⟨v', w', hr, by simpa using h2, ?_⟩
  exact ((Fr.refl _ _).alloc _).join (Fr.of_grown h3) fun k hk e => e.symm ▸ rfl

theorem Own.kind {w : World} {B : Nat} {u : Value} {l : List UInt8} (h : Own w B u l) : ∀ k, u.ownBlock = some k → ∃ cur, w.heap[k]? = some (.cells cur 5 (0, 0)) := by
  intro k hk
  rcases h.2 with ⟨rfl, _⟩ | ⟨g, cap, cur, rfl, _, hg, _⟩
  · cases hk
  · obtain rfl : g = k := by simpa [Value.ownBlock] using hk
    exact ⟨cur, hg⟩
theorem row_kind {w : World} {B : Nat} {E : TypeId} {n : Nat} {v : Value} {xs : List Value} (h : w.ownsRow B E 1 v n xs) : ∀ k, v.ownBlock = some k → ∃ cur, w.heap[k]? = some (.cells cur E (0, 0)) := by
  intro k hk
  rcases h.2 with ⟨rfl, _⟩ | ⟨g, cap, cur, rfl, _, hg, _⟩
  · cases hk
  · obtain rfl : g = k := by simpa [Value.ownBlock] using hk
    exact ⟨cur, hg⟩
theorem row_keep {w w' : World} {B : Nat} {E : TypeId} {n : Nat} {v : Value} {xs : List Value} (h : w.ownsRow B E 1 v n xs) (hk : ∀ k, v.ownBlock = some k → w'.heap[k]? = w.heap[k]?) : w'.ownsRow B E 1 v n xs := by
  refine ⟨h.1, ?_⟩
  rcases h.2 with h2 | ⟨g, cap, cur, hv, hb, hg, r⟩
  · exact .inl h2
  · exact .inr ⟨g, cap, cur, hv, hb, by rw [hk g (by rw [hv]; rfl)]; exact hg, r⟩
theorem row_lt {w : World} {B : Nat} {E : TypeId} {n : Nat} {v : Value} {xs : List Value} (h : w.ownsRow B E 1 v n xs) : ∀ k, v.ownBlock = some k → B ≤ k ∧ k < w.heap.size := World.ownsRow.lt h
theorem row_mono {w : World} {B B' : Nat} {E : TypeId} {n : Nat} {v : Value} {xs : List Value} (h : w.ownsRow B E 1 v n xs) (hB : B' ≤ B) : w.ownsRow B' E 1 v n xs := by
  refine ⟨h.1, ?_⟩
  rcases h.2 with h2 | ⟨g, cap, cur, hv, hb, r⟩
  · exact .inl h2
  · exact .inr ⟨g, cap, cur, hv, by omega, r⟩

/-! ### Whole numbers in a row of the call's own -/
def iv (n : Int) : Value := .int .i64 n
def OwnI (w : World) (B : Nat) (v : Value) (l : List Int) : Prop := w.ownsRow B 3 1 v (l.map iv).length (l.map iv)
theorem OwnI.non {w w' : World} {B : Nat} {v : Value} {l : List Int} (h : OwnI w B v l) (hf : Fr Non w w') : OwnI w' B v l := row_keep h fun k hk => hf.block k (row_lt h k hk).2 fun e => e
theorem OwnI.fr {S : Nat → Prop} {w w' : World} {B : Nat} {v : Value} {l : List Int} (h : OwnI w B v l) (hf : Fr S w w') (hn : ∀ k, v.ownBlock = some k → ¬ S k) : OwnI w' B v l := row_keep h fun k hk => hf.block k (row_lt h k hk).2 (hn k hk)
theorem OwnI.cell {w : World} {B : Nat} {v : Value} {l : List Int} (h : OwnI w B v l) {g n c : Nat} (hv : v = .slice (some ⟨g, 0, none⟩) n c) (j : Nat) (hj : j < l.length) : w.cell? ⟨g, j, none⟩ = some (.int .i64 l[j]) := by
  subst hv
  have := World.ownsRow.cells h (g := g) rfl j (iv l[j]) (by simp [hj])
  rwa [Addr.add_lit, Nat.zero_add] at this
end Go.Proofs.Ytnbhgkolfapblaa


namespace Go.Proofs.Ytnbhgkolfapblaa
set_option linter.unusedVariables false
set_option linter.unusedSimpArgs false
set_option maxRecDepth 100000
open Go.RowKit

/-- the slice v reads as the list l, each element's cell being f of it -/
def Vs {α : Type} (f : α → Value) (w : World) (v : Value) (l : List α) : Prop :=
  ∃ A c, v = .slice A l.length c ∧ l.length ≤ c ∧ (A = none → c = 0) ∧ ∀ a, A = some a → ∀ j (h : j < l.length), w.cell? (a.add j) = some (f l[j])
/-- a row of the call's own, from block B on, of elements of type E -/
def Ow {α : Type} (f : α → Value) (E : TypeId) (w : World) (B : Nat) (v : Value) (l : List α) : Prop := w.ownsRow B E 1 v l.length (l.map f)

/-- T: slices of E, whose elements have one cell -/
structure El (T E : TypeId) (z : Value) (by_ : Nat) : Prop where
  under : Try.prog.underlying T = some (.slice E)
  info : (Try.prog.info? E).map (fun i => (i.zero, i.size, i.bytes)) = some (some z, 1, by_)
  cells : z.cells = #[z]
  small : by_ ≤ 64
  elem : Try.prog.elem T = E
  sz : ∀ w, (sizeOf (Try.prog.elem T)).run Try.prog w = .ok 1 w

section
variable {α : Type} {f : α → Value}

theorem Vs.nil_ (w : World) : Vs f w (.slice none 0 0) [] := ⟨none, 0, rfl, Nat.le_refl _, fun _ => rfl, fun _ h => by cases h⟩
theorem Vs.keep {w w' : World} {v : Value} {l : List α} (h : Vs f w v l) (hk : ∀ k, v.ownBlock = some k → k < w.heap.size → w'.heap[k]? = w.heap[k]?) : Vs f w' v l := by
  obtain ⟨A, c, rfl, h1, h2, h3⟩ := h
  refine ⟨A, c, rfl, h1, h2, fun a ha j hj => ?_⟩
  have := h3 a ha j hj
  subst ha
  have hb := World.block_lt_of_cell? w _ this
  rw [add_block] at hb
  rw [← this]
  exact World.cell?_of_block (by rw [add_block]; exact hk _ rfl hb)
theorem Vs.fr {S : Nat → Prop} {w w' : World} {v : Value} {l : List α} (h : Vs f w v l) (hf : Fr S w w') (hn : ∀ k, v.ownBlock = some k → ¬ S k) : Vs f w' v l :=
  h.keep fun k hk hlt => hf.block k hlt (hn k hk)
theorem Vs.non {w w' : World} {v : Value} {l : List α} (h : Vs f w v l) (hf : Fr Non w w') : Vs f w' v l := h.fr hf fun _ _ e => e
theorem Vs.drew {w : World} {v : Value} {l : List α} (h : Vs f w v l) : Vs f w.drew v l := h
theorem Vs.drewN {w : World} {v : Value} {l : List α} (h : Vs f w v l) (n : Nat) : Vs f (w.drewN n) v l := h
theorem Vs.shape {w : World} {v : Value} {l : List α} (h : Vs f w v l) : ∃ A c, v = .slice A l.length c := by
  obtain ⟨A, c, rfl, _⟩ := h; exact ⟨A, c, rfl⟩
/-- its address, where it has an element -/
theorem Vs.addr {w : World} {A : Option Addr} {n c : Nat} {l : List α} (h : Vs f w (.slice A n c) l) (hl : 0 < n) : ∃ a, A = some a ∧ n = l.length ∧ n ≤ c ∧ ∀ j (h : j < l.length), w.cell? (a.add j) = some (f l[j]) := by
  obtain ⟨A0, c0, he, h1, h2, h3⟩ := h
  simp only [Value.slice.injEq] at he
  obtain ⟨rfl, rfl, rfl⟩ := he
  cases A with
  | none => have := h2 rfl; omega
  | some a => exact ⟨a, rfl, rfl, h1, h3 a rfl⟩
variable {E : TypeId}
theorem ow_nil (w : World) (B : Nat) : Ow f E w B (.slice none 0 0) [] := ⟨by simp, .inl ⟨rfl, rfl⟩⟩
theorem Ow.lt {w : World} {B : Nat} {v : Value} {l : List α} (h : Ow f E w B v l) : ∀ k, v.ownBlock = some k → B ≤ k ∧ k < w.heap.size := World.ownsRow.lt h
theorem Ow.vs {w : World} {B : Nat} {v : Value} {l : List α} (h : Ow f E w B v l) : Vs f w v l := by
  rcases h.2 with ⟨rfl, h0⟩ | ⟨g, cap, cur, rfl, _, _, hle, _, _, _⟩
  · have hl : l = [] := List.eq_nil_of_length_eq_zero h0
    subst hl; exact Vs.nil_ w
  · refine ⟨_, cap, rfl, hle, (fun h => by cases h), fun a ha j hj => ?_⟩
    cases ha
    exact World.ownsRow.cells h (g := g) rfl j _ (by simp [hj])
theorem Ow.shape {w : World} {B : Nat} {v : Value} {l : List α} (h : Ow f E w B v l) : ∃ A c, v = .slice A l.length c := h.vs.shape
theorem Ow.keep {w w' : World} {B : Nat} {v : Value} {l : List α} (h : Ow f E w B v l) (hk : ∀ k, v.ownBlock = some k → w'.heap[k]? = w.heap[k]?) : Ow f E w' B v l := row_keep h hk
theorem Ow.fr {S : Nat → Prop} {w w' : World} {B : Nat} {v : Value} {l : List α} (h : Ow f E w B v l) (hf : Fr S w w') (hn : ∀ k, v.ownBlock = some k → ¬ S k) : Ow f E w' B v l :=
  h.keep fun k hk => hf.block k (h.lt k hk).2 (hn k hk)
theorem Ow.non {w w' : World} {B : Nat} {v : Value} {l : List α} (h : Ow f E w B v l) (hf : Fr Non w w') : Ow f E w' B v l := h.fr hf fun _ _ e => e
theorem Ow.alloc {w : World} {B : Nat} {v : Value} {l : List α} (h : Ow f E w B v l) (o : Obj) : Ow f E (w.alloc o) B v l := h.non ((Fr.refl _ _).alloc o)
theorem Ow.drew {w : World} {B : Nat} {v : Value} {l : List α} (h : Ow f E w B v l) : Ow f E w.drew B v l := h
theorem Ow.drewN {w : World} {B : Nat} {v : Value} {l : List α} (h : Ow f E w B v l) (n : Nat) : Ow f E (w.drewN n) B v l := h
theorem Ow.mono {w : World} {B B' : Nat} {v : Value} {l : List α} (h : Ow f E w B v l) (hB : B' ≤ B) : Ow f E w B' v l := row_mono h hB
theorem Ow.kind {w : World} {B : Nat} {v : Value} {l : List α} (h : Ow f E w B v l) : ∀ k, v.ownBlock = some k → ∃ cur, w.heap[k]? = some (.cells cur E (0, 0)) := row_kind h
/-- where it has an element, it stands at a row's head -/
theorem Ow.row {w : World} {B : Nat} {v : Value} {l : List α} (h : Ow f E w B v l) (hn : 0 < l.length) : ∃ g cap, v = .slice (some ⟨g, 0, none⟩) l.length cap ∧ B ≤ g ∧ g < w.heap.size ∧ l.length ≤ cap ∧ cap ≤ maxLen := by
  rcases h.2 with ⟨rfl, h0⟩ | ⟨g, cap, cur, rfl, hb, hg, hle, hm, _⟩
  · omega
  · exact ⟨g, cap, rfl, hb, (Array.getElem?_eq_some_iff.1 hg).1, hle, hm⟩
theorem Ow.cell {w : World} {B g n cap : Nat} {l : List α} (h : Ow f E w B (.slice (some ⟨g, 0, none⟩) n cap) l) (hn : n = l.length) (j : Nat) (x : α) (hb : l[j]? = some x) : w.cell? ⟨g, j, none⟩ = some (f x) := by
  subst hn
  have hj : j < l.length := (List.getElem?_eq_some_iff.1 hb).1
  rw [World.ownsRow.cellAt h j (by omega), List.getElem?_map, hb]; rfl
theorem Ow.frozen {w : World} {B g n cap : Nat} {l : List α} (h : Ow f E w B (.slice (some ⟨g, 0, none⟩) n cap) l) (hn : n = l.length) (j : Nat) : w.frozen? ⟨g, j, none⟩ = false := by
  subst hn; exact World.ownsRow.frozenAt h j
theorem Ow.store {w : World} {B g n cap : Nat} {l : List α} (h : Ow f E w B (.slice (some ⟨g, 0, none⟩) n cap) l) (hn : n = l.length) (j : Nat) (x : α) : Ow f E (w.setCell ⟨g, j, none⟩ (f x)) B (.slice (some ⟨g, 0, none⟩) n cap) (l.set j x) := by
  subst hn
  have := (World.ownsRow.stored h j (f x)).1
  unfold Ow
  rw [List.length_set, List.map_set]
  exact this
/-! ### Steps -/
variable {T : TypeId} {z : Value} {by_ : Nat}
/-- append of one element, which was stored in a new block first -/
theorem wpList_pushG (hE : El T E z by_) (hf1 : ∀ x, (f x).oneCell' = true) {w0 : World} {ops : Array Oper} {rest : List Oper} {o : Oper} {a : Act} {Q : Exit → Act → World → Prop} (hgd : o.guard = none) (s x : Operand)
    (ho : o.op = .call { callee := .builtin .append, args := #[s, x], argTypes := #[T, T] })
    (B : Nat) (v : Value) (l : List α) (hs : a.eval s = v) (hown : Ow f E w0 B v l) (u : Value) (y : α) (hu : u = f y) (hx : a.eval x = .slice (some ⟨w0.heap.size, 0, none⟩) 1 1)
    (hl : l.length < 1099511627776) (hB : B ≤ w0.heap.size)
    (h : ∀ v' w', Ow f E w' B v' (l ++ [y]) → Fr (fun k => v.ownBlock = some k) w0 w' → wpList Try.prog ops Q rest (a.put o.dst v') w') :
    wpList Try.prog ops Q (o :: rest) a (w0.alloc (.cells #[u] E)) := by
  subst hu
  have hown' : w0.ownsRow B E 1 v (l.map f).length (l.map f) := by rw [List.length_map]; exact hown
  have hs' := hE.small
  have hbl : ((l.map f).length + 1) * by_ ≤ 140737488355328 := by
    rw [List.length_map]
    have := Nat.mul_le_mul (show l.length + 1 ≤ 1099511627776 by omega) hs'
    omega
  obtain ⟨v', w', hr, h1, h2⟩ := run_pushv T E o.type z by_ hE.under hE.info (by rw [hE.cells]; rfl) w0 B v (f y) (l.map f) hown' (hf1 y) hbl (by rw [List.length_map]; unfold maxLen; omega) hB w0.heap.size rfl
  refine wpList_plain hgd fun K hK => ?_
  unfold Oper.wp execOp
  simp only [ho, resolve, invoke, builtin, Sem.run_bind, Sem.run_pure, Result.andThen_ok, List.map_toArray, List.map_cons, List.map_nil, hs, hx, hr]
  refine hK _ _ (h v' w' ?_ h2)
  unfold Ow
  simpa [List.map_append] using h1

/-! ### Pieces -/
theorem slice_loG (hE : El T E z by_) (A : Option Addr) (n c k : Nat) (kl : IntKind) (y : Int) (hy : y = (k : Int)) (hk : k ≤ n) (hn : n ≤ c) :
    ∃ A' c', (∀ W, (Instr.slice T (.slice A n c) (some (.int kl y)) none none).run Try.prog W = .ok (.slice A' (n - k) c') W) ∧
      (∀ {α : Type} (f : α → Value) W (l : List α), l.length = n → Vs f W (.slice A n c) l → Vs f W (.slice A' (n - k) c') (l.drop k)) ∧ (Value.slice A' (n - k) c').ownBlock = (Value.slice A n c).ownBlock := by
  subst hy
  refine ⟨if c = k then A else A.map (·.add k), c - k, fun W => ?_, ?_, ?_⟩
  · rw [run_slice_any W T A n c (by rw [hE.elem]; exact hE.under)]
    have hb : (Instr.sliceBounds true n c (some (.int kl (k : Int))) none none).run Try.prog W = .ok (k, n, c) W := by
      simp [Instr.sliceBounds, run_sliceBound, hk, hn]
    rw [hb]
    simp only [Result.andThen_ok, hE.sz]
    simp [sliced]
  · rintro α f W l hl ⟨A0, c0, he, h1, h2, h3⟩
    simp only [Value.slice.injEq] at he
    obtain ⟨rfl, hl', rfl⟩ := he
    refine ⟨if c = k then A else A.map (·.add k), c - k, by rw [List.length_drop, hl], by rw [List.length_drop]; omega, fun e => ?_, fun a ha j hj => ?_⟩
    · split at e
      · have := h2 e; omega
      · have := h2 (by simpa using e); omega
    · rw [List.length_drop] at hj
      rw [if_neg (by omega)] at ha
      cases A with
      | none => cases ha
      | some b =>
        obtain rfl : b.add k = a := by simpa using ha
        rw [add_add, h3 b rfl (k + j) (by omega)]
        simp
  · split
    · cases A <;> rfl
    · cases A <;> simp [Value.ownBlock, add_block]

end

/-! ### Truths, whole numbers, bytes -/
theorem Bs.vs {w : World} {v : Value} {l : List UInt8} (h : Bs w v l) : Vs bv w v l := h
theorem Vs.bs {w : World} {v : Value} {l : List UInt8} (h : Vs bv w v l) : Bs w v l := h
theorem Ow.own {w : World} {B : Nat} {v : Value} {l : List UInt8} (h : Ow bv 5 w B v l) : Own w B v l := h

end Go.Proofs.Ytnbhgkolfapblaa


namespace Go.Proofs.Ytnbhgkolfapblaa
set_option linter.unusedVariables false
set_option linter.unusedSimpArgs false
set_option maxRecDepth 100000
open Go.ChangeShapes Go.WideShapes Go.ChangeAt Go.RowKit

theorem frame_own : ownKnob Try.prog.godebug = none := by kernel_rfl
theorem frame_laidOut : laidOutB Try.prog = true := by kernel_rfl

/-- every argument reads as it did -/
theorem trodAll_below {H : Type} {enc : TypeId × Value → H} {W W' : World} (hb : Below W.heap.size W W') :
    ∀ (ts : List TypeId) (vs : List Value) (ds : List (DataW H)) (ps : List MemPlace), (∀ t ∈ ts, Try.prog.readableRec t = true ∧ t < Try.prog.types.size) →
      DataW.TrodAll enc Try.prog W 0 (fun _ => true) true ts vs ds ps → DataW.TrodAll enc Try.prog W' 0 (fun b => decide (b < W.heap.size)) true ts vs ds ps := by
  intro ts
  induction ts with
  | nil => intro vs ds ps _ h; cases vs <;> cases ds <;> simp_all [DataW.TrodAll]
  | cons t ts ih =>
    intro vs ds ps hr h
    cases vs with
    | nil => cases ds <;> simp_all [DataW.TrodAll]
    | cons v vs =>
      cases ds with
      | nil => simp_all [DataW.TrodAll]
      | cons d ds =>
        obtain ⟨p, q, h1, h2, rfl⟩ := h
        have hlt : ∀ x ∈ p, x.block < W.heap.size := by obtain ⟨m, hm⟩ := h1; exact DataW.trod_lt m _ _ _ hm
        have ht := hr t (List.mem_cons_self ..)
        exact ⟨p, q, Below.trod frame_laidOut ht.1 ht.2 h1 hb hlt, ih vs ds q (fun u hu => hr u (List.mem_cons_of_mem _ hu)) h2, rfl⟩

noncomputable def typesOk (ts : List TypeId) : Bool := ts.all fun t => Try.prog.readableRec t && decide (t < Try.prog.types.size)
theorem types_ok (ts : List TypeId) (h : typesOk ts = true) : ∀ t ∈ ts, Try.prog.readableRec t = true ∧ t < Try.prog.types.size := by
  intro t ht
  have := List.all_eq_true.1 h t ht
  simpa using this

/-- a slice that came in: nil, or it leads into a block that is there -/
theorem slice_in {W : World} {base : Nat} {t e : TypeId} {v : Value} (ht : Try.prog.underlying t = some (.slice e)) (hv : Value.okWide Try.prog W .any base t v) :
    v = .slice none 0 0 ∨ ∃ b o n c, v = .slice (some ⟨b, o, none⟩) n c ∧ n ≤ c ∧ b < W.heap.size := by
  obtain ⟨a, n, c, rfl⟩ := okWide_slice ht hv
  simp only [Value.okWide, ht, Cell.okWide] at hv
  cases a with
  | none =>
    left
    simp only [Cell.ok, ht] at hv
    cases n <;> cases c <;> simp_all
  | some a =>
    right
    simp only [Cell.ok, ht] at hv
    obtain ⟨h1, _, _, h2, row, cells, h3, _⟩ := hv
    obtain ⟨b, o, sp⟩ := a
    simp only at h2 h3
    subst h2
    refine ⟨b, o, n, c, rfl, h1, ?_⟩
    rcases Nat.lt_or_ge b W.heap.size with h | h
    · exact h
    · unfold World.shape? at h3
      rw [Array.getElem?_eq_none h] at h3
      cases h3

theorem wf_i64_bd {n : Int} (h : (Lit.int .i64 n).wf = true) : -9223372036854775808 ≤ n ∧ n ≤ 9223372036854775807 := by
  simpa [Lit.wf, IntKind.min, IntKind.max, IntKind.signed, IntKind.bits] using h
end Go.Proofs.Ytnbhgkolfapblaa


namespace Go.Proofs.Ytnbhgkolfapblaa
set_option linter.unusedVariables false
set_option linter.unusedSimpArgs false
set_option maxRecDepth 100000
open Go.ChangeShapes Go.WideShapes Go.ChangeAt Go.RowKit

theorem choose_listG {α : Type} (P : Nat → α → Prop) : ∀ (n : Nat), (∀ i, i < n → ∃ x, P i x) → ∃ l : List α, l.length = n ∧ ∀ i (h : i < l.length), P i l[i]
  | 0, _ => ⟨[], rfl, fun i h => by simp at h⟩
  | n + 1, h => by
    obtain ⟨l, hl, hp⟩ := choose_listG P n fun i hi => h i (by omega)
    obtain ⟨x, hx⟩ := h n (by omega)
    refine ⟨l ++ [x], by simp [hl], fun i hi => ?_⟩
    by_cases hin : i < l.length
    · rw [List.getElem_append_left hin]; exact hp i hin
    · have : i = n := by simp at hi; omega
      subst this
      rw [List.getElem_append_right (by omega)]
      simpa using hx

end Go.Proofs.Ytnbhgkolfapblaa


namespace Go.Proofs.Ytnbhgkolfapblaa
set_option linter.unusedVariables false
set_option linter.unusedSimpArgs false
set_option maxRecDepth 100000
open Go.ChangeShapes Go.WideShapes Go.ChangeAt Go.RowKit

/-- f: an element's cells, k of them -/
structure Fd {α : Type} (f : α → List Value) (k : Nat) : Prop where
  len : ∀ x, (f x).length = k
  one : ∀ x, ∀ u ∈ f x, u.oneCell' = true
  pos : 0 < k
  small : k ≤ 64

section
variable {α : Type} {f : α → List Value} {k : Nat}

theorem catN_len (h : Fd f k) (l : List α) : (l.flatMap f).length = l.length * k := by
  induction l with
  | nil => simp
  | cons c l ih => rw [List.flatMap_cons, List.length_append, ih, h.len, List.length_cons, Nat.succ_mul, Nat.add_comm]
theorem catN_at (h : Fd f k) (l : List α) (j i : Nat) (hj : j < l.length) (hi : i < k) : (l.flatMap f)[j * k + i]? = (f l[j])[i]? := by
  induction l generalizing j with
  | nil => cases hj
  | cons c l ih =>
    rw [List.flatMap_cons]
    cases j with
    | zero => rw [List.getElem?_append_left (by rw [h.len]; omega)]; simp
    | succ j =>
      rw [Nat.succ_mul, List.getElem?_append_right (by rw [h.len]; omega)]
      rw [show j * k + k + i - (f c).length = j * k + i by rw [h.len]; omega]
      exact ih j (by simpa using hj)
theorem catN_set (h : Fd f k) (l : List α) (j i : Nat) (u : Value) (x y : α) (hj : l[j]? = some y) (hi : i < k) (hx : f x = (f y).set i u) : (l.set j x).flatMap f = (l.flatMap f).set (j * k + i) u := by
  induction l generalizing j with
  | nil => simp at hj
  | cons d l ih =>
    cases j with
    | zero =>
      obtain rfl : d = y := by simpa using hj
      rw [List.set_cons_zero, List.flatMap_cons, List.flatMap_cons, hx, List.set_append_left _ _ (by rw [h.len]; omega)]
      simp
    | succ j =>
      rw [List.set_cons_succ, List.flatMap_cons, List.flatMap_cons, ih j (by simpa using hj), Nat.succ_mul]
      rw [List.set_append_right _ _ (by rw [h.len]; omega), show j * k + k + i - (f d).length = j * k + i by rw [h.len]; omega]

/-- cells, one behind the other, that hold us -/
def AtN (w : World) (a : Addr) (us : List Value) : Prop := ∀ (i : Nat) (u : Value), us[i]? = some u → w.cell? (a.add i) = some u
theorem AtN.keep {w w' : World} {a : Addr} {us : List Value} (h : AtN w a us) (hk : a.block < w.heap.size → w'.heap[a.block]? = w.heap[a.block]?) : AtN w' a us := by
  intro i u hu
  have h1 := h i u hu
  have hb := World.block_lt_of_cell? w _ h1
  rw [add_block] at hb
  rw [← h1]
  exact World.cell?_of_block (by rw [add_block]; exact hk hb)
theorem AtN.non {w w' : World} {a : Addr} {us : List Value} (h : AtN w a us) (hf : Fr Non w w') : AtN w' a us := h.keep fun hb => hf.block _ hb (fun e => e)

/-- the slice v reads as the list l, each element's cells being f of it -/
def Ns (f : α → List Value) (k : Nat) (w : World) (v : Value) (l : List α) : Prop :=
  ∃ A c, v = .slice A l.length c ∧ l.length ≤ c ∧ (A = none → c = 0) ∧ ∀ a, A = some a → ∀ j (h : j < l.length), AtN w (a.add (j * k)) (f l[j])
/-- a row of the call's own, from block B on, of elements of type E -/
def No (f : α → List Value) (k : Nat) (E : TypeId) (w : World) (B : Nat) (v : Value) (l : List α) : Prop := w.ownsRow B E k v l.length (l.flatMap f)

theorem Ns.nil_ (w : World) : Ns f k w (.slice none 0 0) [] := ⟨none, 0, rfl, Nat.le_refl _, fun _ => rfl, fun _ h => by cases h⟩
theorem Ns.keep {w w' : World} {v : Value} {l : List α} (h : Ns f k w v l) (hk : ∀ b, v.ownBlock = some b → b < w.heap.size → w'.heap[b]? = w.heap[b]?) : Ns f k w' v l := by
  obtain ⟨A, c, rfl, h1, h2, h3⟩ := h
  refine ⟨A, c, rfl, h1, h2, fun a ha j hj => ?_⟩
  subst ha
  refine (h3 a rfl j hj).keep fun hb => ?_
  rw [add_block] at hb ⊢
  exact hk _ rfl hb
theorem Ns.fr {S : Nat → Prop} {w w' : World} {v : Value} {l : List α} (h : Ns f k w v l) (hf : Fr S w w') (hn : ∀ b, v.ownBlock = some b → ¬ S b) : Ns f k w' v l :=
  h.keep fun b hb hlt => hf.block b hlt (hn b hb)
theorem Ns.non {w w' : World} {v : Value} {l : List α} (h : Ns f k w v l) (hf : Fr Non w w') : Ns f k w' v l := h.fr hf fun _ _ e => e
theorem Ns.drew {w : World} {v : Value} {l : List α} (h : Ns f k w v l) : Ns f k w.drew v l := h.keep fun _ _ _ => rfl
theorem Ns.drewN {w : World} {v : Value} {l : List α} (h : Ns f k w v l) (n : Nat) : Ns f k (w.drewN n) v l := h.keep fun _ _ _ => rfl
theorem Ns.shape {w : World} {v : Value} {l : List α} (h : Ns f k w v l) : ∃ A c, v = .slice A l.length c := by
  obtain ⟨A, c, rfl, _⟩ := h; exact ⟨A, c, rfl⟩
theorem Ns.addr {w : World} {A : Option Addr} {n c : Nat} {l : List α} (h : Ns f k w (.slice A n c) l) (hl : 0 < n) : ∃ a, A = some a ∧ n = l.length ∧ n ≤ c ∧ ∀ j (h : j < l.length), AtN w (a.add (j * k)) (f l[j]) := by
  obtain ⟨A0, c0, he, h1, h2, h3⟩ := h
  simp only [Value.slice.injEq] at he
  obtain ⟨rfl, rfl, rfl⟩ := he
  cases A with
  | none => have := h2 rfl; omega
  | some a => exact ⟨a, rfl, rfl, h1, h3 a rfl⟩
/-- the element at j -/
theorem Ns.at_ {w : World} {A : Option Addr} {n c : Nat} {l : List α} (h : Ns f k w (.slice A n c) l) (j : Nat) (x : α) (hx : l[j]? = some x) : ∃ a, A = some a ∧ AtN w (a.add (j * k)) (f x) := by
  obtain ⟨hj, rfl⟩ := List.getElem?_eq_some_iff.1 hx
  obtain ⟨A0, c0, he, h1, h2, h3⟩ := h
  simp only [Value.slice.injEq] at he
  obtain ⟨rfl, rfl, rfl⟩ := he
  cases A with
  | none => have := h2 rfl; omega
  | some a => exact ⟨a, rfl, h3 a rfl j hj⟩

variable {E : TypeId}
theorem No.lt {w : World} {B : Nat} {v : Value} {l : List α} (h : No f k E w B v l) : ∀ b, v.ownBlock = some b → B ≤ b ∧ b < w.heap.size := World.ownsRow.lt h
theorem No.ns (hF : Fd f k) {w : World} {B : Nat} {v : Value} {l : List α} (h : No f k E w B v l) : Ns f k w v l := by
  rcases h.2 with ⟨rfl, h0⟩ | ⟨g, cap, cur, rfl, _, _, hle, _, _, _⟩
  · have hl : l = [] := List.eq_nil_of_length_eq_zero h0
    subst hl; exact Ns.nil_ w
  · refine ⟨_, cap, rfl, hle, (fun h => by cases h), fun a ha j hj i u hu => ?_⟩
    cases ha
    have hi : i < k := by rw [← hF.len l[j]]; exact (List.getElem?_eq_some_iff.1 hu).1
    rw [add_add]
    exact World.ownsRow.cells h (g := g) rfl (j * k + i) _ ((catN_at hF l j i hj hi).trans hu)
theorem No.keep {w w' : World} {B : Nat} {v : Value} {l : List α} (h : No f k E w B v l) (hk : ∀ b, v.ownBlock = some b → w'.heap[b]? = w.heap[b]?) : No f k E w' B v l := by
  refine ⟨h.1, ?_⟩
  rcases h.2 with h2 | ⟨g, cap, cur, hv, hb, hg, r⟩
  · exact .inl h2
  · exact .inr ⟨g, cap, cur, hv, hb, by rw [hk g (by rw [hv]; rfl)]; exact hg, r⟩
theorem No.fr {S : Nat → Prop} {w w' : World} {B : Nat} {v : Value} {l : List α} (h : No f k E w B v l) (hf : Fr S w w') (hn : ∀ b, v.ownBlock = some b → ¬ S b) : No f k E w' B v l :=
  h.keep fun b hb => hf.block b (h.lt b hb).2 (hn b hb)
theorem No.non {w w' : World} {B : Nat} {v : Value} {l : List α} (h : No f k E w B v l) (hf : Fr Non w w') : No f k E w' B v l := h.fr hf fun _ _ e => e
theorem No.alloc {w : World} {B : Nat} {v : Value} {l : List α} (h : No f k E w B v l) (o : Obj) : No f k E (w.alloc o) B v l := h.non ((Fr.refl _ _).alloc o)
theorem No.drew {w : World} {B : Nat} {v : Value} {l : List α} (h : No f k E w B v l) : No f k E w.drew B v l := h
theorem No.mono {w : World} {B B' : Nat} {v : Value} {l : List α} (h : No f k E w B v l) (hB : B' ≤ B) : No f k E w B' v l := by
  refine ⟨h.1, ?_⟩
  rcases h.2 with h2 | ⟨g, cap, cur, hv, hb, r⟩
  · exact .inl h2
  · exact .inr ⟨g, cap, cur, hv, by omega, r⟩
theorem No.kind {w : World} {B : Nat} {v : Value} {l : List α} (h : No f k E w B v l) : ∀ b, v.ownBlock = some b → ∃ cur, w.heap[b]? = some (.cells cur E (0, 0)) := by
  intro b hk
  rcases h.2 with ⟨rfl, _⟩ | ⟨g, cap, cur, rfl, _, hg, _⟩
  · cases hk
  · obtain rfl : g = b := by simpa [Value.ownBlock] using hk
    exact ⟨cur, hg⟩
theorem No.row {w : World} {B : Nat} {v : Value} {l : List α} (h : No f k E w B v l) (hn : 0 < l.length) : ∃ g cap, v = .slice (some ⟨g, 0, none⟩) l.length cap ∧ B ≤ g ∧ g < w.heap.size ∧ l.length ≤ cap ∧ cap ≤ maxLen := by
  rcases h.2 with ⟨rfl, h0⟩ | ⟨g, cap, cur, rfl, hb, hg, hle, hm, _⟩
  · omega
  · exact ⟨g, cap, rfl, hb, (Array.getElem?_eq_some_iff.1 hg).1, hle, hm⟩
/-- what a walk asks of a row's element at j -/
theorem No.el (hF : Fd f k) {w : World} {B g n cap : Nat} {l : List α} (h : No f k E w B (.slice (some ⟨g, 0, none⟩) n cap) l) (hn : n = l.length) (j i : Nat) (x : α) (u : Value) (hx : l[j]? = some x) (hu : (f x)[i]? = some u) : w.cell? ⟨g, j * k + i, none⟩ = some u := by
  subst hn
  obtain ⟨hj, rfl⟩ := List.getElem?_eq_some_iff.1 hx
  have hi : i < k := by rw [← hF.len l[j]]; exact (List.getElem?_eq_some_iff.1 hu).1
  have hjk : (j + 1) * k ≤ l.length * k := Nat.mul_le_mul_right k hj
  rw [Nat.succ_mul] at hjk
  rw [World.ownsRow.cellAt h (j * k + i) (by omega), catN_at hF l j i hj hi]
  exact hu
theorem No.frozen {w : World} {B g n cap : Nat} {l : List α} (h : No f k E w B (.slice (some ⟨g, 0, none⟩) n cap) l) (hn : n = l.length) (j : Nat) : w.frozen? ⟨g, j, none⟩ = false := by
  subst hn; exact World.ownsRow.frozenAt h j
/-- one value stored -/
theorem No.put (hF : Fd f k) {w : World} {B g n cap : Nat} {l : List α} (h : No f k E w B (.slice (some ⟨g, 0, none⟩) n cap) l) (hn : n = l.length) (j i : Nat) (x y : α) (u : Value) (hy : l[j]? = some y) (hi : i < k) (hx : f x = (f y).set i u) :
    No f k E (w.setCell ⟨g, j * k + i, none⟩ u) B (.slice (some ⟨g, 0, none⟩) n cap) (l.set j x) := by
  subst hn
  unfold No
  rw [List.length_set, catN_set hF l j i u x y hy hi hx]
  exact (World.ownsRow.stored h (j * k + i) u).1
theorem no_lit (hF : Fd f k) (w : World) (B g : Nat) (l : List α) (cs : Array Value) (hcs : cs.toList = l.flatMap f) (hg : g = w.heap.size) (hB : B ≤ g) (hm : l.length ≤ 1000000) : No f k E (w.alloc (.cells cs E)) B (.slice (some ⟨g, 0, none⟩) l.length l.length) l := by
  subst hg
  have h := World.ownsRow_lit (e := E) (size := k) w cs l.length hB (by unfold maxLen; omega) (by rw [← Array.length_toList, hcs, catN_len hF])
  rw [hcs] at h
  exact h
variable {T : TypeId} {z : Value} {by_ : Nat}
/-- an argument opened -/
theorem ns_in (hF : Fd f k) {T E : TypeId} (hT : Try.prog.underlying T = some (.slice E)) (hc : Try.prog.cellsOf E = k) {H : Type} {enc : TypeId × Value → H} {W : World} {base : Nat} {v : Value} {d : DataW H} {p : List MemPlace}
    (pr : α → Prop) (each : ∀ n cs y, cs.length = k → DataW.trod enc Try.prog W 0 (fun _ => true) true n E cs = some y → ∃ x, cs = f x ∧ pr x)
    (hv : Value.okWide Try.prog W .any base T v) (h : DataW.Trod enc Try.prog W 0 (fun _ => true) true T v d p) : ∃ l, Ns f k W v l ∧ l.length ≤ 9223372036854775807 ∧ (∀ x ∈ l, pr x) ∧ ∀ b, v.ownBlock = some b → b < W.heap.size := by
  have hlt : ∀ b, v.ownBlock = some b → b < W.heap.size := by
    rcases slice_in hT hv with rfl | ⟨b, o, n, c, rfl, _, hb⟩
    · intro k hk; cases hk
    · intro k hk
      obtain rfl : b = k := by simpa [Value.ownBlock] using hk
      exact hb
  obtain ⟨A, n, c, rfl⟩ := okWide_slice hT hv
  obtain ⟨fuel, hf⟩ := h
  rcases Go.Deep.open_slice hT hf with ⟨hcs, _⟩ | ⟨a, len, cap, m, q, D, Pl, hcs, _, hl, hm, hmm, _, hr⟩
  · simp [Value.cells] at hcs
    obtain ⟨rfl, rfl, rfl⟩ := hcs
    exact ⟨[], Ns.nil_ W, by simp, by simp, hlt⟩
  · simp [Value.cells] at hcs
    obtain ⟨rfl, rfl, rfl⟩ := hcs
    have hnm : n ≤ m := by rw [hmm]; simp; exact hl
    obtain ⟨l, hll, hls⟩ := choose_listG (fun i (x : α) => AtN W (a.add (i * k)) (f x) ∧ pr x) n (by
      intro i hi
      obtain ⟨cs', h1, h2⟩ := hr i (by omega)
      rw [hc] at h1
      obtain ⟨_, hlen, hcell⟩ := World.cells?_some h1
      obtain ⟨x, rfl, hp⟩ := each _ _ _ hlen h2
      refine ⟨x, fun j u hu => ?_, hp⟩
      rw [hcell j (by rw [← hF.len x]; exact (List.getElem?_eq_some_iff.1 hu).1)]
      exact hu)
    subst hll
    refine ⟨l, ⟨some a, c, rfl, hl, (fun h => by cases h), fun b hb j hj => ?_⟩, by unfold maxLen at hm; omega, fun x hx => ?_, hlt⟩
    · cases hb
      exact (hls j hj).1
    · obtain ⟨j, hj, rfl⟩ := List.mem_iff_getElem.1 hx
      exact (hls j hj).2
end
end Go.Proofs.Ytnbhgkolfapblaa


namespace Go.Proofs.Ytnbhgkolfapblaa
set_option linter.unusedVariables false
set_option linter.unusedSimpArgs false
set_option maxRecDepth 100000

abbrev Tx := List UInt8

theorem bless : ∀ (x y : Tx), Op.bytesLess x y = decide (x < y)
  | x, [] => by cases x <;> simp [Op.bytesLess]
  | [], b :: y => by simp [Op.bytesLess]
  | a :: x, b :: y => by
    rw [Op.bytesLess, bless x y, Bool.eq_iff_iff]
    simp [List.cons_lt_cons_iff]

/-- ahead, the same, behind: of texts, and of numbers -/
def cmpT (x y : Tx) : Int := if x < y then -1 else if y < x then 1 else 0
def cmpI (x y : Int) : Int := if x < y then -1 else if y < x then 1 else 0
theorem tx_tri (x y : Tx) : x < y ∨ x = y ∨ y < x := by
  by_cases h1 : x < y
  · exact .inl h1
  · by_cases h2 : y < x
    · exact .inr (.inr h2)
    · exact .inr (.inl (List.le_antisymm (List.not_lt.1 h2) (List.not_lt.1 h1)))
theorem cmpT_lt {x y : Tx} (h : x < y) : cmpT x y = -1 := by unfold cmpT; rw [if_pos h]
theorem cmpT_gt {x y : Tx} (h : y < x) : cmpT x y = 1 := by
  unfold cmpT; rw [if_neg (fun e => List.lt_irrefl x (List.lt_trans e h)), if_pos h]
theorem cmpT_self (x : Tx) : cmpT x x = 0 := by unfold cmpT; rw [if_neg (List.lt_irrefl x), if_neg (List.lt_irrefl x)]
end Go.Proofs.Ytnbhgkolfapblaa


namespace Go.Proofs.Ytnbhgkolfapblaa
set_option linter.unusedVariables false
set_option linter.unusedSimpArgs false
set_option maxRecDepth 100000
open Go.RowKit

/-- a column: its name, its type, whether its cells may be null -/
structure Co where
  name : List UInt8
  ty : Int
  nl : Bool
  deriving DecidableEq
def coL (c : Co) : List Value := [.string ⟨c.name.toArray⟩, .int .i64 c.ty, .bool c.nl]
def coC (c : Co) : Array Value := #[.string ⟨c.name.toArray⟩, .int .i64 c.ty, .bool c.nl]
def coV (c : Co) : Value := .agg (coC c)
theorem fd_co : Fd coL 3 := ⟨fun _ => rfl, fun x u hu => by simp [coL] at hu; rcases hu with rfl | rfl | rfl <;> rfl, by omega, by omega⟩
abbrev Ks (w : World) (v : Value) (l : List Co) : Prop := Ns coL 3 w v l
/-- as a walk spells them -/
theorem co_lit {w : World} {a : Addr} {c : Co} (h : AtN w a (coL c)) : w.cell? a = some (.string ⟨c.name.toArray⟩) ∧ w.cell? { block := a.block, off := a.off + 1 } = some (.int .i64 c.ty) ∧ w.cell? { block := a.block, off := a.off + 2 } = some (.bool c.nl) :=
  ⟨h 0 _ rfl, h 1 _ rfl, h 2 _ rfl⟩
/-- the column c lies in block g -/
abbrev CoB (w : World) (g : Nat) (c : Co) : Prop := Blk w g 51 #[.string ⟨c.name.toArray⟩, .int .i64 c.ty, .bool c.nl]
theorem co_new (w : World) (c : Co) : CoB (w.alloc (.cells #[.string ⟨c.name.toArray⟩, .int .i64 c.ty, .bool c.nl] 51)) w.heap.size c := Blk.new _ _ _
end Go.Proofs.Ytnbhgkolfapblaa


namespace Go.Proofs.Ytnbhgkolfapblaa
set_option linter.unusedVariables false
set_option linter.unusedSimpArgs false
set_option maxRecDepth 100000
open Go.RowKit

/-- a letter, a digit -/
def ltrI (r : Int) : Bool := decide (97 ≤ r) && decide (r ≤ 122)
def dgtI (r : Int) : Bool := decide (48 ≤ r) && decide (r ≤ 57)
/-- may r stand at j? -/
def okI (j : Nat) (r : Int) : Bool := ltrI r || (decide (j ≠ 0) && (dgtI r || decide (r = 95)))
/-- the words of queries -/
def wordsL : List (List UInt8) := [[97, 110, 100], [111, 114], [110, 111, 116], [105, 115], [110, 117, 108, 108], [108, 105, 107, 101], [116, 114, 117, 101], [102, 97, 108, 115, 101], [115, 101, 108, 101, 99, 116], [102, 114, 111, 109], [119, 104, 101, 114, 101], [103, 114, 111, 117, 112], [98, 121], [97, 108, 108], [99, 111, 117, 110, 116], [104, 97, 115], [115, 117, 109], [109, 105, 110], [109, 97, 120]]
def nmOk (l : List UInt8) : Prop := ∀ j (h : j < l.length), okI j (l[j]).toNat = true
instance (l : List UInt8) : Decidable (nmOk l) := inferInstanceAs (Decidable (∀ j (h : j < l.length), okI j (l[j]).toNat = true))
/-- may l be a name? -/
def nameB (l : List UInt8) : Bool := decide (1 ≤ l.length ∧ l.length ≤ 12 ∧ l ∉ wordsL ∧ nmOk l)

theorem name_yes {l : List UInt8} (h1 : 1 ≤ l.length) (h2 : l.length ≤ 12) (h3 : l ∉ wordsL) (h4 : nmOk l) : nameB l = true := decide_eq_true ⟨h1, h2, h3, h4⟩
theorem name_long {l : List UInt8} (h : 12 < l.length) : nameB l = false := decide_eq_false fun h' => by omega
theorem name_word {l : List UInt8} (h : l ∈ wordsL) : nameB l = false := decide_eq_false fun h' => h'.2.2.1 h
theorem name_bad {l : List UInt8} {j : Nat} (h : j < l.length) (hb : okI j (l[j]).toNat = false) : nameB l = false := decide_eq_false fun h' => by
  have := h'.2.2.2 j h; rw [hb] at this; cases this
theorem okI_high {j : Nat} {r : Int} (h : 128 ≤ r) : okI j r = false := by
  unfold okI ltrI dgtI
  rw [decide_eq_false (show ¬ r ≤ 122 by omega), decide_eq_false (show ¬ r ≤ 57 by omega), decide_eq_false (show ¬ r = 95 by omega)]
  simp
end Go.Proofs.Ytnbhgkolfapblaa


namespace Go.Proofs.Ytnbhgkolfapblaa
set_option linter.unusedVariables false
set_option linter.unusedSimpArgs false
set_option maxRecDepth 100000

/-- the number that bytes begin with, from its i-th byte on, acc being what the bytes ahead of it make -/
def rd (i acc : Nat) : List UInt8 → Option (Nat × List UInt8)
  | [] => none
  | c :: r => if (i = 9 ∧ 1 < c.toNat) ∨ (0 < i ∧ c.toNat = 0) then none else if c.toNat < 128 then some (acc + c.toNat * 128 ^ i, r) else rd (i + 1) (acc + (c.toNat - 128) * 128 ^ i) r

end Go.Proofs.Ytnbhgkolfapblaa


namespace Go.Proofs.Ytnbhgkolfapblaa
set_option linter.unusedVariables false
set_option linter.unusedSimpArgs false
set_option maxRecDepth 100000
open Go.RowKit

/-- a row of slices, from the head of block g on, that read as the lists ls -/
def Parts (w : World) (g : Nat) (xs : List Value) (ls : List (List UInt8)) : Prop :=
  xs.length = ls.length ∧ ∀ j x l, xs[j]? = some x → ls[j]? = some l → w.cell? ⟨g, j, none⟩ = some x ∧ Bs w x l
theorem Parts.non {w w' : World} {g : Nat} {xs : List Value} {ls : List (List UInt8)} (h : Parts w g xs ls) (hf : Fr Non w w') : Parts w' g xs ls :=
  ⟨h.1, fun j x l hx hl => by
    obtain ⟨h1, h2⟩ := h.2 j x l hx hl
    exact ⟨(hf.cell (p := ⟨g, j, none⟩) (World.block_lt_of_cell? w _ h1) (fun e => e)).trans h1, h2.non hf⟩⟩
theorem Parts.two {w : World} {t : TypeId} {x y : Value} {l m : List UInt8} (hx : Bs w x l) (hy : Bs w y m) : Parts (w.alloc (.cells #[x, y] t)) w.heap.size [x, y] [l, m] := by
  refine ⟨rfl, fun j u k hu hk => ?_⟩
  have hb := Blk.new w t #[x, y]
  have hf : Fr Non w (w.alloc (.cells #[x, y] t)) := (Fr.refl _ _).alloc _
  match j with
  | 0 =>
    obtain rfl : x = u := by simpa using hu
    obtain rfl : l = k := by simpa using hk
    exact ⟨hb.cell 0, hx.non hf⟩
  | 1 =>
    obtain rfl : y = u := by simpa using hu
    obtain rfl : m = k := by simpa using hk
    exact ⟨hb.cell 1, hy.non hf⟩
  | j + 2 => simp at hu

theorem Own.shape {w : World} {B : Nat} {v : Value} {l : List UInt8} (h : Own w B v l) : ∃ A c, v = .slice A l.length c := h.bs.shape

end Go.Proofs.Ytnbhgkolfapblaa


namespace Go.Proofs.Ytnbhgkolfapblaa
set_option linter.unusedVariables false
set_option linter.unusedSimpArgs false
set_option maxRecDepth 100000
open Go.RowKit

/-- what a number leaves -/
def rest (l : List UInt8) : List UInt8 := match rd 0 0 l with | none => [] | some (_, r) => r
end Go.Proofs.Ytnbhgkolfapblaa


namespace Go.Proofs.Ytnbhgkolfapblaa
set_option linter.unusedVariables false
set_option linter.unusedSimpArgs false
set_option maxRecDepth 100000
open Go.RowKit

/-- a cell: null or not, its number, its text -/
structure Cl where
  null : Bool
  num : Int
  txt : List UInt8
  deriving DecidableEq
/-- its cells, and its value -/
def clC (c : Cl) : Array Value := #[.bool c.null, .int .i64 c.num, .string ⟨c.txt.toArray⟩]
def clV (c : Cl) : Value := .agg (clC c)
/-- are two the same? -/
def ceq (a b : Cl) : Bool := decide (a = b)
theorem ceq_is {a b : Cl} (h : ceq a b = true) : a = b := by simpa [ceq] using h
theorem eq_parts (a b : Cl) : ceq a b = (a.null == b.null && (a.num == b.num && a.txt == b.txt)) := by
  obtain ⟨an, ai, at_⟩ := a
  obtain ⟨bn, bi, bt⟩ := b
  unfold ceq
  rw [Bool.eq_iff_iff]
  simp

theorem run_eql_cl (W : World) (a b : Cl) : (binOp .eql 24 (.agg #[.bool a.null, .int .i64 a.num, .string ⟨a.txt.toArray⟩]) (.agg #[.bool b.null, .int .i64 b.num, .string ⟨b.txt.toArray⟩])).run Try.prog W = .ok (.bool (ceq a b)) W := by
  rw [eq_parts]
  obtain ⟨an, ai, at_⟩ := a
  obtain ⟨bn, bi, bt⟩ := b
  go_simp
  by_cases h1 : an = bn <;> by_cases h2 : ai = bi <;> by_cases h3 : at_ = bt <;> simp [h1, h2, h3]
theorem csame_any (a b : Cl) (w : World) : Calls Try.prog 63 #[clV a, clV b] w fun e w' => e = .returned (.bool (ceq a b)) ∧ Fr Non w w' := by
  have h := fun W => run_eql_cl W a b
  unfold clV clC
  go_enter Try.func63, Try.ntmps63
  go_wp2
  go_ret
  exact ⟨rfl, ((Fr.refl _ _).alloc _).alloc _⟩

/-- is there such a type? -/
def isTy (ty : Int) : Bool := ty == 1 || ty == 2 || ty == 3
/-- which cells there may be -/
def mayC (ty : Int) (nl : Bool) (c : Cl) : Bool :=
  isTy ty && (if c.null then nl && (c.num == 0 && c.txt.isEmpty) else if ty = 3 then c.num == 0 && decide (c.txt.length ≤ 40) else c.txt.isEmpty && (ty == 1 || (c.num == 0 || c.num == 1)))

theorem istype_any (ty : Int) (w : World) : Calls Try.prog 62 #[.int .i64 ty] w fun e w' => e = .returned (.bool (isTy ty)) ∧ w = w' := by
  go_enter Try.func62, Try.ntmps62
  go_wp2
  all_goals
    go_ret
    exact ⟨ret_boolE (by simp_all [isTy]), rfl⟩

theorem slen (l : List UInt8) : ByteArray.size ⟨l.toArray⟩ = l.length := by simp [ByteArray.size]
theorem mayC_no {ty : Int} (h1 : ¬ ty = 1) (h2 : ¬ ty = 2) (h3 : ¬ ty = 3) (nl : Bool) (c : Cl) : mayC ty nl c = false := by
  simp [mayC, isTy, h1, h2, h3]
theorem mayC_null (ty : Int) (nl : Bool) (i : Int) (t : Tx) : mayC ty nl ⟨true, i, t⟩ = (nl && (isTy ty && ceq ⟨true, i, t⟩ ⟨true, 0, []⟩)) := by
  rw [eq_parts]
  unfold mayC
  cases isTy ty <;> cases nl <;> cases t <;> simp

set_option maxHeartbeats 1000000 in
theorem may_any (ty : Int) (nl : Bool) (c : Cl) (w : World) : Calls Try.prog 43 #[.int .i64 ty, .bool nl, clV c] w fun e w' => e = .returned (.bool (mayC ty nl c)) ∧ Fr Non w w' := by
  obtain ⟨n, i, t⟩ := c
  unfold clV clC
  cases n
  · have hs := slen t
    by_cases h1 : ty = 1
    · subst h1
      go_enter Try.func43, Try.ntmps43
      go_wp2
      all_goals
        go_ret
        exact ⟨ret_boolE (by first | rfl | (simp [mayC, isTy]; done) | (simp_all [mayC, isTy]; done) | (simp_all [mayC, isTy] <;> omega)), (Fr.refl _ _).alloc _⟩
    · by_cases h2 : ty = 2
      · subst h2
        go_enter Try.func43, Try.ntmps43
        go_wp2
        all_goals
          go_ret
          exact ⟨ret_boolE (by first | rfl | (simp [mayC, isTy]; done) | (simp_all [mayC, isTy]; done) | (simp_all [mayC, isTy] <;> omega)), (Fr.refl _ _).alloc _⟩
      · by_cases h3 : ty = 3
        · subst h3
          go_enter Try.func43, Try.ntmps43
          go_wp2
          all_goals
            go_ret
            exact ⟨ret_boolE (by first | rfl | (simp [mayC, isTy]; done) | (simp_all [mayC, isTy]; done) | (simp_all [mayC, isTy] <;> omega)), (Fr.refl _ _).alloc _⟩
        · have H := Lib.hid (mayC_no h1 h2 h3 nl ⟨false, i, t⟩)
          go_enter Try.func43, Try.ntmps43
          go_wp2
          go_ret
          exact ⟨ret_boolE H.out.symm, (Fr.refl _ _).alloc _⟩
  · have H := Lib.hid (mayC_null ty nl i t)
    cases nl
    · go_enter Try.func43, Try.ntmps43
      go_wp2
      go_ret
      exact ⟨ret_boolE (by rw [H.out]; rfl), (Fr.refl _ _).alloc _⟩
    · cases hT : isTy ty with
      | false =>
        have h0 := fun W => istype_any ty W
        simp only [hT] at h0
        have HT := Lib.hid hT
        clear hT
        go_enter Try.func43, Try.ntmps43
        go_wp2_with fail
        refine (h0 _).mono ?_
        rintro e w1 ⟨rfl, rfl⟩
        go_wp2
        go_ret
        exact ⟨ret_boolE (by rw [H.out, HT.out]; rfl), (Fr.refl _ _).alloc _⟩
      | true =>
        have h0 := fun W => istype_any ty W
        simp only [hT] at h0
        have HT := Lib.hid hT
        clear hT
        go_enter Try.func43, Try.ntmps43
        go_wp2_with fail
        refine (h0 _).mono ?_
        rintro e w1 ⟨rfl, rfl⟩
        go_wp2_with fail
        refine (csame_any ⟨true, i, t⟩ ⟨true, 0, []⟩ _).mono ?_
        rintro e w1 ⟨rfl, hf1⟩
        go_wp2
        go_ret
        exact ⟨ret_boolE (by rw [H.out, HT.out]; rfl), ((Fr.refl _ _).alloc _).trans hf1⟩

end Go.Proofs.Ytnbhgkolfapblaa


namespace Go.Proofs.Ytnbhgkolfapblaa
set_option linter.unusedVariables false
set_option linter.unusedSimpArgs false
set_option maxRecDepth 100000
open Go.RowKit

theorem quietly {P : Program} {f : FuncId} {args : Array Value} {w : World} {n : Nat} {v : Value}
    (h : Calls P f args (w.drewN n) fun e w' => e = .returned v ∧ w.drewN n = w') : Calls P f args (w.drewN n) fun e w'' => e = .returned v ∧ ∃ m, w'' = w.drewN m := h.mono fun _ _ ⟨he, hm⟩ => ⟨he, n, hm.symm⟩
end Go.Proofs.Ytnbhgkolfapblaa


namespace Go.Proofs.Ytnbhgkolfapblaa
set_option linter.unusedVariables false
set_option linter.unusedSimpArgs false
set_option maxRecDepth 100000
open Go.RowKit

/-- no table may have c -/
def badC (c : Co) : Bool := !(nameB c.name && isTy c.ty)
def namesC (l : List Co) : List Tx := l.map Co.name
/-- what is wrong with l: 0, nothing; 1, 4 -/
def chkC (l : List Co) : Int := if l.length = 0 ∨ l.any badC = true ∨ ¬ (namesC l).Nodup then 1 else if 6 < l.length then 4 else 0
theorem chk_any {l : List Co} (hb : l.any badC = true) : chkC l = 1 := if_pos (.inr (.inl hb))
theorem chk_dup {l : List Co} (h : ¬ (namesC l).Nodup) : chkC l = 1 := if_pos (.inr (.inr h))
theorem chk_none {l : List Co} (h : l.length = 0) : chkC l = 1 := if_pos (.inl h)
theorem chk_many {l : List Co} (h0 : ¬ l.length = 0) (h1 : l.any badC = false) (h2 : (namesC l).Nodup) (h3 : 6 < l.length) : chkC l = 4 := by
  unfold chkC; rw [if_neg (by rintro (h | h | h); exact h0 h; rw [h1] at h; cases h; exact h h2), if_pos h3]
theorem chk_ok {l : List Co} (h0 : ¬ l.length = 0) (h1 : l.any badC = false) (h2 : (namesC l).Nodup) (h3 : ¬ 6 < l.length) : chkC l = 0 := by
  unfold chkC; rw [if_neg (by rintro (h | h | h); exact h0 h; rw [h1] at h; cases h; exact h h2), if_neg h3]
theorem any_more {l : List Co} {k : Nat} (h : k < l.length) (h1 : (l.take k).any badC = false) (h2 : badC l[k] = false) : (l.take (k + 1)).any badC = false := by
  rw [List.take_succ_eq_append_getElem h, List.any_append, h1]; simp [h2]

theorem ne_more {l : List Co} {n : Tx} {k : Nat} (h : k < l.length) (ha : ∀ j (hj : j < l.length), j < k → l[j].name ≠ n) (hb : l[k].name ≠ n) : ∀ j (hj : j < l.length), j < k + 1 → l[j].name ≠ n := by
  intro j hj hlt
  by_cases e : j = k
  · subst e; exact hb
  · exact ha j hj (by omega)

/-- where the first one of that name is -/
def findC (l : List Co) (n : Tx) : Option Nat := l.findIdx? fun c => c.name == n
theorem find_at {l : List Co} {n : Tx} {k : Nat} (h : k < l.length) (he : l[k].name = n) (hn : ∀ j (hj : j < l.length), j < k → l[j].name ≠ n) : findC l n = some k := by
  unfold findC
  rw [List.findIdx?_eq_some_iff_getElem]
  exact ⟨h, by simpa using he, fun j hj => by simpa using hn j (by omega) hj⟩
theorem find_no {l : List Co} {n : Tx} (hn : ∀ j (hj : j < l.length), l[j].name ≠ n) : findC l n = none := by
  unfold findC
  rw [List.findIdx?_eq_none_iff]
  intro c hc
  obtain ⟨j, hj, rfl⟩ := List.mem_iff_getElem.1 hc
  simpa using hn j hj
theorem find_lt {l : List Co} {n : Tx} {k : Nat} (h : findC l n = some k) : k < l.length := by
  unfold findC at h
  exact (List.findIdx?_eq_some_iff_getElem.1 h).1

/-- may row be one of a table with these columns? -/
def rowB (l : List Co) (row : List Cl) : Bool := decide (l.length = row.length ∧ ∀ j (h : j < l.length) (h2 : j < row.length), mayC l[j].ty l[j].nl row[j] = true)
theorem row_len {l : List Co} {row : List Cl} (h : ¬ l.length = row.length) : rowB l row = false := decide_eq_false fun h' => h h'.1
theorem row_bad {l : List Co} {row : List Cl} {j : Nat} (h : j < l.length) (h2 : j < row.length) (hb : mayC l[j].ty l[j].nl row[j] = false) : rowB l row = false := decide_eq_false fun h' => by
  have := h'.2 j h h2; rw [hb] at this; cases this
theorem row_yes {l : List Co} {row : List Cl} (h : l.length = row.length) (h2 : ∀ j (h : j < l.length) (h2 : j < row.length), mayC l[j].ty l[j].nl row[j] = true) : rowB l row = true := decide_eq_true ⟨h, h2⟩
theorem row_more {l : List Co} {row : List Cl} {k : Nat} (h : k < l.length) (h2 : k < row.length) (ha : ∀ j (h : j < l.length) (h2 : j < row.length), j < k → mayC l[j].ty l[j].nl row[j] = true) (hb : mayC l[k].ty l[k].nl row[k] = true) :
    ∀ j (h : j < l.length) (h2 : j < row.length), j < k + 1 → mayC l[j].ty l[j].nl row[j] = true := by
  intro j hj hj2 hlt
  by_cases e : j = k
  · subst e; exact hb
  · exact ha j hj hj2 (by omega)
end Go.Proofs.Ytnbhgkolfapblaa


namespace Go.Proofs.Ytnbhgkolfapblaa
set_option linter.unusedVariables false
set_option linter.unusedSimpArgs false
set_option maxRecDepth 100000

/-- int64 -/
def I64b (x : Int) : Prop := -9223372036854775808 ≤ x ∧ x ≤ 9223372036854775807
/-! ### Replacing -/
end Go.Proofs.Ytnbhgkolfapblaa


namespace Go.Proofs.Ytnbhgkolfapblaa
set_option linter.unusedVariables false
set_option linter.unusedSimpArgs false
set_option maxRecDepth 100000

/-- the rune at a text's head, and its width -/
def dcU (l : List UInt8) : Nat × Nat := Lib.decodeN l.length (l.getD 0 0).toNat (l.getD 1 0).toNat (l.getD 2 0).toNat (l.getD 3 0).toNat

theorem getbU (l : List UInt8) (i : Nat) : (⟨l.toArray⟩ : ByteArray).get! i = l.getD i 0 := by
  simp only [ByteArray.get!, List.getElem!_toArray, List.getD_eq_getElem?_getD]
  by_cases h : i < l.length
  · simp [h]
  · simp [List.getElem?_eq_none (Nat.le_of_not_lt h)]
    rfl
theorem dcU_at (l : List UInt8) (k : Nat) : Utf8.decode ⟨l.toArray⟩ k = dcU (l.drop k) := by
  rw [Lib.decode_at]
  unfold dcU
  simp only [getbU]
  have hs : ByteArray.size ⟨l.toArray⟩ = l.length := by simp [ByteArray.size]
  rw [hs, List.length_drop]
  simp only [List.getD_eq_getElem?_getD, List.getElem?_drop, Nat.add_zero]

def okU (r : Nat) : Prop := r < 55296 ∨ (57344 ≤ r ∧ r ≤ 1114111)

theorem decN_w (n b0 b1 b2 b3 : Nat) (hn : 1 ≤ n) : 1 ≤ (Lib.decodeN n b0 b1 b2 b3).2 ∧ (Lib.decodeN n b0 b1 b2 b3).2 ≤ n := by
  unfold Lib.decodeN
  repeat' split
  all_goals simp only
  all_goals omega
theorem decN_ok (n b0 b1 b2 b3 : Nat) (h0 : b0 < 256) (h1 : b1 < 256) (h2 : b2 < 256) (h3 : b3 < 256) : okU (Lib.decodeN n b0 b1 b2 b3).1 := by
  unfold Lib.decodeN okU
  repeat' split
  all_goals simp only
  all_goals omega
theorem dcU_w {l : List UInt8} (h : l ≠ []) : 1 ≤ (dcU l).2 ∧ (dcU l).2 ≤ l.length := decN_w _ _ _ _ _ (List.length_pos_iff.2 h)
theorem dcU_ok (l : List UInt8) : okU (dcU l).1 := decN_ok _ _ _ _ _ (UInt8.toNat_lt _) (UInt8.toNat_lt _) (UInt8.toNat_lt _) (UInt8.toNat_lt _)

def rnU : Nat → List UInt8 → List Nat
  | 0, _ => []
  | _ + 1, [] => []
  | n + 1, b :: l => (dcU (b :: l)).1 :: rnU n ((b :: l).drop (dcU (b :: l)).2)
/-- the runes of a text -/
def runesU (l : List UInt8) : List Nat := rnU l.length l

theorem rnU_nil (n : Nat) : rnU n [] = [] := by cases n <;> rfl
theorem rnU_more : ∀ (n m : Nat) (l : List UInt8), l.length ≤ n → l.length ≤ m → rnU n l = rnU m l
  | 0, m, l, h, _ => by
    obtain rfl : l = [] := List.eq_nil_of_length_eq_zero (by omega)
    rw [rnU_nil, rnU_nil]
  | n + 1, 0, l, _, h => by
    obtain rfl : l = [] := List.eq_nil_of_length_eq_zero (by omega)
    rw [rnU_nil, rnU_nil]
  | n + 1, m + 1, [], _, _ => rfl
  | n + 1, m + 1, b :: l, h1, h2 => by
    have hw := dcU_w (l := b :: l) (by simp)
    have hd : ((b :: l).drop (dcU (b :: l)).2).length ≤ l.length := by rw [List.length_drop, List.length_cons]; omega
    simp only [List.length_cons] at h1 h2
    simp only [rnU]
    rw [rnU_more n m _ (by omega) (by omega)]
theorem runesU_nil : runesU [] = [] := rfl
theorem runesU_head {l : List UInt8} (h : l ≠ []) : runesU l = (dcU l).1 :: runesU (l.drop (dcU l).2) := by
  cases l with
  | nil => exact absurd rfl h
  | cons b l =>
    have hw := dcU_w (l := b :: l) (by simp)
    unfold runesU
    simp only [List.length_cons, rnU]
    rw [rnU_more _ ((b :: l).drop (dcU (b :: l)).2).length _ (by rw [List.length_drop, List.length_cons]; omega) (Nat.le_refl _)]
theorem runesU_drop {l : List UInt8} {k : Nat} (h : k < l.length) : runesU (l.drop k) = (dcU (l.drop k)).1 :: runesU (l.drop (k + (dcU (l.drop k)).2)) := by
  rw [runesU_head (l := l.drop k) (by intro e; have := congrArg List.length e; simp at this; omega), List.drop_drop]
theorem runesU_end {l : List UInt8} {k : Nat} (h : ¬ k < l.length) : runesU (l.drop k) = [] := by
  rw [List.drop_eq_nil_of_le (by omega)]; rfl
theorem runesU_len (n : Nat) : ∀ (l : List UInt8), l.length ≤ n → (runesU l).length ≤ l.length := by
  induction n with
  | zero => intro l h; obtain rfl : l = [] := List.eq_nil_of_length_eq_zero (by omega); simp [runesU_nil]
  | succ n ih =>
    intro l h
    by_cases hl : l = []
    · subst hl; simp [runesU_nil]
    · have hw := dcU_w hl
      have := ih (l.drop (dcU l).2) (by rw [List.length_drop]; omega)
      rw [runesU_head hl, List.length_cons]
      rw [List.length_drop] at this
      omega
theorem runesU_le (l : List UInt8) : (runesU l).length ≤ l.length := runesU_len _ l (Nat.le_refl _)
/-! ### Put together -/
/-! ### The bytes of runes -/
end Go.Proofs.Ytnbhgkolfapblaa


namespace Go.Proofs.Ytnbhgkolfapblaa
set_option linter.unusedVariables false
set_option linter.unusedSimpArgs false
set_option maxRecDepth 100000
open Go.RowKit

def zCl : Cl := ⟨false, 0, []⟩
/-- a predicate but for what is within it -/
structure Ph where
  op : Int
  col : Tx
  cmp : Int
  val : Cl
  kind : Int
  pat : Tx
  deriving DecidableEq
inductive Pd where
  | mk (h : Ph) (kids : List Pd)
def Pd.hd : Pd → Ph | .mk h _ => h
def Pd.kids : Pd → List Pd | .mk _ l => l
theorem Pd.ind {M : Pd → Prop} (h : ∀ hd ks, (∀ k ∈ ks, M k) → M (.mk hd ks)) (p : Pd) : M p :=
  Pd.rec (motive_1 := M) (motive_2 := fun l => ∀ k ∈ l, M k) (fun hd ks ih => h hd ks ih) (fun _ hk => by cases hk)
    (fun k r hk hr x hx => by
      rcases List.mem_cons.1 hx with rfl | hx
      · exact hk
      · exact hr x hx) p

/-! ### How many, how deep, how long -/
mutual
def cntP : Pd → Nat | .mk _ ks => 1 + cntL ks
def cntL : List Pd → Nat | [] => 0 | k :: r => cntP k + cntL r
end
mutual
def depP : Pd → Nat | .mk _ ks => 1 + depL ks
def depL : List Pd → Nat | [] => 0 | k :: r => max (depP k) (depL r)
end
def lenH (h : Ph) (n : Nat) : Bool := decide (n ≤ 20 ∧ h.col.length ≤ 100 ∧ h.pat.length ≤ 100 ∧ h.val.txt.length ≤ 100)
mutual
def lenP : Pd → Bool | .mk h ks => lenH h ks.length && lenL ks
def lenL : List Pd → Bool | [] => true | k :: r => lenP k && lenL r
end
theorem lenL_all (l : List Pd) : lenL l = l.all lenP := by
  induction l with
  | nil => rfl
  | cons k r ih => rw [lenL, ih]; rfl
theorem depL_mem {l : List Pd} {k : Pd} (h : k ∈ l) : depP k ≤ depL l := by
  induction l with
  | nil => cases h
  | cons x r ih =>
    rw [depL]
    rcases List.mem_cons.1 h with rfl | h
    · omega
    · have := ih h; omega
theorem dep_pos (p : Pd) : 1 ≤ depP p := by cases p; rw [depP]; omega
/-! ### Which there may be -/
def askOk (h : Ph) : Bool :=
  nameB h.col && (if h.op = 2 then decide (1 ≤ h.cmp ∧ h.cmp ≤ 6) && mayC h.kind false h.val && decide (h = ⟨h.op, h.col, h.cmp, h.val, h.kind, []⟩)
    else if h.op = 4 then decide (h.pat.length ≤ 40) && decide (h = ⟨h.op, h.col, 0, zCl, 0, h.pat⟩)
    else decide (h = ⟨h.op, h.col, 0, zCl, 0, []⟩))
def bareH (h : Ph) : Bool := decide (h = ⟨h.op, [], 0, zCl, 0, []⟩)
def kidOp (op : Int) (ks : List Pd) : Bool := ks.any fun k => k.hd.op == op
def hdOk (h : Ph) (ks : List Pd) : Bool :=
  if h.op = 1 then decide (ks.length = 0) && bareH h
  else if h.op = 2 ∨ h.op = 3 ∨ h.op = 4 then decide (ks.length = 0) && askOk h
  else if h.op = 5 then decide (ks.length = 1) && bareH h
  else if h.op = 6 ∨ h.op = 7 then decide (1 < ks.length) && bareH h && !kidOp h.op ks
  else false
mutual
def oneP : Pd → Bool | .mk h ks => hdOk h ks && oneL ks
def oneL : List Pd → Bool | [] => true | k :: r => oneP k && oneL r
end
theorem oneL_all (l : List Pd) : oneL l = l.all oneP := by
  induction l with
  | nil => rfl
  | cons k r ih => rw [oneL, ih]; rfl
def mayP (p : Pd) : Bool := decide (cntP p ≤ 16 ∧ depP p ≤ 6) && oneP p

/-! ### Asked of all of them -/
section
variable {σ : Type}
mutual
def allP (f : σ → Pd → Nat → Option σ) : Pd → σ → Nat → Option σ | .mk h ks, s, d => (f s (.mk h ks) d).bind fun s' => allL f ks s' (d + 1)
def allL (f : σ → Pd → Nat → Option σ) : List Pd → σ → Nat → Option σ | [], s, _ => some s | k :: r, s, d => (allP f k s d).bind fun s' => allL f r s' d
end
end
def stepM (n : Nat) (p : Pd) (d : Nat) : Option Nat := if n + 1 ≤ 16 ∧ d ≤ 6 ∧ hdOk p.hd p.kids = true then some (n + 1) else none
theorem allM (p : Pd) : ∀ n d, n ≤ 16 → d ≤ 7 → allP stepM p n d = if n + cntP p ≤ 16 ∧ d + depP p ≤ 7 ∧ oneP p = true then some (n + cntP p) else none := by
  induction p using Pd.ind with
  | h hd ks ih =>
    have hL : ∀ (l : List Pd), (∀ k ∈ l, k ∈ ks) → ∀ n d, n ≤ 16 → d ≤ 7 → allL stepM l n d = if n + cntL l ≤ 16 ∧ d + depL l ≤ 7 ∧ oneL l = true then some (n + cntL l) else none := by
      intro l
      induction l with
      | nil => intro _ n d hn hd; rw [allL, cntL, depL, oneL, if_pos ⟨by omega, by omega, rfl⟩]; rfl
      | cons k r ih2 =>
        intro hm n d hn hd
        rw [allL, ih k (hm k (List.mem_cons_self ..)) n d hn hd, cntL, depL, oneL]
        by_cases h1 : n + cntP k ≤ 16 ∧ d + depP k ≤ 7 ∧ oneP k = true
        · rw [if_pos h1, Option.bind_some, ih2 (fun x hx => hm x (List.mem_cons_of_mem _ hx)) _ d h1.1 hd, h1.2.2, Bool.true_and]
          by_cases h2 : n + cntP k + cntL r ≤ 16 ∧ d + depL r ≤ 7 ∧ oneL r = true
          · rw [if_pos h2, if_pos ⟨by omega, by omega, h2.2.2⟩, Nat.add_assoc]
          · rw [if_neg h2, if_neg (by rintro ⟨a, b, c⟩; exact h2 ⟨by omega, by omega, c⟩)]
        · rw [if_neg h1, Option.bind_none, if_neg]
          rintro ⟨a, b, c⟩
          rw [Bool.and_eq_true] at c
          exact h1 ⟨by omega, by omega, c.1⟩
    intro n d hn hd7
    rw [allP, cntP, depP, oneP]
    unfold stepM
    by_cases h1 : n + 1 ≤ 16 ∧ d ≤ 6 ∧ hdOk hd ks = true
    · rw [if_pos (show n + 1 ≤ 16 ∧ d ≤ 6 ∧ hdOk (Pd.mk hd ks).hd (Pd.mk hd ks).kids = true from h1), Option.bind_some]
      have e := hL ks (fun _ h => h) (n + 1) (d + 1) h1.1 (by omega)
      unfold stepM at e
      rw [e, h1.2.2, Bool.true_and]
      by_cases h2 : n + 1 + cntL ks ≤ 16 ∧ d + 1 + depL ks ≤ 7 ∧ oneL ks = true
      · rw [if_pos h2, if_pos ⟨by omega, by omega, h2.2.2⟩, Nat.add_assoc]
      · rw [if_neg h2, if_neg (by rintro ⟨a, b, c⟩; exact h2 ⟨by omega, by omega, c⟩)]
    · rw [if_neg (show ¬ (n + 1 ≤ 16 ∧ d ≤ 6 ∧ hdOk (Pd.mk hd ks).hd (Pd.mk hd ks).kids = true) from h1), Option.bind_none, if_neg]
      rintro ⟨a, b, c⟩
      rw [Bool.and_eq_true] at c
      exact h1 ⟨by omega, by omega, c.1⟩
theorem may_all (p : Pd) : (allP stepM p 0 1).isSome = mayP p := by
  rw [allM p 0 1 (by omega) (by omega)]
  unfold mayP
  by_cases h : cntP p ≤ 16 ∧ depP p ≤ 6
  · rw [decide_eq_true h, Bool.true_and]
    cases h2 : oneP p
    · rw [if_neg (by simp)]; rfl
    · rw [if_pos ⟨by omega, by omega, rfl⟩]; rfl
  · rw [decide_eq_false h, Bool.false_and, if_neg (by omega)]; rfl

/-! ### Counted, as the document does -/
/-! ### Which fit columns -/
def okT (cols : List Co) (h : Ph) : Bool :=
  if h.col = [] then true else match findC cols h.col with
  | none => false
  | some k => match cols[k]? with
    | none => true
    | some c => if h.op = 2 then c.ty == h.kind else if h.op = 4 then c.ty == 3 else true
mutual
def typP (cols : List Co) : Pd → Bool | .mk h ks => okT cols h && typL cols ks
def typL (cols : List Co) : List Pd → Bool | [] => true | k :: r => typP cols k && typL cols r
end
theorem typL_all (cols : List Co) (l : List Pd) : typL cols l = l.all (typP cols) := by
  induction l with
  | nil => rfl
  | cons k r ih => rw [typL, ih]; rfl
def stepT (cols : List Co) (_ : Unit) (p : Pd) (_ : Nat) : Option Unit := if okT cols p.hd = true then some () else none
theorem allT (cols : List Co) (p : Pd) : ∀ d, allP (stepT cols) p () d = if typP cols p = true then some () else none := by
  induction p using Pd.ind with
  | h hd ks ih =>
    have hL : ∀ (l : List Pd), (∀ k ∈ l, k ∈ ks) → ∀ d, allL (stepT cols) l () d = if typL cols l = true then some () else none := by
      intro l
      induction l with
      | nil => intro _ d; rw [allL, typL, if_pos rfl]
      | cons k r ih2 =>
        intro hm d
        rw [allL, ih k (hm k (List.mem_cons_self ..)) d, typL]
        cases h1 : typP cols k
        · simp
        · rw [if_pos rfl, Option.bind_some, ih2 (fun x hx => hm x (List.mem_cons_of_mem _ hx)) d]; simp
    intro d
    rw [allP, typP]
    have e := hL ks (fun _ h => h) (d + 1)
    unfold stepT at e ⊢
    show (if okT cols hd = true then some () else none).bind _ = _
    cases h1 : okT cols hd
    · simp
    · rw [if_pos rfl, Option.bind_some, e]; simp
def fitP (cols : List Co) (p : Pd) : Int := if mayP p = false ∨ ¬ chkC cols = 0 then 1 else if typP cols p = true then 0 else 10

/-! ### The same -/
/-! ### Columns -/
/-! ### Texts -/
end Go.Proofs.Ytnbhgkolfapblaa


namespace Go.Proofs.Ytnbhgkolfapblaa
set_option linter.unusedVariables false
set_option linter.unusedSimpArgs false
set_option maxRecDepth 100000

/-- A to Z are a to z -/
def smU (r : Nat) : Nat := if 65 ≤ r ∧ r ≤ 90 then r + 32 else r
def foldU (l : List UInt8) : List Nat := (runesU l).map smU
theorem foldU_le (l : List UInt8) : (foldU l).length ≤ l.length := by unfold foldU; rw [List.length_map]; exact runesU_le l

/-- whether the runes p match the runes t -/
def mtG : List Nat → List Nat → Bool
  | [], t => t.isEmpty
  | c :: p, t => if c = 37 then (List.range (t.length + 1)).any fun k => mtG p (t.drop k) else
    match t with
    | [] => false
    | x :: t' => (c == 95 || c == x) && mtG p t'
def matchU (p s : List UInt8) : Bool := mtG (foldU p) (foldU s)

theorem mtG_nil (t : List Nat) : mtG [] t = true ↔ t = [] := by simp [mtG]
theorem mtG_many (p t : List Nat) : mtG (37 :: p) t = true ↔ ∃ k, k ≤ t.length ∧ mtG p (t.drop k) = true := by
  simp only [mtG, if_true, List.any_eq_true, List.mem_range]
  constructor
  · rintro ⟨k, h1, h2⟩; exact ⟨k, by omega, h2⟩
  · rintro ⟨k, h1, h2⟩; exact ⟨k, by omega, h2⟩
theorem mtG_one {c : Nat} (p t : List Nat) (h : c ≠ 37) : mtG (c :: p) t = true ↔ ∃ x t', t = x :: t' ∧ (c = 95 ∨ c = x) ∧ mtG p t' = true := by
  simp only [mtG, if_neg h]
  cases t with
  | nil => simp
  | cons x t =>
    simp only [Bool.and_eq_true, Bool.or_eq_true, beq_iff_eq]
    constructor
    · rintro ⟨h1, h2⟩; exact ⟨x, t, rfl, h1, h2⟩
    · rintro ⟨y, u, h1, h2, h3⟩
      simp only [List.cons.injEq] at h1
      obtain ⟨rfl, rfl⟩ := h1
      exact ⟨h2, h3⟩
/-! ### The way by beginnings -/
/-! ### The way by the last any -/
/-- the state of the program's way: at, place, and, where there was a any, behind the last one: b and taken -/
def stG (P T : List Nat) (at_ place : Nat) (back : Int) (taken : Nat) : Prop :=
  (back = -1 ∧ taken = 0 ∧ (mtG P T = true ↔ mtG (P.drop at_) (T.drop place) = true)) ∨
  ∃ b : Nat, back = b ∧ b ≤ at_ ∧ taken ≤ place ∧ place - taken = at_ - b ∧ (∀ j, b ≤ j → j < at_ → P[j]? ≠ some 37) ∧
    (mtG P T = true ↔ ∃ j, taken ≤ j ∧ j ≤ T.length ∧ mtG (P.drop b) (T.drop j) = true) ∧ (mtG (P.drop b) (T.drop taken) = true ↔ mtG (P.drop at_) (T.drop place) = true)

theorem seg_at {P : List Nat} {a b i : Nat} (h4 : ∀ j, b ≤ j → j < a → P[j]? ≠ some 37) (h1 : b ≤ b + i) (h2 : b + i < a) (hl : i < (P.drop b).length) : (P.drop b)[i] ≠ 37 := by
  rw [List.getElem_drop]
  intro e
  rw [List.length_drop] at hl
  exact h4 (b + i) h1 h2 (by rw [List.getElem?_eq_getElem (by omega), e])
theorem stG_start (P T : List Nat) : stG P T 0 0 (-1) 0 := .inl ⟨rfl, rfl, by simp⟩
/-- runes without any take as many -/
theorem mtG_seg : ∀ (n : Nat) (p t : List Nat), n ≤ p.length → (∀ j, j < n → ∀ h : j < p.length, p[j] ≠ 37) → mtG p t = true → n ≤ t.length ∧ mtG (p.drop n) (t.drop n) = true
  | 0, p, t, _, _, h => ⟨by omega, h⟩
  | n + 1, [], t, hl, _, _ => by simp at hl
  | n + 1, c :: p, t, hl, hp, h => by
    have hc := hp 0 (by omega) (by simp)
    simp only [List.getElem_cons_zero] at hc
    obtain ⟨x, t', rfl, _, h2⟩ := (mtG_one _ _ hc).1 h
    simp only [List.length_cons] at hl
    obtain ⟨h3, h4⟩ := mtG_seg n p t' (by omega) (fun j hj hjl => by have := hp (j + 1) (by omega) (by simp; omega); simpa using this) h2
    exact ⟨by simp; omega, h4⟩
theorem dropG_at {l : List Nat} {i : Nat} (h : i < l.length) : l.drop i = l[i] :: l.drop (i + 1) := List.drop_eq_getElem_cons h

theorem stG_many {P T : List Nat} {a p k : Nat} {back : Int} (h : stG P T a p back k) (ha : a < P.length) (hp : p ≤ T.length) (hc : P[a] = 37) : stG P T (a + 1) p ((a + 1 : Nat) : Int) p := by
  right
  refine ⟨a + 1, rfl, Nat.le_refl _, Nat.le_refl _, by omega, fun j h1 h2 => by omega, ?_, Iff.rfl⟩
  have key : mtG (P.drop a) (T.drop p) = true ↔ ∃ j, p ≤ j ∧ j ≤ T.length ∧ mtG (P.drop (a + 1)) (T.drop j) = true := by
    rw [dropG_at ha, hc, mtG_many]
    constructor
    · rintro ⟨m, h1, h2⟩
      rw [List.length_drop] at h1
      rw [List.drop_drop] at h2
      exact ⟨p + m, by omega, by omega, h2⟩
    · rintro ⟨j, h1, h2, h3⟩
      exact ⟨j - p, by rw [List.length_drop]; omega, by rw [List.drop_drop, show p + (j - p) = j by omega]; exact h3⟩
  rcases h with ⟨_, _, h⟩ | ⟨b, _, h1, h2, h3, h4, h5, h6⟩
  · rw [h, key]
  · rw [h5]
    constructor
    · rintro ⟨j, h7, h8, h9⟩
      by_cases e : j = k
      · subst e; exact key.1 (h6.1 h9)
      · obtain ⟨g1, g2⟩ := mtG_seg (a - b) (P.drop b) (T.drop j) (by rw [List.length_drop]; omega) (fun i hi hl => by
          exact seg_at h4 (by omega) (by omega) hl) h9
        rw [List.length_drop] at g1
        rw [List.drop_drop, List.drop_drop, Nat.add_sub_cancel' h1] at g2
        rw [dropG_at ha, hc, mtG_many] at g2
        obtain ⟨m, g3, g4⟩ := g2
        rw [List.length_drop] at g3
        rw [List.drop_drop] at g4
        exact ⟨j + (a - b) + m, by omega, by omega, g4⟩
    · intro h7
      exact ⟨k, Nat.le_refl _, by omega, h6.2 (key.2 h7)⟩
theorem stG_one {P T : List Nat} {a p k : Nat} {back : Int} (h : stG P T a p back k) (ha : a < P.length) (hp : p < T.length) (hc : P[a] ≠ 37) (hm : P[a] = 95 ∨ P[a] = T[p]) : stG P T (a + 1) (p + 1) back k := by
  have key : mtG (P.drop a) (T.drop p) = true ↔ mtG (P.drop (a + 1)) (T.drop (p + 1)) = true := by
    rw [dropG_at ha, dropG_at hp, mtG_one _ _ hc]
    constructor
    · rintro ⟨x, t', h1, h2, h3⟩
      simp only [List.cons.injEq] at h1
      obtain ⟨_, rfl⟩ := h1
      exact h3
    · intro h3
      exact ⟨_, _, rfl, hm, h3⟩
  rcases h with ⟨h0, h1, h⟩ | ⟨b, h0, h1, h2, h3, h4, h5, h6⟩
  · exact .inl ⟨h0, h1, h.trans key⟩
  · have e1 : p + 1 - k = a + 1 - b := by clear h5 h6 key; omega
    refine .inr ⟨b, h0, Nat.le_succ_of_le h1, Nat.le_succ_of_le h2, e1, fun j h7 h8 => ?_, h5, h6.trans key⟩
    by_cases e : j = a
    · subst e; rw [List.getElem?_eq_getElem ha]; exact fun h => hc (Option.some.inj h)
    · exact h4 j h7 (by omega)
/-- here they do not match -/
theorem mtG_stop {P T : List Nat} {a p : Nat} (hp : p < T.length) (hno : ∀ h : a < P.length, P[a] ≠ 37 ∧ P[a] ≠ 95 ∧ P[a] ≠ T[p]) : mtG (P.drop a) (T.drop p) = false := by
  rw [Bool.eq_false_iff]
  intro e
  by_cases ha : a < P.length
  · obtain ⟨n1, n2, n3⟩ := hno ha
    rw [dropG_at ha, dropG_at hp, mtG_one _ _ n1] at e
    obtain ⟨x, t', h1, h2, _⟩ := e
    simp only [List.cons.injEq] at h1
    obtain ⟨rfl, _⟩ := h1
    rcases h2 with h2 | h2
    · exact n2 h2
    · exact n3 h2
  · rw [List.drop_eq_nil_of_le (by omega), mtG_nil] at e
    have := congrArg List.length e
    rw [List.length_drop] at this
    simp at this
    omega
theorem stG_back {P T : List Nat} {a p k b : Nat} (h : stG P T a p (b : Int) k) (hp : p < T.length) (hno : mtG (P.drop a) (T.drop p) = false) : stG P T b (k + 1) (b : Int) (k + 1) ∧ b ≤ a ∧ k ≤ p := by
  rcases h with ⟨h0, _, _⟩ | ⟨b', h0, h1, h2, h3, h4, h5, h6⟩
  · omega
  · obtain rfl : b = b' := by omega
    refine ⟨.inr ⟨b, rfl, Nat.le_refl _, Nat.le_refl _, by omega, fun j h7 h8 => by omega, ?_, Iff.rfl⟩, h1, h2⟩
    rw [h5]
    constructor
    · rintro ⟨j, h7, h8, h9⟩
      by_cases e : j = k
      · subst e
        rw [h6, hno] at h9
        cases h9
      · exact ⟨j, by omega, h8, h9⟩
    · rintro ⟨j, h7, h8, h9⟩
      exact ⟨j, by omega, h8, h9⟩
theorem stG_no {P T : List Nat} {a p k : Nat} {back : Int} (h : stG P T a p back k) (hb : back < 0) (hno : mtG (P.drop a) (T.drop p) = false) : mtG P T = false := by
  rcases h with ⟨_, _, h⟩ | ⟨b, h0, _⟩
  · rw [Bool.eq_false_iff]; intro e; rw [h, hno] at e; cases e
  · omega
theorem stG_end {P T : List Nat} {a k : Nat} {back : Int} (h : stG P T a T.length back k) (ha : a ≤ P.length) : mtG P T = mtG (P.drop a) [] := by
  have e0 : T.drop T.length = [] := by simp
  rcases h with ⟨_, _, h⟩ | ⟨b, h0, h1, h2, h3, h4, h5, h6⟩
  · rw [e0] at h
    rw [Bool.eq_iff_iff]; exact h
  · rw [e0] at h6
    rw [Bool.eq_iff_iff, h5]
    constructor
    · rintro ⟨j, h7, h8, h9⟩
      obtain ⟨g1, g2⟩ := mtG_seg (a - b) (P.drop b) (T.drop j) (by rw [List.length_drop]; omega) (fun i hi hl => by
        exact seg_at h4 (by omega) (by omega) hl) h9
      rw [List.length_drop] at g1
      obtain rfl : j = k := by omega
      exact h6.1 h9
    · intro h7
      exact ⟨k, Nat.le_refl _, h2, h6.2 h7⟩
theorem mtG_empty : ∀ p : List Nat, mtG p [] = p.all (fun c => c == 37)
  | [] => rfl
  | c :: p => by
    by_cases hc : c = 37
    · subst hc
      rw [List.all_cons, ← mtG_empty p]
      rw [Bool.eq_iff_iff, mtG_many]
      simp
    · simp [mtG, hc]

/-! ### What is ahead of the first mark -/
end Go.Proofs.Ytnbhgkolfapblaa


namespace Go.Proofs.Ytnbhgkolfapblaa
set_option linter.unusedVariables false
set_option linter.unusedSimpArgs false
set_option maxRecDepth 100000
open Go.RowKit

def bigH (h : Ph) (n : Nat) : Bool := decide (n ≤ 1000 ∧ h.col.length ≤ 1000 ∧ h.pat.length ≤ 1000 ∧ h.val.txt.length ≤ 1000)
mutual
def bigP : Pd → Bool | .mk h ks => bigH h ks.length && bigL ks
def bigL : List Pd → Bool | [] => true | k :: r => bigP k && bigL r
end
theorem bigL_all (l : List Pd) : bigL l = l.all bigP := by
  induction l with
  | nil => rfl
  | cons k r ih => rw [bigL, ih]; rfl
theorem bigP_is (h : Ph) (ks : List Pd) : bigP (.mk h ks) = (bigH h ks.length && ks.all bigP) := by rw [bigP, bigL_all]
theorem bigP_mk {h : Ph} {ks : List Pd} (e : bigP (.mk h ks) = true) : ks.length ≤ 1000 ∧ h.col.length ≤ 1000 ∧ h.pat.length ≤ 1000 ∧ h.val.txt.length ≤ 1000 ∧ ∀ k ∈ ks, bigP k = true := by
  rw [bigP, Bool.and_eq_true, bigL_all] at e
  unfold bigH at e
  have e1 := of_decide_eq_true e.1
  exact ⟨e1.1, e1.2.1, e1.2.2.1, e1.2.2.2, List.all_eq_true.1 e.2⟩
theorem big_of_len (p : Pd) : lenP p = true → bigP p = true := by
  induction p using Pd.ind with
  | h hd ks ih =>
    intro e
    rw [lenP, Bool.and_eq_true, lenL_all] at e
    have e1 := of_decide_eq_true e.1
    rw [bigP_is, Bool.and_eq_true, List.all_eq_true]
    exact ⟨decide_eq_true (by omega), fun k hk => ih k hk (List.all_eq_true.1 e.2 k hk)⟩
end Go.Proofs.Ytnbhgkolfapblaa


namespace Go.Proofs.Ytnbhgkolfapblaa
set_option linter.unusedVariables false
set_option linter.unusedSimpArgs false
set_option maxRecDepth 100000
open Go.RowKit

theorem nani_any (x : Int) (w : World) : Calls Try.prog 82 #[.int .i64 x] w fun e w' => e = .returned (.bool false) ∧ w = w' := by
  have h : (x != x) = false := by simp
  go_enter Try.func82, Try.ntmps82
  go_wp2
  go_ret
  exact ⟨ret_boolE (by simp), rfl⟩
theorem nant_any (x : Tx) (w : World) : Calls Try.prog 84 #[.string ⟨x.toArray⟩] w fun e w' => e = .returned (.bool false) ∧ w = w' := by
  go_enter Try.func84, Try.ntmps84
  go_wp2
  go_ret
  exact ⟨ret_boolE (by simp), rfl⟩

theorem cmpi_any (x y : Int) (w : World) : Calls Try.prog 75 #[.int .i64 x, .int .i64 y] w fun e w' => e = .returned (.int .i64 (cmpI x y)) ∧ w = w' := by
  go_enter Try.func75, Try.ntmps75
  go_wp2_with fail
  refine (nani_any x w).mono ?_
  rintro e w1 ⟨rfl, rfl⟩
  go_wp2_with fail
  refine (nani_any y w).mono ?_
  rintro e w1 ⟨rfl, rfl⟩
  go_wp2
  all_goals
    go_ret
    exact ⟨ret_int (by unfold cmpI; first | (rw [if_pos (by omega)]; done) | (rw [if_neg (by omega), if_pos (by omega)]; done) | (rw [if_neg (by omega), if_neg (by omega)]; done)), rfl⟩

/-- Go's '<' both ways, decided -/
theorem less_lt {x y : Tx} (h : x < y) : Op.bytesLess x y = true := by rw [bless]; simpa using h
theorem less_gt {x y : Tx} (h : y < x) : Op.bytesLess x y = false ∧ (x == y) = false := by
  refine ⟨by rw [bless]; simpa using fun e => List.lt_irrefl x (List.lt_trans e h), beq_eq_false_iff_ne.2 fun e => ?_⟩
  subst e; exact List.lt_irrefl x h
theorem less_self (x : Tx) : Op.bytesLess x x = false := by rw [bless]; simp

theorem cmpt_any (x y : Tx) (w : World) : Calls Try.prog 78 #[.string ⟨x.toArray⟩, .string ⟨y.toArray⟩] w fun e w' => e = .returned (.int .i64 (cmpT x y)) ∧ w = w' := by
  rcases tx_tri x y with hl | hl | hl
  · have h1 := less_lt hl
    have H := Lib.hid (cmpT_lt hl)
    clear hl
    go_enter Try.func78, Try.ntmps78
    go_wp2_with fail
    refine (nant_any x w).mono ?_
    rintro e w1 ⟨rfl, rfl⟩
    go_wp2_with fail
    refine (nant_any y w).mono ?_
    rintro e w1 ⟨rfl, rfl⟩
    go_wp2
    go_ret
    exact ⟨ret_int (by rw [H.out]), rfl⟩
  · subst hl
    have h1 := less_self x
    have H := Lib.hid (cmpT_self x)
    go_enter Try.func78, Try.ntmps78
    go_wp2_with fail
    refine (nant_any x w).mono ?_
    rintro e w1 ⟨rfl, rfl⟩
    go_wp2_with fail
    refine (nant_any x w).mono ?_
    rintro e w1 ⟨rfl, rfl⟩
    go_wp2
    go_ret
    exact ⟨ret_int (by rw [H.out]), rfl⟩
  · obtain ⟨h1, h2⟩ := less_gt hl
    have H := Lib.hid (cmpT_gt hl)
    clear hl
    go_enter Try.func78, Try.ntmps78
    go_wp2_with fail
    refine (nant_any x w).mono ?_
    rintro e w1 ⟨rfl, rfl⟩
    go_wp2_with fail
    refine (nant_any y w).mono ?_
    rintro e w1 ⟨rfl, rfl⟩
    go_wp2
    go_ret
    exact ⟨ret_int (by rw [H.out]), rfl⟩

/-! ### The order -/
def ordC (a b : Cl) : Int := if a.null && !b.null then -1 else if b.null && !a.null then 1 else if a.num = b.num then cmpT a.txt b.txt else cmpI a.num b.num
theorem ordC_null {a b : Cl} (h : a.null = b.null) : ordC a b = if a.num = b.num then cmpT a.txt b.txt else cmpI a.num b.num := by
  unfold ordC
  cases ha : a.null <;> rw [ha] at h <;> simp [← h]
end Go.Proofs.Ytnbhgkolfapblaa


namespace Go.Proofs.Ytnbhgkolfapblaa
set_option linter.unusedVariables false
set_option linter.unusedSimpArgs false
set_option maxRecDepth 100000
open Go.RowKit

/-! ### Assertions -/
theorem as_int_int (W : World) (v : Value) : (Instr.typeAssert (.iface 2 v) 20 2 true).run Try.prog W = .ok (.tuple #[v, .bool true]) W := by kernel_rfl
theorem as_bool_int (W : World) (v : Value) : (Instr.typeAssert (.iface 4 v) 20 2 true).run Try.prog W = .ok (.tuple #[.int .i64 0, .bool false]) W := by kernel_rfl
theorem as_str_int (W : World) (v : Value) : (Instr.typeAssert (.iface 9 v) 20 2 true).run Try.prog W = .ok (.tuple #[.int .i64 0, .bool false]) W := by kernel_rfl
theorem as_bool_bool (W : World) (v : Value) : (Instr.typeAssert (.iface 4 v) 20 4 true).run Try.prog W = .ok (.tuple #[v, .bool true]) W := by kernel_rfl
theorem as_str_bool (W : World) (v : Value) : (Instr.typeAssert (.iface 9 v) 20 4 true).run Try.prog W = .ok (.tuple #[.bool false, .bool false]) W := by kernel_rfl
theorem as_str_str (W : World) (v : Value) : (Instr.typeAssert (.iface 9 v) 20 9 true).run Try.prog W = .ok (.tuple #[v, .bool true]) W := by kernel_rfl
theorem is_int (W : World) (v : Value) : (Instr.typeAssert (.iface 2 v) 20 2 false).run Try.prog W = .ok v W := by kernel_rfl
theorem is_bool (W : World) (v : Value) : (Instr.typeAssert (.iface 4 v) 20 4 false).run Try.prog W = .ok v W := by kernel_rfl
theorem is_str (W : World) (v : Value) : (Instr.typeAssert (.iface 9 v) 20 9 false).run Try.prog W = .ok v W := by kernel_rfl
theorem not_nil (W : World) (u : TypeId) (v : Value) : (binOp .eql 20 (.iface u v) .nilIface).run Try.prog W = .ok (.bool false) W := by kernel_rfl
theorem nil_nil (W : World) : (binOp .eql 20 .nilIface .nilIface).run Try.prog W = .ok (.bool true) W := by kernel_rfl

/-! ### Int, Bool, Text of what they are -/
/-! ### From -/
/-- what any is -/
inductive An where
  | nil
  | int (i : Int)
  | bool (b : Bool)
  | text (t : List UInt8)
def anV : An → Value
  | .nil => .nilIface
  | .int i => .iface 2 (.int .i64 i)
  | .bool b => .iface 4 (.bool b)
  | .text t => .iface 9 (.string ⟨t.toArray⟩)
def bitI (b : Bool) : Int := if b then 1 else 0
/-! ### To -/
def toA (ty : Int) (c : Cl) : An := if c.null then .nil else if ty = 1 then .int c.num else if ty = 2 then .bool (c.num != 0) else if ty = 3 then .text c.txt else .nil
set_option maxHeartbeats 1000000 in
theorem ato_any (ty : Int) (c : Cl) (w : World) : Calls Try.prog 46 #[.int .i64 ty, clV c] w fun e w' => e = .returned (anV (toA ty c)) ∧ Fr Non w w' := by
  obtain ⟨n, i, t⟩ := c
  unfold clV clC
  cases n
  · by_cases h1 : ty = 1
    · subst h1
      go_enter Try.func46, Try.ntmps46
      go_wp2
      go_ret
      exact ⟨rfl, (Fr.refl _ _).alloc _⟩
    · by_cases h2 : ty = 2
      · subst h2
        generalize hb : (i != 0) = b
        have HA : Hid (toA 2 ⟨false, i, t⟩ = .bool b) := Lib.hid (by rw [← hb]; rfl)
        go_enter Try.func46, Try.ntmps46
        go_wp2
        go_ret
        exact ⟨by rw [HA.out]; rfl, (Fr.refl _ _).alloc _⟩
      · by_cases h3 : ty = 3
        · subst h3
          go_enter Try.func46, Try.ntmps46
          go_wp2
          go_ret
          exact ⟨rfl, (Fr.refl _ _).alloc _⟩
        · have HA : Hid (toA ty ⟨false, i, t⟩ = .nil) := Lib.hid (by simp [toA, h1, h2, h3])
          go_enter Try.func46, Try.ntmps46
          go_wp2
          go_ret
          exact ⟨by rw [HA.out]; rfl, (Fr.refl _ _).alloc _⟩
  · go_enter Try.func46, Try.ntmps46
    go_wp2
    go_ret
    exact ⟨rfl, (Fr.refl _ _).alloc _⟩
end Go.Proofs.Ytnbhgkolfapblaa


namespace Go.Proofs.Ytnbhgkolfapblaa
set_option linter.unusedVariables false
set_option linter.unusedSimpArgs false
set_option maxRecDepth 100000
open Go.RowKit

def agrI (op n : Int) : Bool := if op = 1 then n == 0 else if op = 2 then n != 0 else if op = 3 then decide (n < 0) else if op = 4 then decide (n ≤ 0) else if op = 5 then decide (0 < n) else decide (0 ≤ n)
def yesI (b : Bool) : Int := if b then 1 else 0
def notI (t : Int) : Int := if t = 1 then 0 else if t = 0 then 1 else 2
/-- one that decides, if it is there; else the unknown, if it is there; else the other -/
def chnI (s k : Int) (l : List Int) : Int := if s ∈ l then s else if (2 : Int) ∈ l then 2 else k
/-- the row's cell in that column -/
def cellN (cols : List Co) (row : List Cl) (n : Tx) : Cl := match findC cols n with | some k => row.getD k zCl | none => zCl
def cmpR (op : Int) (c v : Cl) : Int := if c.null then 2 else yesI (agrI op (ordC c v))
def likR (c : Cl) (p : Tx) : Int := if c.null then 2 else yesI (matchU p c.txt)
def truH (cols : List Co) (row : List Cl) (h : Ph) (ts : List Int) : Int :=
  if h.op = 2 then cmpR h.cmp (cellN cols row h.col) h.val
  else if h.op = 3 then yesI (cellN cols row h.col).null
  else if h.op = 4 then likR (cellN cols row h.col) h.pat
  else if h.op = 5 then notI (ts.headD 0)
  else if h.op = 6 then chnI 0 1 ts
  else if h.op = 7 then chnI 1 0 ts
  else 1
mutual
def truP (cols : List Co) (row : List Cl) : Pd → Int | .mk h ks => truH cols row h (truL cols row ks)
def truL (cols : List Co) (row : List Cl) : List Pd → List Int | [] => [] | k :: r => truP cols row k :: truL cols row r
end
theorem truL_map (cols : List Co) (row : List Cl) (l : List Pd) : truL cols row l = l.map (truP cols row) := by
  induction l with
  | nil => rfl
  | cons k r ih => rw [truL, ih]; rfl
theorem tru_is (cols : List Co) (row : List Cl) (h : Ph) (ks : List Pd) : truP cols row (.mk h ks) = truH cols row h (ks.map (truP cols row)) := by rw [truP, truL_map]
/-- a truth -/
def Tru (t : Int) : Prop := t = 0 ∨ t = 1 ∨ t = 2
theorem tru_yes (b : Bool) : Tru (yesI b) := by cases b <;> simp [yesI, Tru]
theorem tru_not (t : Int) : Tru (notI t) := by unfold notI Tru; split <;> (try split) <;> simp
theorem tru_chn {s k : Int} (hs : Tru s) (hk : Tru k) (l : List Int) : Tru (chnI s k l) := by
  unfold chnI; split
  · exact hs
  · split
    · exact .inr (.inr rfl)
    · exact hk
theorem tru_cmp (op : Int) (c v : Cl) : Tru (cmpR op c v) := by
  unfold cmpR; split
  · exact .inr (.inr rfl)
  · exact tru_yes _
theorem tru_lik (c : Cl) (p : Tx) : Tru (likR c p) := by
  unfold likR; split
  · exact .inr (.inr rfl)
  · exact tru_yes _
theorem tru_head (cols : List Co) (row : List Cl) (h : Ph) (ts : List Int) : Tru (truH cols row h ts) := by
  unfold truH
  split
  · exact tru_cmp ..
  split
  · exact tru_yes _
  split
  · exact tru_lik ..
  split
  · exact tru_not _
  split
  · exact tru_chn (.inl rfl) (.inr (.inl rfl)) _
  split
  · exact tru_chn (.inr (.inl rfl)) (.inl rfl) _
  · exact .inr (.inl rfl)
theorem tru_one (cols : List Co) (row : List Cl) (p : Pd) : Tru (truP cols row p) := by obtain ⟨h, ks⟩ := p; rw [truP]; exact tru_head ..
/-! ### One by one -/
theorem chn_at {s k : Int} {l : List Int} {j : Nat} (h : j < l.length) (e : l[j] = s) : chnI s k l = s := by
  unfold chnI; rw [if_pos (by rw [← e]; exact List.getElem_mem h)]
/-- so far: the one that decides isn't there, and which it is -/
def ChnTo (s k : Int) (l : List Int) (j : Nat) (is : Int) : Prop := s ∉ l.take j ∧ is = if (2 : Int) ∈ l.take j then 2 else k
theorem chn_start (s k : Int) (l : List Int) : ChnTo s k l 0 k := ⟨by simp, by simp⟩
theorem take_mem {l : List Int} {j : Nat} (h : j < l.length) (x : Int) : x ∈ l.take (j + 1) ↔ x ∈ l.take j ∨ x = l[j] := by
  rw [List.take_add_one, List.getElem?_eq_getElem h, List.mem_append]; simp
theorem chn_more {s k : Int} {l : List Int} {j : Nat} {is : Int} (h : ChnTo s k l j is) (hj : j < l.length) (h1 : l[j] ≠ s) : ChnTo s k l (j + 1) (if l[j] = 2 then 2 else is) := by
  refine ⟨fun e => ?_, ?_⟩
  · rcases (take_mem hj s).1 e with e | e
    · exact h.1 e
    · exact h1 e.symm
  · rw [h.2]
    by_cases h2 : l[j] = 2
    · rw [if_pos h2, if_pos ((take_mem hj 2).2 (.inr h2.symm))]
    · rw [if_neg h2]
      by_cases h3 : (2 : Int) ∈ l.take j
      · rw [if_pos h3, if_pos ((take_mem hj 2).2 (.inl h3))]
      · rw [if_neg h3, if_neg]
        intro e
        rcases (take_mem hj 2).1 e with e | e
        · exact h3 e
        · exact h2 e.symm
theorem chn_end {s k : Int} {l : List Int} {j : Nat} {is : Int} (h : ChnTo s k l j is) (hj : l.length ≤ j) : chnI s k l = is := by
  obtain ⟨h1, h2⟩ := h
  rw [List.take_of_length_le hj] at h1 h2
  unfold chnI
  rw [if_neg h1, h2]
/-! ### What fits, and a row that may be -/
theorem row_at {cols : List Co} {row : List Cl} (h : rowB cols row = true) : cols.length = row.length ∧ ∀ j (h : j < cols.length) (h2 : j < row.length), mayC cols[j].ty cols[j].nl row[j] = true := of_decide_eq_true h
theorem hd_ways {h : Ph} {ks : List Pd} (e : hdOk h ks = true) :
    (h.op = 1 ∧ ks.length = 0 ∧ h.col = []) ∨ ((h.op = 2 ∨ h.op = 3 ∨ h.op = 4) ∧ ks.length = 0 ∧ askOk h = true) ∨ (h.op = 5 ∧ ks.length = 1 ∧ h.col = []) ∨ ((h.op = 6 ∨ h.op = 7) ∧ 1 < ks.length ∧ h.col = []) := by
  have bare : bareH h = true → h.col = [] := fun hb => by
    have := of_decide_eq_true hb
    rw [this]
  unfold hdOk at e
  split at e
  · rename_i h1
    rw [Bool.and_eq_true, decide_eq_true_eq] at e
    exact .inl ⟨h1, e.1, bare e.2⟩
  split at e
  · rename_i h1
    rw [Bool.and_eq_true, decide_eq_true_eq] at e
    exact .inr (.inl ⟨h1, e.1, e.2⟩)
  split at e
  · rename_i h1
    rw [Bool.and_eq_true, decide_eq_true_eq] at e
    exact .inr (.inr (.inl ⟨h1, e.1, bare e.2⟩))
  split at e
  · rename_i h1
    rw [Bool.and_eq_true, Bool.and_eq_true, decide_eq_true_eq] at e
    exact .inr (.inr (.inr ⟨h1, e.1.1, bare e.1.2⟩))
  · cases e
theorem one_kids {h : Ph} {ks : List Pd} (e : oneP (.mk h ks) = true) : hdOk h ks = true ∧ ∀ k ∈ ks, oneP k = true := by
  rw [oneP, Bool.and_eq_true, oneL_all] at e
  exact ⟨e.1, List.all_eq_true.1 e.2⟩
theorem typ_kids {cols : List Co} {h : Ph} {ks : List Pd} (e : typP cols (.mk h ks) = true) : okT cols h = true ∧ ∀ k ∈ ks, typP cols k = true := by
  rw [typP, Bool.and_eq_true, typL_all] at e
  exact ⟨e.1, List.all_eq_true.1 e.2⟩
theorem name_some {n : Tx} (h : nameB n = true) : n ≠ [] := by
  rintro rfl
  revert h
  decide
/-- one that asks of a column: the column is there, of the right type -/
theorem ask_col {cols : List Co} {row : List Cl} {h : Ph} (ho : h.op = 2 ∨ h.op = 3 ∨ h.op = 4) (ha : askOk h = true) (ht : okT cols h = true) (hr : rowB cols row = true) :
    h.col ≠ [] ∧ ∃ (k : Nat) (h1 : k < cols.length) (h2 : k < row.length), findC cols h.col = some k ∧ cellN cols row h.col = row[k] ∧ mayC cols[k].ty cols[k].nl row[k] = true ∧
      (h.op = 2 → cols[k].ty = h.kind ∧ mayC h.kind false h.val = true) ∧ (h.op = 4 → cols[k].ty = 3) := by
  obtain ⟨hl, hm⟩ := row_at hr
  unfold askOk at ha
  rw [Bool.and_eq_true] at ha
  have hne := name_some ha.1
  refine ⟨hne, ?_⟩
  unfold okT at ht
  rw [if_neg hne] at ht
  split at ht
  · cases ht
  · rename_i k hk
    have h1 := find_lt hk
    have h2 : k < row.length := by omega
    rw [List.getElem?_eq_getElem h1] at ht
    dsimp only at ht
    refine ⟨k, h1, h2, hk, ?_, hm k h1 h2, ?_, ?_⟩
    · unfold cellN; rw [hk]; dsimp only; rw [List.getD_eq_getElem?_getD, List.getElem?_eq_getElem h2]; rfl
    · intro e
      rw [if_pos e] at ht
      have ha2 := ha.2
      rw [if_pos e, Bool.and_eq_true, Bool.and_eq_true] at ha2
      exact ⟨by simpa using ht, ha2.1.2⟩
    · intro e
      rw [if_neg (by omega), if_pos e] at ht
      simpa using ht

/-! ### The orders of two values -/
def anO : An → An → Int
  | .int i, .int j => cmpI i j
  | .bool a, .bool b => cmpI (bitI a) (bitI b)
  | .text s, .text t => cmpT s t
  | _, _ => 0
theorem cmpI_self (i : Int) : cmpI i i = 0 := by unfold cmpI; rw [if_neg (by omega), if_neg (by omega)]
theorem bit_one {i : Int} (h : i = 0 ∨ i = 1) : bitI (i != 0) = i := by rcases h with rfl | rfl <;> rfl
/-- of one type, and neither is null: two that stand together, as their cells do -/
inductive AnT : An → An → Prop
  | int (i j : Int) : AnT (.int i) (.int j)
  | bool (a b : Bool) : AnT (.bool a) (.bool b)
  | text (s t : Tx) : AnT (.text s) (.text t)
theorem an_two {ty : Int} {nl ml : Bool} {c v : Cl} (hc : mayC ty nl c = true) (hv : mayC ty ml v = true) (nc : c.null = false) (nv : v.null = false) : AnT (toA ty c) (toA ty v) ∧ anO (toA ty c) (toA ty v) = ordC c v := by
  unfold mayC at hc hv
  unfold toA
  rw [ordC_null (by rw [nc, nv])]
  rw [nc] at hc ⊢
  rw [nv] at hv ⊢
  simp only [Bool.false_eq_true, if_false, Bool.and_eq_true] at hc hv ⊢
  obtain ⟨ht, hc⟩ := hc
  obtain ⟨_, hv⟩ := hv
  unfold isTy at ht
  simp only [Bool.or_eq_true, beq_iff_eq] at ht
  rcases ht with (rfl | rfl) | rfl
  · rw [if_neg (by decide)] at hc hv
    rw [Bool.and_eq_true] at hc hv
    have e1 : c.txt = [] := by simpa using hc.1
    have e2 : v.txt = [] := by simpa using hv.1
    rw [if_pos rfl, if_pos rfl, e1, e2]
    refine ⟨.int _ _, ?_⟩
    show cmpI c.num v.num = _
    split
    · rename_i e; rw [e, cmpI_self, cmpT_self]
    · rfl
  · rw [if_neg (by decide)] at hc hv
    rw [Bool.and_eq_true] at hc hv
    have e1 : c.txt = [] := by simpa using hc.1
    have e2 : v.txt = [] := by simpa using hv.1
    have b1 : c.num = 0 ∨ c.num = 1 := by simpa using hc.2
    have b2 : v.num = 0 ∨ v.num = 1 := by simpa using hv.2
    rw [if_neg (by decide), if_pos rfl, if_neg (by decide), if_pos rfl, e1, e2]
    refine ⟨.bool _ _, ?_⟩
    show cmpI (bitI (c.num != 0)) (bitI (v.num != 0)) = _
    rw [bit_one b1, bit_one b2]
    split
    · rename_i e; rw [e, cmpI_self, cmpT_self]
    · rfl
  · rw [if_pos rfl] at hc hv
    rw [Bool.and_eq_true] at hc hv
    have e1 : c.num = 0 := by simpa using hc.1
    have e2 : v.num = 0 := by simpa using hv.1
    rw [if_neg (by decide), if_neg (by decide), if_pos rfl, if_neg (by decide), if_neg (by decide), if_pos rfl, e1, e2, if_pos rfl]
    exact ⟨.text _ _, rfl⟩
theorem may_null {ty : Int} {c : Cl} (h : mayC ty false c = true) : c.null = false := by
  unfold mayC at h
  cases e : c.null
  · rfl
  · rw [e] at h; simp at h
theorem toA_null {ty : Int} {c : Cl} (h : c.null = true) : toA ty c = .nil := by unfold toA; rw [if_pos h]
theorem mayC_text {nl : Bool} {c : Cl} (h : mayC 3 nl c = true) : c.txt.length ≤ 40 := by
  unfold mayC at h
  cases e : c.null
  · rw [e] at h; simp at h; exact h.2.2
  · rw [e] at h; simp at h
    rw [h.2.2.2]; simp

/-! ### Of a row, of rows -/
def rowE (cols : List Co) (p : Pd) (row : List Cl) : Int × Int := if fitP cols p = 0 then (if rowB cols row = true then (truP cols row p, 0) else (0, 10)) else (0, fitP cols p)
theorem rowE_bad {cols : List Co} {p : Pd} {row : List Cl} (h : fitP cols p ≠ 0) : rowE cols p row = (0, fitP cols p) := by unfold rowE; rw [if_neg h]
theorem rowE_zero {cols : List Co} {p : Pd} {row : List Cl} (h : (rowE cols p row).2 = 0) : (rowE cols p row).1 = truP cols row p := by
  unfold rowE at h ⊢
  split
  · rename_i h1
    rw [if_pos h1] at h
    split
    · rfl
    · rename_i h2; rw [if_neg h2] at h; simp at h
  · rename_i h1
    rw [if_neg h1] at h
    exact absurd h h1
theorem fit_zero {cols : List Co} {p : Pd} (h : fitP cols p = 0) : chkC cols = 0 ∧ oneP p = true ∧ typP cols p = true := by
  unfold fitP at h
  split at h
  · cases h
  · rename_i h1
    split at h
    · rename_i h2
      refine ⟨Classical.byContradiction fun e => h1 (.inr e), ?_, h2⟩
      have hm : mayP p = true := by
        cases e : mayP p
        · exact absurd (.inl e) h1
        · rfl
      unfold mayP at hm
      rw [Bool.and_eq_true] at hm
      exact hm.2
    · cases h

/-! ### Nots -/
theorem not_and {a b : Int} (ha : Tru a) (hb : Tru b) : notI (chnI 0 1 [a, b]) = chnI 1 0 [notI a, notI b] := by
  rcases ha with rfl | rfl | rfl <;> rcases hb with rfl | rfl | rfl <;> decide
theorem not_or {a b : Int} (ha : Tru a) (hb : Tru b) : notI (chnI 1 0 [a, b]) = chnI 0 1 [notI a, notI b] := by
  rcases ha with rfl | rfl | rfl <;> rcases hb with rfl | rfl | rfl <;> decide
end Go.Proofs.Ytnbhgkolfapblaa


namespace Go.Proofs.Ytnbhgkolfapblaa
set_option linter.unusedVariables false
set_option linter.unusedSimpArgs false
set_option maxRecDepth 100000
open Go.RowKit

/-- a rune's cell -/
def ruv (n : Nat) : Value := .int .i32 (n : Int)
theorem ruv_one (n : Nat) : (ruv n).oneCell' = true := rfl
theorem el_rune : El 82 21 (.int .i32 0) 4 := ⟨Try.underlying82, by kernel_rfl, rfl, by decide, by kernel_rfl, fun _ => by kernel_rfl⟩

/-- in block k lies an iterator over the text l, at place p -/
def ItU (w : World) (k : Nat) (l : List UInt8) (p : Nat) : Prop := w.heap[k]? = some (.stringIter ⟨l.toArray⟩ p)
theorem sizeU (l : List UInt8) : ByteArray.size ⟨l.toArray⟩ = l.length := by simp [ByteArray.size]
theorem ItU.new (w : World) (l : List UInt8) : ItU (w.iter ⟨l.toArray⟩ 0) w.heap.size l 0 := World.iter_heap w _ 0
theorem ItU.pos {w : World} {k p : Nat} {l : List UInt8} (h : ItU w k l p) : w.iterPos k = p := by
  unfold ItU at h; simp [World.iterPos, h]
theorem ItU.lt {w : World} {k p : Nat} {l : List UInt8} (h : ItU w k l p) : k < w.heap.size := (Array.getElem?_eq_some_iff.1 h).1
theorem ItU.fr {S : Nat → Prop} {w w' : World} {k p : Nat} {l : List UInt8} (h : ItU w k l p) (hf : Fr S w w') (hn : ¬ S k) : ItU w' k l p := (hf.block k h.lt hn).trans h
theorem fr_iterAt (w : World) (k : Nat) (s : ByteArray) (p : Nat) : Fr (One k) w (w.iterAt k s p) :=
  ⟨rfl, rfl, rfl, by rw [Lib.iterAt_size]; exact Nat.le_refl _, fun j _ hj => Lib.iterAt_other w k j s p hj⟩
/-- a step of the range -/
theorem nextU (wr : World) (k p : Nat) (l : List UInt8) (h : ItU wr k l p) (hp : p < l.length) :
    ∃ W, (∀ ty, (Instr.next (.pointer (some ⟨k, 0, none⟩)) true ty).run Try.prog wr = .ok (.tuple #[.bool true, .int .i64 p, .int .i32 ((dcU (l.drop p)).1 : Int)]) W) ∧
      ItU W k l (p + (dcU (l.drop p)).2) ∧ Fr (One k) wr W := by
  refine ⟨wr.iterAt k ⟨l.toArray⟩ (p + (dcU (l.drop p)).2), fun ty => ?_, Lib.iterAt_heap wr k _ p _ h, fr_iterAt _ _ _ _⟩
  rw [← dcU_at]
  exact Lib.run_next_any_at wr k _ p ty h (by rw [sizeU]; exact hp)
theorem nextU_end (wr : World) (k p : Nat) (l : List UInt8) (h : ItU wr k l p) (hp : ¬ p < l.length) (ty : TypeId) :
    (Instr.next (.pointer (some ⟨k, 0, none⟩)) true ty).run Try.prog wr = .ok (.tuple #[.bool false]) wr :=
  Lib.run_next_end_at wr k _ p ty h (by rw [sizeU]; exact hp)
theorem okU_le {r : Nat} (h : okU r) : r ≤ 1114111 := by unfold okU at h; omega

theorem smU_lt {r : Nat} (h1 : 65 ≤ r) (h2 : r ≤ 90) : smU r = r + 32 := by unfold smU; rw [if_pos ⟨h1, h2⟩]
theorem smU_lo {r : Nat} (h1 : r < 65) : smU r = r := by unfold smU; rw [if_neg (by omega)]
theorem smU_hi {r : Nat} (h1 : 90 < r) : smU r = r := by unfold smU; rw [if_neg (by omega)]

theorem gsmall_any (r : Nat) (w : World) (hr : r ≤ 1114111) : Calls Try.prog 86 #[.int .i32 r] w fun e w' => e = .returned (.int .i32 (smU r : Nat)) ∧ w = w' := by
  by_cases h1 : 65 ≤ r
  · by_cases h2 : r ≤ 90
    · have H := Lib.hid (smU_lt h1 h2)
      have hb1 : decide ((65 : Int) ≤ (r : Int)) = true := by simp; omega
      have hb2 : decide ((r : Int) ≤ 90) = true := by simp; omega
      have hw1 : IntKind.i32.wrap ((r : Int) - 65) = (r : Int) - 65 := by simp [IntKind.wrap, IntKind.bits, IntKind.signed]; omega
      have hw2 : IntKind.i32.wrap ((r : Int) - 65 + 97) = ((r + 32 : Nat) : Int) := by simp [IntKind.wrap, IntKind.bits, IntKind.signed]; omega
      clear h1 h2
      go_enter Try.func86, Try.ntmps86
      go_wp2
      go_ret
      exact ⟨ret_int (by rw [H.out]; push_cast; omega), rfl⟩
    · have H := Lib.hid (smU_hi (r := r) (by omega))
      have hb1 : decide ((65 : Int) ≤ (r : Int)) = true := by simp; omega
      have hb2 : decide ((r : Int) ≤ 90) = false := by simp; omega
      clear h1 h2
      go_enter Try.func86, Try.ntmps86
      go_wp2
      go_ret
      exact ⟨ret_int (by rw [H.out]), rfl⟩
  · have H := Lib.hid (smU_lo (r := r) (by omega))
    have hb1 : decide ((65 : Int) ≤ (r : Int)) = false := by simp; omega
    clear h1
    go_enter Try.func86, Try.ntmps86
    go_wp2
    go_ret
    exact ⟨ret_int (by rw [H.out]), rfl⟩

/-- so many runes are folded -/
def fdU (l : List UInt8) (k : Nat) (d : List Nat) : Prop := foldU l = d ++ (runesU (l.drop k)).map smU ∧ d.length ≤ k
theorem fdU_zero (l : List UInt8) : fdU l 0 [] := ⟨by simp [foldU], by simp⟩
theorem fdU_more {l : List UInt8} {k : Nat} {d : List Nat} (h : fdU l k d) (hk : k < l.length) : fdU l (k + (dcU (l.drop k)).2) (d ++ [smU (dcU (l.drop k)).1]) ∧ 1 ≤ (dcU (l.drop k)).2 ∧ k + (dcU (l.drop k)).2 ≤ l.length ∧ okU (dcU (l.drop k)).1 := by
  have hne : l.drop k ≠ [] := by intro e; have := congrArg List.length e; simp at this; omega
  have hw := dcU_w hne
  rw [List.length_drop] at hw
  refine ⟨⟨?_, ?_⟩, hw.1, by omega, dcU_ok _⟩
  · rw [h.1, runesU_drop hk]; simp
  · have := h.2; rw [List.length_append]; simp; omega
theorem fdU_end {l : List UInt8} {k : Nat} {d : List Nat} (h : fdU l k d) (hk : ¬ k < l.length) : d = foldU l := by rw [h.1, runesU_end hk]; simp

set_option maxHeartbeats 1000000 in
theorem gfold_any (l : List UInt8) (w : World) (hl : l.length ≤ 1000000000) : Calls Try.prog 80 #[.string ⟨l.toArray⟩] w fun e w' => ∃ u, e = .returned u ∧ Ow ruv 21 w' w.heap.size u (foldU l) ∧ Fr Non w w' := by
  go_enter Try.func80, Try.ntmps80
  go_wp2
  go_loopw [3] (fun v wr => ∃ k d, k ≤ l.length ∧ ItU wr w.heap.size l k ∧ Ow ruv 21 wr (w.heap.size + 1) v d ∧ Fr Non w wr ∧ Hid (fdU l k d)) (fun _ wr => l.length - wr.iterPos w.heap.size)
  case atStart => exact ⟨0, [], by omega, ItU.new w l, ow_nil _ _, (Fr.refl _ _).alloc _, Lib.hid (fdU_zero l)⟩
  case round =>
    obtain ⟨k, d, hk, hit, hown, hfr, hd⟩ := hrel
    have hp0 := hit.pos
    by_cases hlt : k < l.length
    · obtain ⟨hm, hw1, hw2, hok⟩ := fdU_more hd.out hlt
      obtain ⟨W, hnx, hitW, hfW⟩ := nextU wr w.heap.size k l hit hlt
      have HSm := Lib.hid (fun V => gsmall_any (dcU (l.drop k)).1 V (okU_le hok))
      have hownW := hown.fr hfW (fun q hq e => by have := (hown.lt q hq).1; have : q = w.heap.size := e; omega)
      have hfrW := hfr.fresh hfW (fun q e => by have : q = w.heap.size := e; omega)
      have hdl := hd.out.2
      have HM := Lib.hid hm
      clear hd hit hown hfr hfW hok hm
      generalize (dcU (l.drop k)).1 = r at *
      generalize hq : k + (dcU (l.drop k)).2 = q at *
      have hkq : k < q := by omega
      clear hq hw1
      go_wp2_with fail
      refine (HSm.out _).mono ?_
      rintro e w1 ⟨rfl, rfl⟩
      clear HSm
      have hB := hitW.lt
      go_wp2_with (at_builtin; refine wpList_pushG el_rune ruv_one rfl (.tmp 11) (.tmp 14) rfl (w.heap.size + 1) _ d rfl hownW _ (smU r) rfl rfl (by omega) (by omega) ?_; intro v5 w5 hown5 hf5)
      have hit5 := hitW.fr hf5 (fun e => by have := (hownW.lt _ e).1; omega)
      have hfr5 := hfrW.fresh hf5 (fun q hq => by have := (hownW.lt q hq).1; omega)
      go_roundw
      case rel => exact ⟨q, _, hw2, hit5, hown5, hfr5, HM⟩
      case measure => rw [hp0, hit5.pos]; omega
    · have hnx := fun ty => nextU_end wr w.heap.size k l hit hlt ty
      have HE := Lib.hid (fdU_end hd.out hlt)
      clear hd
      go_wp2
      go_ret
      exact ⟨_, rfl, by rw [← HE.out]; exact hown.mono (by omega), hfr⟩

end Go.Proofs.Ytnbhgkolfapblaa


namespace Go.Proofs.Ytnbhgkolfapblaa
set_option linter.unusedVariables false
set_option linter.unusedSimpArgs false
set_option maxRecDepth 100000
open Go.RowKit

theorem empty_any (v : Value) (p : List Nat) (w : World) (hv : Vs ruv w v p) (hl : p.length ≤ 1000000000) : Calls Try.prog 85 #[v] w fun e w' => e = .returned (.bool (mtG p [])) ∧ w = w' := by
  rw [mtG_empty]
  obtain ⟨A, c, rfl, hlc, hn, hcell⟩ := hv
  have HC := Lib.hid hcell
  have HN := Lib.hid hn
  clear hcell hn
  go_enter Try.func85, Try.ntmps85
  go_wp2
  go_loop [7] (fun i => ∃ k : Nat, k ≤ p.length ∧ i = .int .i64 k ∧ Hid (∀ j (hj : j < p.length), j < k → p[j] = 37)) (fun i => p.length - (intOf i).toNat)
  case atStart => exact ⟨0, by omega, rfl, Lib.hid (fun _ _ h => by omega)⟩
  case round =>
    obtain ⟨k, hk, rfl, hok⟩ := hrel
    by_cases hlt : k < p.length
    · cases A with
      | none => have := HN.out rfl; omega
      | some a =>
        have hce := HC.out a rfl k hlt
        unfold ruv at hce
        by_cases h : p[k] = 37
        · have HM : Hid (∀ j (hj : j < p.length), j < k + 1 → p[j] = 37) := Lib.hid (fun j hj hlt2 => by
            by_cases e : j = k
            · subst e; exact h
            · exact hok.out j hj (by omega))
          have hb : ((p[k] : Nat) : Int) = 37 := by omega
          rw [hb] at hce
          clear h hb hok
          go_wp2
          go_roundw
          case rel => exact ⟨k + 1, by omega, by go_num, HM⟩
          case measure => simp [intOf]; omega
        · have HX : Hid (p.all (fun c => c == 37) = false) := Lib.hid (by
            rw [Bool.eq_false_iff]; intro e
            exact h (by simpa using List.all_eq_true.1 e _ (List.getElem_mem hlt)))
          have hb : (((p[k] : Nat) : Int) == 37) = false := by rw [beq_eq_false_iff_ne]; omega
          clear h hok
          generalize p[k] = x at *
          go_wp2
          go_ret
          exact ⟨ret_boolE HX.out.symm, rfl⟩
    · have HX : Hid (p.all (fun c => c == 37) = true) := Lib.hid (by
        rw [List.all_eq_true]; intro x hx
        obtain ⟨j, hj, rfl⟩ := List.mem_iff_getElem.1 hx
        simpa using hok.out j hj (by omega))
      clear hok
      go_wp2
      go_ret
      exact ⟨ret_boolE HX.out.symm, rfl⟩

end Go.Proofs.Ytnbhgkolfapblaa
