/-
  Joined: Words of our own on memory, for all texts of this seat: what changed between two worlds (Fr), a known block (Blk), bytes that a slice reads as (Bs), bytes in a row of the call's own (Own), and the steps append and convert over them. · Slices of slices of bytes that the call owns (Owns), and the steps that append one slice, or one value of one cell, to a row of the call's own. · Slices of one-celled elements of any type: what one reads as (Vs), a row of the call's own (Ow), and the steps over them: append of one, append of many, make, copy, cuts. · The frame of a law's proof, for any parameters: where the call returned true and turned nothing that was there, the row's words hold. · Slices of structs of k one-celled fields, of any type: what one reads as (Ns), a row of the call's own (No), and the steps over them: made, stored into, append of one, append of many, opened. · Texts as plain lists of bytes: Go's '<' on them, and an order in three ways. Nothing of the program. · Names: which texts may be one; nothing of the program. · Layer 1 as plain functions on lists of bytes: what a number's bytes are (the library's 'uvarint'), which number bytes begin with (rd), and that each is the other's back. Nothing of the program. · Layer 1, what is written, texts: contracts of join and Text, the program's own and the document's. · Layer 1, what is read: contracts of Source's methods. · Layer 1, what is read: contracts of Source's methods. · Layer 9: a cell as a value; which cells there may be, both programs'. · Numbers in digits: what digits are of, read again; the texts that are some number's. And a text with each quote twice, or each two quotes once, by the library's replacing. Nothing of the program. · The runes of a text, as a range over it tells them: of lists of bytes; where texts are put together with a letter below 128 between; the bytes of runes, and that they are read again. · The tokens of a text: of lists of bytes; what a rune at a text's head tells of its first byte. Nothing of the program. · Predicates: trees; which there may be, by one count and by another; which fit columns; their columns, their texts. Nothing of the program. · Predicates' texts: how long they may be; numbers within int64. Nothing of the program. · Queries: which there may be, which fit which columns, what their answers are called, which columns they need, their text; nothing of the program. · Queries read of tokens: what a right text of the grammar is, and the place of the first token at which none goes on. Nothing of the program.
-/
import Derived.Deep.Slices
import Derived.Laws.StructEq
import Derived.Laws.Rows
import Derived.Laws.ResultCell
import Derived.Lib.Zigzag
import Derived.Laws.Cover1
import Derived.Deep.QuietTactic
import Derived.BigQuiet
import Derived.Deep.RegionHeld3
import Derived.Deep.DrawnRows
import Derived.Test.YtipgaafgnefmdaaGreatDoorProg
import Derived.WalkKit
import Derived.WalkSpells
import Derived.Deep.AppendSrc
import Derived.Maps.AppendAt
import Derived.Lib.Hide
import Derived.Deep.Draws
import Derived.Lib.AppendStr
import Derived.Laws.CopyOwn
import Derived.Laws.OwnMore
import Derived.Test.YtipgaafgnefmdaaGreatDoorRows
import Derived.ProofKit
import Derived.OpenShut
import Derived.ShutString
import Derived.ChangeOld
import Derived.Below
import Derived.BigFrame
import Derived.Lib.Varint
import Derived.Lib.ItoaLen
import Derived.Lib.ItoaMem
import Derived.Lib.ParseIntBCases
import Derived.Lib.ParseIntBTie
import Derived.Lib.Replace
import Derived.Lib.CountLaws
import Derived.Lib.DecodeN
import Derived.Laws.RangeAny
import Derived.Laws.Cover4
import Derived.Lib.Join

namespace Go.Proofs.YtipgaafgnefmdaaGreatDoor
set_option linter.unusedVariables false
set_option linter.unusedSimpArgs false
set_option maxRecDepth 100000
open Go.RowKit

/-! ### What changed: of the blocks that were there, at most those of S -/
structure Fr (S : Nat → Prop) (w w' : World) : Prop where
  os : w'.os = w.os
  tape : w'.tape = w.tape
  output : w'.output = w.output
  size : w.heap.size ≤ w'.heap.size
  block : ∀ k, k < w.heap.size → ¬ S k → w'.heap[k]? = w.heap[k]?

/-- nothing -/
def Non : Nat → Prop := fun _ => False
/-- one block -/
def One (g : Nat) : Nat → Prop := fun k => k = g

theorem Fr.refl (S : Nat → Prop) (w : World) : Fr S w w := ⟨rfl, rfl, rfl, Nat.le_refl _, fun _ _ _ => rfl⟩
theorem Fr.join {S S' : Nat → Prop} {w w1 w2 : World} (h : Fr S w w1) (h' : Fr S' w1 w2) (hs : ∀ k, k < w.heap.size → S' k → S k) : Fr S w w2 :=
  ⟨h'.os.trans h.os, h'.tape.trans h.tape, h'.output.trans h.output, Nat.le_trans h.size h'.size,
    fun k hk hn => (h'.block k (Nat.lt_of_lt_of_le hk h.size) (fun e => hn (hs k hk e))).trans (h.block k hk hn)⟩
theorem Fr.trans {S : Nat → Prop} {w w1 w2 : World} (h : Fr S w w1) (h' : Fr S w1 w2) : Fr S w w2 := h.join h' fun _ _ e => e
theorem Fr.then {S : Nat → Prop} {w w1 w2 : World} (h : Fr S w w1) (h' : Fr Non w1 w2) : Fr S w w2 := h.join h' fun _ _ e => e.elim
theorem Fr.mono {S S' : Nat → Prop} {w w' : World} (h : Fr S w w') (hs : ∀ k, k < w.heap.size → S k → S' k) : Fr S' w w' :=
  ⟨h.os, h.tape, h.output, h.size, fun k hk hn => h.block k hk fun e => hn (hs k hk e)⟩
theorem Fr.any {S : Nat → Prop} {w w' : World} (h : Fr Non w w') : Fr S w w' := h.mono fun _ _ e => e.elim
theorem Fr.fresh {S S' : Nat → Prop} {w w1 w2 : World} (h : Fr S w w1) (h' : Fr S' w1 w2) (hs : ∀ k, S' k → w.heap.size ≤ k) : Fr S w w2 :=
  h.join h' fun k hk e => absurd (hs k e) (by omega)
theorem Fr.drew {S : Nat → Prop} {w w' : World} (h : Fr S w w') : Fr S w w'.drew := ⟨h.os, h.tape, h.output, h.size, h.block⟩
theorem Fr.drewN {S : Nat → Prop} {w w' : World} (h : Fr S w w') (n : Nat) : Fr S w (w'.drewN n) := ⟨h.os, h.tape, h.output, h.size, h.block⟩
theorem Fr.alloc {S : Nat → Prop} {w w' : World} (h : Fr S w w') (o : Obj) : Fr S w (w'.alloc o) :=
  h.then ⟨rfl, rfl, rfl, by simp, fun k hk _ => Below.heap_alloc _ _ _ hk⟩
theorem Fr.setCell {S : Nat → Prop} {w w' : World} (h : Fr S w w') {p : Addr} (hp : p.block < w.heap.size → S p.block) (u : Value) : Fr S w (w'.setCell p u) :=
  ⟨h.os, h.tape, h.output, by simpa [World.setCell] using h.size, fun k hk hn => (Below.heap_setCell w' p u k (fun e => hn (by subst e; exact hp hk))).trans (h.block k hk hn)⟩
theorem Fr.set1 {g : Nat} {w w' : World} (h : Fr (One g) w w') (i : Nat) (u : Value) : Fr (One g) w (w'.setCell ⟨g, i, none⟩ u) := h.setCell (p := ⟨g, i, none⟩) (fun _ => rfl) u
theorem Fr.of_below {w w' : World} (h : Below w.heap.size w w') : Fr Non w w' := ⟨h.os, h.tape, h.output, h.size, fun k hk _ => h.block k hk⟩
theorem Fr.below {w w' : World} (h : Fr Non w w') : Below w.heap.size w w' := ⟨h.os, h.tape, h.output, h.size, fun k hk => h.block k hk fun e => e⟩
theorem Fr.of_grown {w w' : World} {row : Option Nat} (h : w.grownBy w' row) : Fr (fun k => row = some k) w w' :=
  ⟨h.os, h.tape, h.output, h.size, fun k hk hn => h.block k hk (fun e => hn e.symm)⟩
theorem Fr.cell {S : Nat → Prop} {w w' : World} (h : Fr S w w') {p : Addr} (hp : p.block < w.heap.size) (hn : ¬ S p.block) : w'.cell? p = w.cell? p := World.cell?_of_block (h.block _ hp hn)

theorem ret_boolE {a b : Bool} (h : a = b) : Ending.returned (.bool a) = .returned (.bool b) := by rw [h]
theorem ret_int {k : IntKind} {a b : Int} (h : a = b) : Ending.returned (.int k a) = .returned (.int k b) := by rw [h]

/-! ### A block that is known whole -/
def Blk (w : World) (g : Nat) (t : TypeId) (cs : Array Value) : Prop := w.heap[g]? = some (.cells cs t (0, 0))
theorem Blk.lt {w : World} {g : Nat} {t : TypeId} {cs : Array Value} (h : Blk w g t cs) : g < w.heap.size := (Array.getElem?_eq_some_iff.1 h).1
theorem Blk.cell {w : World} {g : Nat} {t : TypeId} {cs : Array Value} (h : Blk w g t cs) (i : Nat) : w.cell? ⟨g, i, none⟩ = cs[i]? := cell_of_row w g i cs t (0, 0) h
theorem Blk.frozen {w : World} {g : Nat} {t : TypeId} {cs : Array Value} (h : Blk w g t cs) (i : Nat) : w.frozen? ⟨g, i, none⟩ = false := by
  unfold Blk at h; simp [World.frozen?, h]
theorem Blk.new (w : World) (t : TypeId) (cs : Array Value) : Blk (w.alloc (.cells cs t)) w.heap.size t cs := heap_alloc_new w _
theorem Blk.fr {S : Nat → Prop} {w w' : World} {g : Nat} {t : TypeId} {cs : Array Value} (h : Blk w g t cs) (hf : Fr S w w') (hn : ¬ S g) : Blk w' g t cs := (hf.block g h.lt hn).trans h
theorem Blk.set {w : World} {g : Nat} {t : TypeId} {cs : Array Value} (h : Blk w g t cs) (i : Nat) (u : Value) : Blk (w.setCell ⟨g, i, none⟩ u) g t (cs.setIfInBounds i u) := by
  unfold Blk at h ⊢; simp [World.setCell, Array.getElem?_modify, h]
theorem Blk.drew {w : World} {g : Nat} {t : TypeId} {cs : Array Value} (h : Blk w g t cs) : Blk w.drew g t cs := h
theorem cell_new1 (w : World) (v : Value) (t : TypeId) : (w.alloc (.cells #[v] t)).cell? ⟨w.heap.size, 0, none⟩ = some v := (Blk.new w t #[v]).cell 0

/-! ### Bytes -/
def bv (b : UInt8) : Value := .int .u8 b.toNat
theorem add_block (a : Addr) (n : Nat) : (a.add n).block = a.block := by unfold Addr.add; split <;> rfl
theorem add_add (a : Addr) (i j : Nat) : (a.add i).add j = a.add (i + j) := by
  unfold Addr.add
  by_cases hi : i = 0 <;> by_cases hj : j = 0 <;> simp [hi, hj, Nat.add_assoc]

/-- the slice v reads as the bytes l -/
def Bs (w : World) (v : Value) (l : List UInt8) : Prop :=
  ∃ A c, v = .slice A l.length c ∧ l.length ≤ c ∧ (A = none → c = 0) ∧ ∀ a, A = some a → ∀ j (h : j < l.length), w.cell? (a.add j) = some (bv l[j])

theorem Bs.nil_ (w : World) : Bs w (.slice none 0 0) [] := ⟨none, 0, rfl, Nat.le_refl _, fun _ => rfl, fun _ h => by cases h⟩
theorem Bs.keep {w w' : World} {v : Value} {l : List UInt8} (h : Bs w v l) (hk : ∀ k, v.ownBlock = some k → k < w.heap.size → w'.heap[k]? = w.heap[k]?) : Bs w' v l := by
  obtain ⟨A, c, rfl, h1, h2, h3⟩ := h
  refine ⟨A, c, rfl, h1, h2, fun a ha j hj => ?_⟩
  have := h3 a ha j hj
  subst ha
  have hb := World.block_lt_of_cell? w _ this
  rw [add_block] at hb
  rw [← this]
  exact World.cell?_of_block (by rw [add_block]; exact hk _ rfl hb)
theorem Bs.fr {S : Nat → Prop} {w w' : World} {v : Value} {l : List UInt8} (h : Bs w v l) (hf : Fr S w w') (hn : ∀ k, v.ownBlock = some k → ¬ S k) : Bs w' v l :=
  h.keep fun k hk hlt => hf.block k hlt (hn k hk)
theorem Bs.non {w w' : World} {v : Value} {l : List UInt8} (h : Bs w v l) (hf : Fr Non w w') : Bs w' v l := h.fr hf fun _ _ e => e
theorem Bs.drew {w : World} {v : Value} {l : List UInt8} (h : Bs w v l) : Bs w.drew v l := h
theorem Bs.shape {w : World} {v : Value} {l : List UInt8} (h : Bs w v l) : ∃ A c, v = .slice A l.length c := by
  obtain ⟨A, c, rfl, _⟩ := h; exact ⟨A, c, rfl⟩

theorem run_conv_Bs {P : Program} {w : World} {v : Value} {l : List UInt8} (h : Bs w v l) (src dst e : TypeId) (hs : P.underlying src = some (.slice e)) (he : P.underlying e = some (.int .u8)) (hd : P.underlying dst = some .string) :
    (convert src dst v).run P w = .ok (.string ⟨l.toArray⟩) w := by
  obtain ⟨A, c, rfl, hlc, hn, hc⟩ := h
  cases A with
  | none =>
    have := hn rfl
    have hl : l = [] := List.eq_nil_of_length_eq_zero (by omega)
    subst hl
    rw [run_convert_bytes_nil w src e hs he _ _ dst hd]; rfl
  | some a => exact run_convert_bytes_back w src dst e a c l hs he hd (hc a rfl)

/-- bytes that the call owns: a row of its own, from block B on -/
def Own (w : World) (B : Nat) (v : Value) (l : List UInt8) : Prop := w.ownsRow B 5 1 v l.length (l.map bv)
theorem Own.lt {w : World} {B : Nat} {v : Value} {l : List UInt8} (h : Own w B v l) : ∀ k, v.ownBlock = some k → B ≤ k ∧ k < w.heap.size := World.ownsRow.lt h
theorem Own.bs {w : World} {B : Nat} {v : Value} {l : List UInt8} (h : Own w B v l) : Bs w v l := by
  rcases h.2 with ⟨rfl, h0⟩ | ⟨g, cap, cur, rfl, _, _, hle, _, _, _⟩
  · have hl : l = [] := List.eq_nil_of_length_eq_zero h0
    subst hl; exact Bs.nil_ w
  · refine ⟨_, cap, rfl, hle, (fun h => by cases h), fun a ha j hj => ?_⟩
    cases ha
    exact World.ownsRow.cells h (g := g) rfl j _ (by simp [hj])
theorem Own.keep {w w' : World} {B : Nat} {v : Value} {l : List UInt8} (h : Own w B v l) (hk : ∀ k, v.ownBlock = some k → w'.heap[k]? = w.heap[k]?) : Own w' B v l := by
  refine ⟨h.1, ?_⟩
  rcases h.2 with h2 | ⟨g, cap, cur, hv, hb, hg, r⟩
  · exact .inl h2
  · exact .inr ⟨g, cap, cur, hv, hb, by rw [hk g (by rw [hv]; rfl)]; exact hg, r⟩
theorem Own.fr {S : Nat → Prop} {w w' : World} {B : Nat} {v : Value} {l : List UInt8} (h : Own w B v l) (hf : Fr S w w') (hn : ∀ k, v.ownBlock = some k → ¬ S k) : Own w' B v l :=
  h.keep fun k hk => hf.block k (h.lt k hk).2 (hn k hk)
theorem Own.non {w w' : World} {B : Nat} {v : Value} {l : List UInt8} (h : Own w B v l) (hf : Fr Non w w') : Own w' B v l := h.fr hf fun _ _ e => e
theorem Own.alloc {w : World} {B : Nat} {v : Value} {l : List UInt8} (h : Own w B v l) (o : Obj) : Own (w.alloc o) B v l := h.non ((Fr.refl _ _).alloc o)
theorem Own.mono {w : World} {B B' : Nat} {v : Value} {l : List UInt8} (h : Own w B v l) (hB : B' ≤ B) : Own w B' v l := by
  refine ⟨h.1, ?_⟩
  rcases h.2 with h2 | ⟨g, cap, cur, hv, hb, r⟩
  · exact .inl h2
  · exact .inr ⟨g, cap, cur, hv, by omega, r⟩

theorem Own.row {w : World} {B : Nat} {v : Value} {l : List UInt8} (h : Own w B v l) (hn : l ≠ []) : ∃ g cap, v = .slice (some ⟨g, 0, none⟩) l.length cap ∧ B ≤ g ∧ g < w.heap.size ∧ l.length ≤ cap ∧ cap ≤ maxLen := by
  rcases h.2 with ⟨rfl, h0⟩ | ⟨g, cap, cur, rfl, hb, hg, hle, hm, _⟩
  · exact absurd (List.eq_nil_of_length_eq_zero h0) hn
  · exact ⟨g, cap, rfl, hb, (Array.getElem?_eq_some_iff.1 hg).1, hle, hm⟩
theorem Own.cell {w : World} {B g n cap : Nat} {l : List UInt8} (h : Own w B (.slice (some ⟨g, 0, none⟩) n cap) l) (hn : n = l.length) (j : Nat) (b : UInt8) (hb : l[j]? = some b) : w.cell? ⟨g, j, none⟩ = some (.int .u8 b.toNat) := by
  subst hn
  have hj : j < l.length := (List.getElem?_eq_some_iff.1 hb).1
  rw [World.ownsRow.cellAt h j (by omega), List.getElem?_map, hb]; rfl
theorem Own.frozen {w : World} {B g n cap : Nat} {l : List UInt8} (h : Own w B (.slice (some ⟨g, 0, none⟩) n cap) l) (hn : n = l.length) (j : Nat) : w.frozen? ⟨g, j, none⟩ = false := by
  subst hn; exact World.ownsRow.frozenAt h j
theorem Own.drew {w : World} {B : Nat} {v : Value} {l : List UInt8} (h : Own w B v l) : Own w.drew B v l := h

/-- bytes laid in a new block -/
theorem bs_row (w : World) (l : List UInt8) : Bs (w.alloc (.cells (l.map bv).toArray 5)) (.slice (some ⟨w.heap.size, 0, none⟩) l.length l.length) l := by
  refine ⟨_, _, rfl, Nat.le_refl _, (fun h => by cases h), fun a ha j hj => ?_⟩
  cases ha
  rw [Addr.add_lit, Nat.zero_add, (Blk.new w 5 (l.map bv).toArray).cell j]
  simp [hj]

/-! ### A slice of slices of bytes -/
def Bss (w : World) (v : Value) (ls : List (List UInt8)) : Prop :=
  ∃ A c, v = .slice A ls.length c ∧ ls.length ≤ c ∧ (A = none → c = 0) ∧ ∀ a, A = some a → ∀ j (h : j < ls.length), ∃ u, w.cell? (a.add j) = some u ∧ Bs w u ls[j]
theorem Bss.non {w w' : World} {v : Value} {ls : List (List UInt8)} (h : Bss w v ls) (hf : Fr Non w w') : Bss w' v ls := by
  obtain ⟨A, c, rfl, h1, h2, h3⟩ := h
  refine ⟨A, c, rfl, h1, h2, fun a ha j hj => ?_⟩
  obtain ⟨u, hu, hb⟩ := h3 a ha j hj
  exact ⟨u, by rw [← hu]; exact hf.cell (World.block_lt_of_cell? w _ hu) (fun e => e), hb.non hf⟩
/-! ### Pieces of a slice of bytes -/
end Go.Proofs.YtipgaafgnefmdaaGreatDoor


namespace Go.Proofs.YtipgaafgnefmdaaGreatDoor
set_option linter.unusedVariables false
set_option linter.unusedSimpArgs false
set_option maxRecDepth 100000
open Go.RowKit

/-- append of one value of one cell, which was stored in a new block first -/
theorem run_pushv (T E ty : TypeId) (z : Value) (by_ : Nat) (hT : Tryz.prog.underlying T = some (.slice E)) (hinfo : (Tryz.prog.info? E).map (fun i => (i.zero, i.size, i.bytes)) = some (some z, 1, by_)) (hz : z.cells.size = 1)
    (w0 : World) (B : Nat) (v u : Value) (xs : List Value) (hown : w0.ownsRow B E 1 v xs.length xs) (h1 : u.oneCell' = true) (hl : (xs.length + 1) * by_ ≤ 140737488355328) (hm : xs.length + 1 ≤ maxLen) (hB : B ≤ w0.heap.size) (g : Nat) (hg : g = w0.heap.size) :
    ∃ v' w', (Builtin.append_ #[T, T] ty #[v, .slice (some ⟨g, 0, none⟩) 1 1]).run Tryz.prog (w0.alloc (.cells #[u] E)) = .ok v' w' ∧ w'.ownsRow B E 1 v' (xs ++ [u]).length (xs ++ [u]) ∧ Fr (fun k => v.ownBlock = some k) w0 w' := by
  subst hg
  obtain ⟨i, hi, hz0, hz1, hz2⟩ := info_parts hinfo
  have ho : (w0.alloc (.cells #[u] E)).ownsRow B E 1 v xs.length xs := by
    refine ⟨hown.1, ?_⟩
    rcases hown.2 with h2 | ⟨g, cap, cur, hv, hb, hg, r⟩
    · exact .inl h2
    · exact .inr ⟨g, cap, cur, hv, hb, by rw [Below.heap_alloc _ _ _ (Array.getElem?_eq_some_iff.1 hg).1]; exact hg, r⟩
  obtain ⟨v', w', hr, h2, h3, h4⟩ := run_append_own (P := Tryz.prog) (w0.alloc (.cells #[u] E)) B T ty E i z 1 by_ hT hi hz0 hz1 hz2 hz (by omega) v xs.length xs ho ⟨w0.heap.size, 0, none⟩ 1 1 [u] rfl
    (fun j x hj => by
      cases j with
      | zero =>
        obtain rfl : u = x := by simpa using hj
        exact cell_new1 _ _ _
      | succ j => simp at hj)
    (fun x hx => by obtain rfl : x = u := by simpa using hx
                    exact h1) hm hl (by simp; omega)
  refine ⟨v', w', hr, by simpa using h2, ?_⟩
  exact ((Fr.refl _ _).alloc _).join (Fr.of_grown h3) fun k hk e => e.symm ▸ rfl

/-- a slice of slices of bytes that the call owns, row and all -/
def Owns (w : World) (B : Nat) (v : Value) (ls : List (List UInt8)) : Prop :=
  ∃ vs : List Value, w.ownsRow B 116 1 v vs.length vs ∧ vs.length = ls.length ∧ ∀ (i : Nat) (u : Value) (l : List UInt8), vs[i]? = some u → ls[i]? = some l → Own w B u l

theorem Own.kind {w : World} {B : Nat} {u : Value} {l : List UInt8} (h : Own w B u l) : ∀ k, u.ownBlock = some k → ∃ cur, w.heap[k]? = some (.cells cur 5 (0, 0)) := by
  intro k hk
  rcases h.2 with ⟨rfl, _⟩ | ⟨g, cap, cur, rfl, _, hg, _⟩
  · cases hk
  · obtain rfl : g = k := by simpa [Value.ownBlock] using hk
    exact ⟨cur, hg⟩
theorem row_kind {w : World} {B : Nat} {E : TypeId} {n : Nat} {v : Value} {xs : List Value} (h : w.ownsRow B E 1 v n xs) : ∀ k, v.ownBlock = some k → ∃ cur, w.heap[k]? = some (.cells cur E (0, 0)) := by
  intro k hk
  rcases h.2 with ⟨rfl, _⟩ | ⟨g, cap, cur, rfl, _, hg, _⟩
  · cases hk
  · obtain rfl : g = k := by simpa [Value.ownBlock] using hk
    exact ⟨cur, hg⟩
theorem row_keep {w w' : World} {B : Nat} {E : TypeId} {n : Nat} {v : Value} {xs : List Value} (h : w.ownsRow B E 1 v n xs) (hk : ∀ k, v.ownBlock = some k → w'.heap[k]? = w.heap[k]?) : w'.ownsRow B E 1 v n xs := by
  refine ⟨h.1, ?_⟩
  rcases h.2 with h2 | ⟨g, cap, cur, hv, hb, hg, r⟩
  · exact .inl h2
  · exact .inr ⟨g, cap, cur, hv, hb, by rw [hk g (by rw [hv]; rfl)]; exact hg, r⟩
theorem row_lt {w : World} {B : Nat} {E : TypeId} {n : Nat} {v : Value} {xs : List Value} (h : w.ownsRow B E 1 v n xs) : ∀ k, v.ownBlock = some k → B ≤ k ∧ k < w.heap.size := World.ownsRow.lt h
theorem row_mono {w : World} {B B' : Nat} {E : TypeId} {n : Nat} {v : Value} {xs : List Value} (h : w.ownsRow B E 1 v n xs) (hB : B' ≤ B) : w.ownsRow B' E 1 v n xs := by
  refine ⟨h.1, ?_⟩
  rcases h.2 with h2 | ⟨g, cap, cur, hv, hb, r⟩
  · exact .inl h2
  · exact .inr ⟨g, cap, cur, hv, by omega, r⟩

theorem Owns.lt {w : World} {B : Nat} {v : Value} {ls : List (List UInt8)} (h : Owns w B v ls) : ∀ k, v.ownBlock = some k → B ≤ k ∧ k < w.heap.size := by
  obtain ⟨vs, h1, _⟩ := h; exact row_lt h1
/-- it stays where the blocks that turn are no rows of slices and no bytes -/
theorem Owns.keep {w w' : World} {B : Nat} {v : Value} {ls : List (List UInt8)} (h : Owns w B v ls)
    (hk : ∀ k cur, (w.heap[k]? = some (.cells cur 116 (0, 0)) ∨ w.heap[k]? = some (.cells cur 5 (0, 0))) → B ≤ k → w'.heap[k]? = w.heap[k]?) : Owns w' B v ls := by
  obtain ⟨vs, h1, h2, h3⟩ := h
  refine ⟨vs, row_keep h1 fun k e => ?_, h2, fun i u l hu hl => (h3 i u l hu hl).keep fun k e => ?_⟩
  · obtain ⟨cur, hc⟩ := row_kind h1 k e
    exact hk k cur (.inl hc) (row_lt h1 k e).1
  · obtain ⟨cur, hc⟩ := (h3 i u l hu hl).kind k e
    exact hk k cur (.inr hc) ((h3 i u l hu hl).lt k e).1
theorem Owns.fr {S : Nat → Prop} {w w' : World} {B : Nat} {v : Value} {ls : List (List UInt8)} (h : Owns w B v ls) (hf : Fr S w w')
    (hS : ∀ k cur, S k → w.heap[k]? ≠ some (.cells cur 116 (0, 0)) ∧ w.heap[k]? ≠ some (.cells cur 5 (0, 0))) : Owns w' B v ls :=
  h.keep fun k cur hc _ => hf.block k (by rcases hc with e | e <;> exact (Array.getElem?_eq_some_iff.1 e).1) fun e => by
    rcases hc with h1 | h1
    · exact (hS k cur e).1 h1
    · exact (hS k cur e).2 h1
theorem Owns.non {w w' : World} {B : Nat} {v : Value} {ls : List (List UInt8)} (h : Owns w B v ls) (hf : Fr Non w w') : Owns w' B v ls := h.fr hf fun k cur e => e.elim
theorem Owns.mono {w : World} {B B' : Nat} {v : Value} {ls : List (List UInt8)} (h : Owns w B v ls) (hB : B' ≤ B) : Owns w B' v ls := by
  obtain ⟨vs, h1, h2, h3⟩ := h
  exact ⟨vs, row_mono h1 hB, h2, fun i u l hu hl => (h3 i u l hu hl).mono hB⟩
theorem Owns.bss {w : World} {B : Nat} {v : Value} {ls : List (List UInt8)} (h : Owns w B v ls) : Bss w v ls := by
  obtain ⟨vs, h1, h2, h3⟩ := h
  rcases h1.2 with ⟨rfl, h0⟩ | ⟨g, cap, cur, rfl, _, _, hle, _, _, _⟩
  · have hl : ls = [] := List.eq_nil_of_length_eq_zero (by omega)
    subst hl
    exact ⟨none, 0, rfl, Nat.le_refl _, fun _ => rfl, fun _ h => by cases h⟩
  · refine ⟨_, cap, by rw [h2], by omega, (fun h => by cases h), fun a ha j hj => ?_⟩
    cases ha
    have hj' : j < vs.length := by omega
    exact ⟨vs[j], World.ownsRow.cells h1 (g := g) rfl j _ (by simp [hj']), (h3 j vs[j] ls[j] (by simp [hj']) (by simp [hj])).bs⟩
theorem Owns.shape {w : World} {B : Nat} {v : Value} {ls : List (List UInt8)} (h : Owns w B v ls) : ∃ A c, v = .slice A ls.length c := by
  obtain ⟨A, c, rfl, _⟩ := h.bss; exact ⟨A, c, rfl⟩
/-! ### Whole numbers in a row of the call's own -/
def iv (n : Int) : Value := .int .i64 n
def OwnI (w : World) (B : Nat) (v : Value) (l : List Int) : Prop := w.ownsRow B 3 1 v (l.map iv).length (l.map iv)
theorem OwnI.non {w w' : World} {B : Nat} {v : Value} {l : List Int} (h : OwnI w B v l) (hf : Fr Non w w') : OwnI w' B v l := row_keep h fun k hk => hf.block k (row_lt h k hk).2 fun e => e
theorem OwnI.fr {S : Nat → Prop} {w w' : World} {B : Nat} {v : Value} {l : List Int} (h : OwnI w B v l) (hf : Fr S w w') (hn : ∀ k, v.ownBlock = some k → ¬ S k) : OwnI w' B v l := row_keep h fun k hk => hf.block k (row_lt h k hk).2 (hn k hk)
theorem OwnI.cell {w : World} {B : Nat} {v : Value} {l : List Int} (h : OwnI w B v l) {g n c : Nat} (hv : v = .slice (some ⟨g, 0, none⟩) n c) (j : Nat) (hj : j < l.length) : w.cell? ⟨g, j, none⟩ = some (.int .i64 l[j]) := by
  subst hv
  have := World.ownsRow.cells h (g := g) rfl j (iv l[j]) (by simp [hj])
  rwa [Addr.add_lit, Nat.zero_add] at this
theorem OwnI.form {w : World} {B : Nat} {v : Value} {l : List Int} (h : OwnI w B v l) (hl : l ≠ []) : ∃ g c, v = .slice (some ⟨g, 0, none⟩) l.length c ∧ l.length ≤ c ∧ B ≤ g ∧ g < w.heap.size := by
  rcases h.2 with ⟨rfl, h0⟩ | ⟨g, cap, cur, rfl, hb, hg, hle, _⟩
  · simp at h0; exact absurd h0 hl
  · exact ⟨g, cap, by rw [List.length_map], by simpa using hle, hb, (Array.getElem?_eq_some_iff.1 hg).1⟩
end Go.Proofs.YtipgaafgnefmdaaGreatDoor


namespace Go.Proofs.YtipgaafgnefmdaaGreatDoor
set_option linter.unusedVariables false
set_option linter.unusedSimpArgs false
set_option maxRecDepth 100000
open Go.RowKit

/-- the slice v reads as the list l, each element's cell being f of it -/
def Vs {α : Type} (f : α → Value) (w : World) (v : Value) (l : List α) : Prop :=
  ∃ A c, v = .slice A l.length c ∧ l.length ≤ c ∧ (A = none → c = 0) ∧ ∀ a, A = some a → ∀ j (h : j < l.length), w.cell? (a.add j) = some (f l[j])
/-- a row of the call's own, from block B on, of elements of type E -/
def Ow {α : Type} (f : α → Value) (E : TypeId) (w : World) (B : Nat) (v : Value) (l : List α) : Prop := w.ownsRow B E 1 v l.length (l.map f)

/-- T: slices of E, whose elements have one cell -/
structure El (T E : TypeId) (z : Value) (by_ : Nat) : Prop where
  under : Tryz.prog.underlying T = some (.slice E)
  info : (Tryz.prog.info? E).map (fun i => (i.zero, i.size, i.bytes)) = some (some z, 1, by_)
  cells : z.cells = #[z]
  small : by_ ≤ 64
  elem : Tryz.prog.elem T = E
  sz : ∀ w, (sizeOf (Tryz.prog.elem T)).run Tryz.prog w = .ok 1 w

section
variable {α : Type} {f : α → Value}

theorem Vs.nil_ (w : World) : Vs f w (.slice none 0 0) [] := ⟨none, 0, rfl, Nat.le_refl _, fun _ => rfl, fun _ h => by cases h⟩
theorem Vs.keep {w w' : World} {v : Value} {l : List α} (h : Vs f w v l) (hk : ∀ k, v.ownBlock = some k → k < w.heap.size → w'.heap[k]? = w.heap[k]?) : Vs f w' v l := by
  obtain ⟨A, c, rfl, h1, h2, h3⟩ := h
  refine ⟨A, c, rfl, h1, h2, fun a ha j hj => ?_⟩
  have := h3 a ha j hj
  subst ha
  have hb := World.block_lt_of_cell? w _ this
  rw [add_block] at hb
  rw [← this]
  exact World.cell?_of_block (by rw [add_block]; exact hk _ rfl hb)
theorem Vs.fr {S : Nat → Prop} {w w' : World} {v : Value} {l : List α} (h : Vs f w v l) (hf : Fr S w w') (hn : ∀ k, v.ownBlock = some k → ¬ S k) : Vs f w' v l :=
  h.keep fun k hk hlt => hf.block k hlt (hn k hk)
theorem Vs.non {w w' : World} {v : Value} {l : List α} (h : Vs f w v l) (hf : Fr Non w w') : Vs f w' v l := h.fr hf fun _ _ e => e
theorem Vs.drew {w : World} {v : Value} {l : List α} (h : Vs f w v l) : Vs f w.drew v l := h
theorem Vs.drewN {w : World} {v : Value} {l : List α} (h : Vs f w v l) (n : Nat) : Vs f (w.drewN n) v l := h
theorem Vs.shape {w : World} {v : Value} {l : List α} (h : Vs f w v l) : ∃ A c, v = .slice A l.length c := by
  obtain ⟨A, c, rfl, _⟩ := h; exact ⟨A, c, rfl⟩
/-- its address, where it has an element -/
theorem Vs.addr {w : World} {A : Option Addr} {n c : Nat} {l : List α} (h : Vs f w (.slice A n c) l) (hl : 0 < n) : ∃ a, A = some a ∧ n = l.length ∧ n ≤ c ∧ ∀ j (h : j < l.length), w.cell? (a.add j) = some (f l[j]) := by
  obtain ⟨A0, c0, he, h1, h2, h3⟩ := h
  simp only [Value.slice.injEq] at he
  obtain ⟨rfl, rfl, rfl⟩ := he
  cases A with
  | none => have := h2 rfl; omega
  | some a => exact ⟨a, rfl, rfl, h1, h3 a rfl⟩
/-- elements laid in a new block -/
theorem vs_row (w : World) (l : List α) (E : TypeId) (fr : Nat × Nat) : Vs f (w.alloc (.cells (l.map f).toArray E fr)) (.slice (some ⟨w.heap.size, 0, none⟩) l.length l.length) l := by
  refine ⟨_, _, rfl, Nat.le_refl _, (fun h => by cases h), fun a ha j hj => ?_⟩
  cases ha
  rw [Addr.add_lit, Nat.zero_add, cell_of_row _ w.heap.size j _ _ fr (heap_alloc_new w _)]
  simp [hj]
theorem Vs.pre {w : World} {A : Option Addr} {n c k : Nat} {l : List α} (h : Vs f w (.slice A n c) l) (hk : k ≤ n) : Vs f w (.slice A k c) (l.take k) := by
  obtain ⟨A0, c0, he, h1, h2, h3⟩ := h
  simp only [Value.slice.injEq] at he
  obtain ⟨rfl, rfl, rfl⟩ := he
  have hl : (l.take k).length = k := by rw [List.length_take]; omega
  refine ⟨A, c, by rw [hl], by rw [hl]; omega, h2, fun a ha j hj => ?_⟩
  rw [h3 a ha j (by rw [hl] at hj; omega)]
  simp

variable {E : TypeId}
theorem Ow.lt {w : World} {B : Nat} {v : Value} {l : List α} (h : Ow f E w B v l) : ∀ k, v.ownBlock = some k → B ≤ k ∧ k < w.heap.size := World.ownsRow.lt h
theorem Ow.vs {w : World} {B : Nat} {v : Value} {l : List α} (h : Ow f E w B v l) : Vs f w v l := by
  rcases h.2 with ⟨rfl, h0⟩ | ⟨g, cap, cur, rfl, _, _, hle, _, _, _⟩
  · have hl : l = [] := List.eq_nil_of_length_eq_zero h0
    subst hl; exact Vs.nil_ w
  · refine ⟨_, cap, rfl, hle, (fun h => by cases h), fun a ha j hj => ?_⟩
    cases ha
    exact World.ownsRow.cells h (g := g) rfl j _ (by simp [hj])
theorem Ow.shape {w : World} {B : Nat} {v : Value} {l : List α} (h : Ow f E w B v l) : ∃ A c, v = .slice A l.length c := h.vs.shape
theorem Ow.keep {w w' : World} {B : Nat} {v : Value} {l : List α} (h : Ow f E w B v l) (hk : ∀ k, v.ownBlock = some k → w'.heap[k]? = w.heap[k]?) : Ow f E w' B v l := row_keep h hk
theorem Ow.fr {S : Nat → Prop} {w w' : World} {B : Nat} {v : Value} {l : List α} (h : Ow f E w B v l) (hf : Fr S w w') (hn : ∀ k, v.ownBlock = some k → ¬ S k) : Ow f E w' B v l :=
  h.keep fun k hk => hf.block k (h.lt k hk).2 (hn k hk)
theorem Ow.non {w w' : World} {B : Nat} {v : Value} {l : List α} (h : Ow f E w B v l) (hf : Fr Non w w') : Ow f E w' B v l := h.fr hf fun _ _ e => e
theorem Ow.alloc {w : World} {B : Nat} {v : Value} {l : List α} (h : Ow f E w B v l) (o : Obj) : Ow f E (w.alloc o) B v l := h.non ((Fr.refl _ _).alloc o)
theorem Ow.drew {w : World} {B : Nat} {v : Value} {l : List α} (h : Ow f E w B v l) : Ow f E w.drew B v l := h
theorem Ow.drewN {w : World} {B : Nat} {v : Value} {l : List α} (h : Ow f E w B v l) (n : Nat) : Ow f E (w.drewN n) B v l := h
theorem Ow.mono {w : World} {B B' : Nat} {v : Value} {l : List α} (h : Ow f E w B v l) (hB : B' ≤ B) : Ow f E w B' v l := row_mono h hB
theorem Ow.kind {w : World} {B : Nat} {v : Value} {l : List α} (h : Ow f E w B v l) : ∀ k, v.ownBlock = some k → ∃ cur, w.heap[k]? = some (.cells cur E (0, 0)) := row_kind h
/-- where it has an element, it stands at a row's head -/
theorem Ow.row {w : World} {B : Nat} {v : Value} {l : List α} (h : Ow f E w B v l) (hn : 0 < l.length) : ∃ g cap, v = .slice (some ⟨g, 0, none⟩) l.length cap ∧ B ≤ g ∧ g < w.heap.size ∧ l.length ≤ cap ∧ cap ≤ maxLen := by
  rcases h.2 with ⟨rfl, h0⟩ | ⟨g, cap, cur, rfl, hb, hg, hle, hm, _⟩
  · omega
  · exact ⟨g, cap, rfl, hb, (Array.getElem?_eq_some_iff.1 hg).1, hle, hm⟩
theorem Ow.cell {w : World} {B g n cap : Nat} {l : List α} (h : Ow f E w B (.slice (some ⟨g, 0, none⟩) n cap) l) (hn : n = l.length) (j : Nat) (x : α) (hb : l[j]? = some x) : w.cell? ⟨g, j, none⟩ = some (f x) := by
  subst hn
  have hj : j < l.length := (List.getElem?_eq_some_iff.1 hb).1
  rw [World.ownsRow.cellAt h j (by omega), List.getElem?_map, hb]; rfl
theorem Ow.frozen {w : World} {B g n cap : Nat} {l : List α} (h : Ow f E w B (.slice (some ⟨g, 0, none⟩) n cap) l) (hn : n = l.length) (j : Nat) : w.frozen? ⟨g, j, none⟩ = false := by
  subst hn; exact World.ownsRow.frozenAt h j
theorem ow_lit (w : World) (B g : Nat) (l : List α) (cs : Array Value) (hcs : cs.toList = l.map f) (hg : g = w.heap.size) (hB : B ≤ g) (hm : l.length ≤ maxLen) : Ow f E (w.alloc (.cells cs E)) B (.slice (some ⟨g, 0, none⟩) l.length l.length) l := by
  subst hg
  unfold Ow
  rw [← hcs]
  exact World.ownsRow_lit w cs l.length hB hm (by have := congrArg List.length hcs; simpa using this)
theorem ow_lit0 (w : World) (B g : Nat) (hg : g = w.heap.size) (hB : B ≤ g) : Ow f E (w.alloc (.cells #[] E)) B (.slice (some ⟨g, 0, none⟩) 0 0) [] :=
  ow_lit w B g [] #[] rfl hg hB (by unfold maxLen; simp)

/-! ### Steps -/
variable {T : TypeId} {z : Value} {by_ : Nat}
/-- append of one element, which was stored in a new block first -/
theorem wpList_pushG (hE : El T E z by_) (hf1 : ∀ x, (f x).oneCell' = true) {w0 : World} {ops : Array Oper} {rest : List Oper} {o : Oper} {a : Act} {Q : Exit → Act → World → Prop} (hgd : o.guard = none) (s x : Operand)
    (ho : o.op = .call { callee := .builtin .append, args := #[s, x], argTypes := #[T, T] })
    (B : Nat) (v : Value) (l : List α) (hs : a.eval s = v) (hown : Ow f E w0 B v l) (u : Value) (y : α) (hu : u = f y) (hx : a.eval x = .slice (some ⟨w0.heap.size, 0, none⟩) 1 1)
    (hl : l.length < 1099511627776) (hB : B ≤ w0.heap.size)
    (h : ∀ v' w', Ow f E w' B v' (l ++ [y]) → Fr (fun k => v.ownBlock = some k) w0 w' → wpList Tryz.prog ops Q rest (a.put o.dst v') w') :
    wpList Tryz.prog ops Q (o :: rest) a (w0.alloc (.cells #[u] E)) := by
  subst hu
  have hown' : w0.ownsRow B E 1 v (l.map f).length (l.map f) := by rw [List.length_map]; exact hown
  have hs' := hE.small
  have hbl : ((l.map f).length + 1) * by_ ≤ 140737488355328 := by
    rw [List.length_map]
    have := Nat.mul_le_mul (show l.length + 1 ≤ 1099511627776 by omega) hs'
    omega
  obtain ⟨v', w', hr, h1, h2⟩ := run_pushv T E o.type z by_ hE.under hE.info (by rw [hE.cells]; rfl) w0 B v (f y) (l.map f) hown' (hf1 y) hbl (by rw [List.length_map]; unfold maxLen; omega) hB w0.heap.size rfl
  refine wpList_plain hgd fun K hK => ?_
  unfold Oper.wp execOp
  simp only [ho, resolve, invoke, builtin, Sem.run_bind, Sem.run_pure, Result.andThen_ok, List.map_toArray, List.map_cons, List.map_nil, hs, hx, hr]
  refine hK _ _ (h v' w' ?_ h2)
  unfold Ow
  simpa [List.map_append] using h1

/-! ### Pieces -/
theorem slice_hiG (hE : El T E z by_) (A : Option Addr) (n c k : Nat) (kl : IntKind) (y : Int) (hy : y = (k : Int)) (hk : k ≤ n) (hn : n ≤ c) :
    ∃ A' c', (∀ W, (Instr.slice T (.slice A n c) none (some (.int kl y)) none).run Tryz.prog W = .ok (.slice A' k c') W) ∧
      (∀ {α : Type} (f : α → Value) W (l : List α), l.length = n → Vs f W (.slice A n c) l → Vs f W (.slice A' k c') (l.take k)) ∧ (Value.slice A' k c').ownBlock = (Value.slice A n c).ownBlock := by
  subst hy
  refine ⟨if c = 0 then A else A.map (·.add 0), c, fun W => ?_, ?_, ?_⟩
  · rw [run_slice_any W T A n c (by rw [hE.elem]; exact hE.under)]
    have hb : (Instr.sliceBounds true n c none (some (.int kl (k : Int))) none).run Tryz.prog W = .ok (0, k, c) W := by
      simp [Instr.sliceBounds, run_sliceBound, show (k : Int) ≤ c by omega]
    rw [hb]
    simp only [Result.andThen_ok, hE.sz]
    simp [sliced]
  · rintro α f W l hl ⟨A0, c0, he, h1, h2, h3⟩
    simp only [Value.slice.injEq] at he
    obtain ⟨rfl, hl', rfl⟩ := he
    refine ⟨if c = 0 then A else A.map (·.add 0), c, by rw [List.length_take, hl, Nat.min_eq_left hk], by rw [List.length_take]; omega, fun e => ?_, fun a ha j hj => ?_⟩
    · split at e
      · have := h2 e; omega
      · have := h2 (by simpa using e); omega
    · rw [List.length_take] at hj
      rw [if_neg (by omega)] at ha
      cases A with
      | none => cases ha
      | some b =>
        obtain rfl : b.add 0 = a := by simpa using ha
        rw [add_add, h3 b rfl (0 + j) (by omega)]
        simp
  · split
    · cases A <;> rfl
    · cases A <;> simp [Value.ownBlock, add_block]
end

/-- how many elements a slice has -/
def slLen : Value → Nat
  | .slice _ n _ => n
  | _ => 0
theorem slLen_vs {α : Type} {f : α → Value} {w : World} {v : Value} {l : List α} (h : Vs f w v l) : slLen v = l.length := by
  obtain ⟨A, c, rfl⟩ := h.shape; rfl

/-! ### Truths, whole numbers, bytes -/
def tv (b : Bool) : Value := .bool b
theorem el_u8 : El 116 5 (.int .u8 0) 1 := ⟨Tryz.underlying116, by kernel_rfl, rfl, by decide, by kernel_rfl, fun _ => by kernel_rfl⟩
theorem Bs.vs {w : World} {v : Value} {l : List UInt8} (h : Bs w v l) : Vs bv w v l := h
theorem Vs.bs {w : World} {v : Value} {l : List UInt8} (h : Vs bv w v l) : Bs w v l := h
theorem Ow.own {w : World} {B : Nat} {v : Value} {l : List UInt8} (h : Ow bv 5 w B v l) : Own w B v l := h

end Go.Proofs.YtipgaafgnefmdaaGreatDoor


namespace Go.Proofs.YtipgaafgnefmdaaGreatDoor
set_option linter.unusedVariables false
set_option linter.unusedSimpArgs false
set_option maxRecDepth 100000
open Go.ChangeShapes Go.WideShapes Go.ChangeAt Go.RowKit

theorem frame_own : ownKnob Tryz.prog.godebug = none := by kernel_rfl
theorem frame_laidOut : laidOutB Tryz.prog = true := by kernel_rfl

/-- every argument reads as it did -/
theorem trodAll_below {H : Type} {enc : TypeId × Value → H} {W W' : World} (hb : Below W.heap.size W W') :
    ∀ (ts : List TypeId) (vs : List Value) (ds : List (DataW H)) (ps : List MemPlace), (∀ t ∈ ts, Tryz.prog.readableRec t = true ∧ t < Tryz.prog.types.size) →
      DataW.TrodAll enc Tryz.prog W 0 (fun _ => true) true ts vs ds ps → DataW.TrodAll enc Tryz.prog W' 0 (fun b => decide (b < W.heap.size)) true ts vs ds ps := by
  intro ts
  induction ts with
  | nil => intro vs ds ps _ h; cases vs <;> cases ds <;> simp_all [DataW.TrodAll]
  | cons t ts ih =>
    intro vs ds ps hr h
    cases vs with
    | nil => cases ds <;> simp_all [DataW.TrodAll]
    | cons v vs =>
      cases ds with
      | nil => simp_all [DataW.TrodAll]
      | cons d ds =>
        obtain ⟨p, q, h1, h2, rfl⟩ := h
        have hlt : ∀ x ∈ p, x.block < W.heap.size := by obtain ⟨m, hm⟩ := h1; exact DataW.trod_lt m _ _ _ hm
        have ht := hr t (List.mem_cons_self ..)
        exact ⟨p, q, Below.trod frame_laidOut ht.1 ht.2 h1 hb hlt, ih vs ds q (fun u hu => hr u (List.mem_cons_of_mem _ hu)) h2, rfl⟩

noncomputable def typesOk (ts : List TypeId) : Bool := ts.all fun t => Tryz.prog.readableRec t && decide (t < Tryz.prog.types.size)
theorem types_ok (ts : List TypeId) (h : typesOk ts = true) : ∀ t ∈ ts, Tryz.prog.readableRec t = true ∧ t < Tryz.prog.types.size := by
  intro t ht
  have := List.all_eq_true.1 h t ht
  simpa using this

end Go.Proofs.YtipgaafgnefmdaaGreatDoor


namespace Go.Proofs.YtipgaafgnefmdaaGreatDoor
set_option linter.unusedVariables false
set_option linter.unusedSimpArgs false
set_option maxRecDepth 100000
open Go.ChangeShapes Go.WideShapes Go.ChangeAt Go.RowKit

/-- f: an element's cells, k of them -/
structure Fd {α : Type} (f : α → List Value) (k : Nat) : Prop where
  len : ∀ x, (f x).length = k
  one : ∀ x, ∀ u ∈ f x, u.oneCell' = true
  pos : 0 < k
  small : k ≤ 64

section
variable {α : Type} {f : α → List Value} {k : Nat}

theorem catN_len (h : Fd f k) (l : List α) : (l.flatMap f).length = l.length * k := by
  induction l with
  | nil => simp
  | cons c l ih => rw [List.flatMap_cons, List.length_append, ih, h.len, List.length_cons, Nat.succ_mul, Nat.add_comm]
theorem catN_at (h : Fd f k) (l : List α) (j i : Nat) (hj : j < l.length) (hi : i < k) : (l.flatMap f)[j * k + i]? = (f l[j])[i]? := by
  induction l generalizing j with
  | nil => cases hj
  | cons c l ih =>
    rw [List.flatMap_cons]
    cases j with
    | zero => rw [List.getElem?_append_left (by rw [h.len]; omega)]; simp
    | succ j =>
      rw [Nat.succ_mul, List.getElem?_append_right (by rw [h.len]; omega)]
      rw [show j * k + k + i - (f c).length = j * k + i by rw [h.len]; omega]
      exact ih j (by simpa using hj)
theorem catN_one (h : Fd f k) (l : List α) : ∀ u ∈ l.flatMap f, u.oneCell' = true := by
  intro u hu
  obtain ⟨c, _, hc⟩ := List.mem_flatMap.1 hu
  exact h.one c u hc
theorem catN_set (h : Fd f k) (l : List α) (j i : Nat) (u : Value) (x y : α) (hj : l[j]? = some y) (hi : i < k) (hx : f x = (f y).set i u) : (l.set j x).flatMap f = (l.flatMap f).set (j * k + i) u := by
  induction l generalizing j with
  | nil => simp at hj
  | cons d l ih =>
    cases j with
    | zero =>
      obtain rfl : d = y := by simpa using hj
      rw [List.set_cons_zero, List.flatMap_cons, List.flatMap_cons, hx, List.set_append_left _ _ (by rw [h.len]; omega)]
      simp
    | succ j =>
      rw [List.set_cons_succ, List.flatMap_cons, List.flatMap_cons, ih j (by simpa using hj), Nat.succ_mul]
      rw [List.set_append_right _ _ (by rw [h.len]; omega), show j * k + k + i - (f d).length = j * k + i by rw [h.len]; omega]

/-- cells, one behind the other, that hold us -/
def AtN (w : World) (a : Addr) (us : List Value) : Prop := ∀ (i : Nat) (u : Value), us[i]? = some u → w.cell? (a.add i) = some u
theorem AtN.keep {w w' : World} {a : Addr} {us : List Value} (h : AtN w a us) (hk : a.block < w.heap.size → w'.heap[a.block]? = w.heap[a.block]?) : AtN w' a us := by
  intro i u hu
  have h1 := h i u hu
  have hb := World.block_lt_of_cell? w _ h1
  rw [add_block] at hb
  rw [← h1]
  exact World.cell?_of_block (by rw [add_block]; exact hk hb)
theorem AtN.non {w w' : World} {a : Addr} {us : List Value} (h : AtN w a us) (hf : Fr Non w w') : AtN w' a us := h.keep fun hb => hf.block _ hb (fun e => e)

/-- the slice v reads as the list l, each element's cells being f of it -/
def Ns (f : α → List Value) (k : Nat) (w : World) (v : Value) (l : List α) : Prop :=
  ∃ A c, v = .slice A l.length c ∧ l.length ≤ c ∧ (A = none → c = 0) ∧ ∀ a, A = some a → ∀ j (h : j < l.length), AtN w (a.add (j * k)) (f l[j])
/-- a row of the call's own, from block B on, of elements of type E -/
def No (f : α → List Value) (k : Nat) (E : TypeId) (w : World) (B : Nat) (v : Value) (l : List α) : Prop := w.ownsRow B E k v l.length (l.flatMap f)

theorem Ns.nil_ (w : World) : Ns f k w (.slice none 0 0) [] := ⟨none, 0, rfl, Nat.le_refl _, fun _ => rfl, fun _ h => by cases h⟩
theorem Ns.keep {w w' : World} {v : Value} {l : List α} (h : Ns f k w v l) (hk : ∀ b, v.ownBlock = some b → b < w.heap.size → w'.heap[b]? = w.heap[b]?) : Ns f k w' v l := by
  obtain ⟨A, c, rfl, h1, h2, h3⟩ := h
  refine ⟨A, c, rfl, h1, h2, fun a ha j hj => ?_⟩
  subst ha
  refine (h3 a rfl j hj).keep fun hb => ?_
  rw [add_block] at hb ⊢
  exact hk _ rfl hb
theorem Ns.fr {S : Nat → Prop} {w w' : World} {v : Value} {l : List α} (h : Ns f k w v l) (hf : Fr S w w') (hn : ∀ b, v.ownBlock = some b → ¬ S b) : Ns f k w' v l :=
  h.keep fun b hb hlt => hf.block b hlt (hn b hb)
theorem Ns.non {w w' : World} {v : Value} {l : List α} (h : Ns f k w v l) (hf : Fr Non w w') : Ns f k w' v l := h.fr hf fun _ _ e => e
theorem Ns.drew {w : World} {v : Value} {l : List α} (h : Ns f k w v l) : Ns f k w.drew v l := h.keep fun _ _ _ => rfl
theorem Ns.drewN {w : World} {v : Value} {l : List α} (h : Ns f k w v l) (n : Nat) : Ns f k (w.drewN n) v l := h.keep fun _ _ _ => rfl
theorem Ns.shape {w : World} {v : Value} {l : List α} (h : Ns f k w v l) : ∃ A c, v = .slice A l.length c := by
  obtain ⟨A, c, rfl, _⟩ := h; exact ⟨A, c, rfl⟩
theorem slLen_ns {w : World} {v : Value} {l : List α} (h : Ns f k w v l) : slLen v = l.length := by
  obtain ⟨A, c, rfl⟩ := h.shape; rfl
theorem Ns.addr {w : World} {A : Option Addr} {n c : Nat} {l : List α} (h : Ns f k w (.slice A n c) l) (hl : 0 < n) : ∃ a, A = some a ∧ n = l.length ∧ n ≤ c ∧ ∀ j (h : j < l.length), AtN w (a.add (j * k)) (f l[j]) := by
  obtain ⟨A0, c0, he, h1, h2, h3⟩ := h
  simp only [Value.slice.injEq] at he
  obtain ⟨rfl, rfl, rfl⟩ := he
  cases A with
  | none => have := h2 rfl; omega
  | some a => exact ⟨a, rfl, rfl, h1, h3 a rfl⟩
/-- the element at j -/
theorem Ns.at_ {w : World} {A : Option Addr} {n c : Nat} {l : List α} (h : Ns f k w (.slice A n c) l) (j : Nat) (x : α) (hx : l[j]? = some x) : ∃ a, A = some a ∧ AtN w (a.add (j * k)) (f x) := by
  obtain ⟨hj, rfl⟩ := List.getElem?_eq_some_iff.1 hx
  obtain ⟨A0, c0, he, h1, h2, h3⟩ := h
  simp only [Value.slice.injEq] at he
  obtain ⟨rfl, rfl, rfl⟩ := he
  cases A with
  | none => have := h2 rfl; omega
  | some a => exact ⟨a, rfl, h3 a rfl j hj⟩

variable {E : TypeId}
theorem no_nil (w : World) (B : Nat) : No f k E w B (.slice none 0 0) [] := ⟨by simp, .inl ⟨rfl, rfl⟩⟩
theorem No.lt {w : World} {B : Nat} {v : Value} {l : List α} (h : No f k E w B v l) : ∀ b, v.ownBlock = some b → B ≤ b ∧ b < w.heap.size := World.ownsRow.lt h
theorem No.ns (hF : Fd f k) {w : World} {B : Nat} {v : Value} {l : List α} (h : No f k E w B v l) : Ns f k w v l := by
  rcases h.2 with ⟨rfl, h0⟩ | ⟨g, cap, cur, rfl, _, _, hle, _, _, _⟩
  · have hl : l = [] := List.eq_nil_of_length_eq_zero h0
    subst hl; exact Ns.nil_ w
  · refine ⟨_, cap, rfl, hle, (fun h => by cases h), fun a ha j hj i u hu => ?_⟩
    cases ha
    have hi : i < k := by rw [← hF.len l[j]]; exact (List.getElem?_eq_some_iff.1 hu).1
    rw [add_add]
    exact World.ownsRow.cells h (g := g) rfl (j * k + i) _ ((catN_at hF l j i hj hi).trans hu)
theorem No.keep {w w' : World} {B : Nat} {v : Value} {l : List α} (h : No f k E w B v l) (hk : ∀ b, v.ownBlock = some b → w'.heap[b]? = w.heap[b]?) : No f k E w' B v l := by
  refine ⟨h.1, ?_⟩
  rcases h.2 with h2 | ⟨g, cap, cur, hv, hb, hg, r⟩
  · exact .inl h2
  · exact .inr ⟨g, cap, cur, hv, hb, by rw [hk g (by rw [hv]; rfl)]; exact hg, r⟩
theorem No.fr {S : Nat → Prop} {w w' : World} {B : Nat} {v : Value} {l : List α} (h : No f k E w B v l) (hf : Fr S w w') (hn : ∀ b, v.ownBlock = some b → ¬ S b) : No f k E w' B v l :=
  h.keep fun b hb => hf.block b (h.lt b hb).2 (hn b hb)
theorem No.non {w w' : World} {B : Nat} {v : Value} {l : List α} (h : No f k E w B v l) (hf : Fr Non w w') : No f k E w' B v l := h.fr hf fun _ _ e => e
theorem No.alloc {w : World} {B : Nat} {v : Value} {l : List α} (h : No f k E w B v l) (o : Obj) : No f k E (w.alloc o) B v l := h.non ((Fr.refl _ _).alloc o)
theorem No.drew {w : World} {B : Nat} {v : Value} {l : List α} (h : No f k E w B v l) : No f k E w.drew B v l := h
theorem No.mono {w : World} {B B' : Nat} {v : Value} {l : List α} (h : No f k E w B v l) (hB : B' ≤ B) : No f k E w B' v l := by
  refine ⟨h.1, ?_⟩
  rcases h.2 with h2 | ⟨g, cap, cur, hv, hb, r⟩
  · exact .inl h2
  · exact .inr ⟨g, cap, cur, hv, by omega, r⟩
theorem No.kind {w : World} {B : Nat} {v : Value} {l : List α} (h : No f k E w B v l) : ∀ b, v.ownBlock = some b → ∃ cur, w.heap[b]? = some (.cells cur E (0, 0)) := by
  intro b hk
  rcases h.2 with ⟨rfl, _⟩ | ⟨g, cap, cur, rfl, _, hg, _⟩
  · cases hk
  · obtain rfl : g = b := by simpa [Value.ownBlock] using hk
    exact ⟨cur, hg⟩
theorem No.row {w : World} {B : Nat} {v : Value} {l : List α} (h : No f k E w B v l) (hn : 0 < l.length) : ∃ g cap, v = .slice (some ⟨g, 0, none⟩) l.length cap ∧ B ≤ g ∧ g < w.heap.size ∧ l.length ≤ cap ∧ cap ≤ maxLen := by
  rcases h.2 with ⟨rfl, h0⟩ | ⟨g, cap, cur, rfl, hb, hg, hle, hm, _⟩
  · omega
  · exact ⟨g, cap, rfl, hb, (Array.getElem?_eq_some_iff.1 hg).1, hle, hm⟩
/-- what a walk asks of a row's element at j -/
theorem No.el (hF : Fd f k) {w : World} {B g n cap : Nat} {l : List α} (h : No f k E w B (.slice (some ⟨g, 0, none⟩) n cap) l) (hn : n = l.length) (j i : Nat) (x : α) (u : Value) (hx : l[j]? = some x) (hu : (f x)[i]? = some u) : w.cell? ⟨g, j * k + i, none⟩ = some u := by
  subst hn
  obtain ⟨hj, rfl⟩ := List.getElem?_eq_some_iff.1 hx
  have hi : i < k := by rw [← hF.len l[j]]; exact (List.getElem?_eq_some_iff.1 hu).1
  have hjk : (j + 1) * k ≤ l.length * k := Nat.mul_le_mul_right k hj
  rw [Nat.succ_mul] at hjk
  rw [World.ownsRow.cellAt h (j * k + i) (by omega), catN_at hF l j i hj hi]
  exact hu
theorem No.frozen {w : World} {B g n cap : Nat} {l : List α} (h : No f k E w B (.slice (some ⟨g, 0, none⟩) n cap) l) (hn : n = l.length) (j : Nat) : w.frozen? ⟨g, j, none⟩ = false := by
  subst hn; exact World.ownsRow.frozenAt h j
/-- one value stored -/
theorem No.put (hF : Fd f k) {w : World} {B g n cap : Nat} {l : List α} (h : No f k E w B (.slice (some ⟨g, 0, none⟩) n cap) l) (hn : n = l.length) (j i : Nat) (x y : α) (u : Value) (hy : l[j]? = some y) (hi : i < k) (hx : f x = (f y).set i u) :
    No f k E (w.setCell ⟨g, j * k + i, none⟩ u) B (.slice (some ⟨g, 0, none⟩) n cap) (l.set j x) := by
  subst hn
  unfold No
  rw [List.length_set, catN_set hF l j i u x y hy hi hx]
  exact (World.ownsRow.stored h (j * k + i) u).1
theorem no_lit (hF : Fd f k) (w : World) (B g : Nat) (l : List α) (cs : Array Value) (hcs : cs.toList = l.flatMap f) (hg : g = w.heap.size) (hB : B ≤ g) (hm : l.length ≤ 1000000) : No f k E (w.alloc (.cells cs E)) B (.slice (some ⟨g, 0, none⟩) l.length l.length) l := by
  subst hg
  have h := World.ownsRow_lit (e := E) (size := k) w cs l.length hB (by unfold maxLen; omega) (by rw [← Array.length_toList, hcs, catN_len hF])
  rw [hcs] at h
  exact h
theorem no_lit0 (w : World) (B g : Nat) (hg : g = w.heap.size) (hB : B ≤ g) : No f k E (w.alloc (.cells #[] E)) B (.slice (some ⟨g, 0, none⟩) 0 0) [] := by
  subst hg
  exact World.ownsRow_lit w #[] 0 hB (by unfold maxLen; omega) (by simp)

/-- T: slices of E, whose elements have k cells; z: E's value of noughts -/
structure Eln (T E : TypeId) (z : Value) (k by_ : Nat) : Prop where
  under : Tryz.prog.underlying T = some (.slice E)
  info : (Tryz.prog.info? E).map (fun i => (i.zero, i.size, i.bytes)) = some (some z, k, by_)
  cells : z.cells.size = k
  small : by_ ≤ 512
variable {T : TypeId} {z : Value} {by_ : Nat}
/-- append of a slice's elements: the operation alone -/
theorem wp_appN (hF : Fd f k) (hE : Eln T E z k by_) {w : World} {o : Oper} {a : Act} {K : Act → World → Prop} {Q : Exit → Act → World → Prop} (s x : Operand)
    (ho : o.op = .call { callee := .builtin .append, args := #[s, x], argTypes := #[T, T] })
    (B : Nat) (v y : Value) (l m : List α) (hs : a.eval s = v) (hown : No f k E w B v l) (hx : a.eval x = y) (hy : Ns f k w y m)
    (hl : l.length + m.length < 68719476736) (hB : B ≤ w.heap.size)
    (h : ∀ v' w', No f k E w' B v' (l ++ m) → Fr (fun b => v.ownBlock = some b) w w' → K (a.put o.dst v') w') : o.wp Tryz.prog a w K Q := by
  obtain ⟨ii, hi, hz0, hz1, hz2⟩ := info_parts hE.info
  have hs' := hE.small
  have hk' := hF.small
  have hbl : (l.length + m.length) * by_ ≤ 35184372088832 := by
    have := Nat.mul_le_mul (show l.length + m.length ≤ 68719476736 by omega) hs'
    omega
  have hbk : (l.length + m.length) * k ≤ 4398046511104 := by
    have := Nat.mul_le_mul (show l.length + m.length ≤ 68719476736 by omega) hk'
    omega
  obtain ⟨A, c, rfl, hmc, hn, hcells⟩ := hy
  cases A with
  | some ad =>
    refine wp_append_own w s x T ho B E ii z k by_ hE.under hi hz0 hz1 hz2 hE.cells hF.pos v l.length (l.flatMap f) hs hown ad m.length c (m.flatMap f) hx (catN_len hF m) ?_ (catN_one hF m) (by unfold maxLen; omega) (by omega) hB ?_
    · intro j u hu
      have hp := hF.pos
      have hj : j < m.length * k := by rw [← catN_len hF]; exact (List.getElem?_eq_some_iff.1 hu).1
      have hd : j / k < m.length := Nat.div_lt_of_lt_mul (by rw [Nat.mul_comm]; exact hj)
      have hat := catN_at hF m (j / k) (j % k) hd (Nat.mod_lt _ hp)
      have ej : j / k * k + j % k = j := by rw [Nat.mul_comm]; exact Nat.div_add_mod j k
      rw [ej, hu] at hat
      have h3 := hcells ad rfl (j / k) hd (j % k) u hat.symm
      rw [add_add, ej] at h3
      exact h3
    · intro v' w' h1 h2 _
      refine h v' w' ?_ (Fr.of_grown h2)
      unfold No
      rw [List.flatMap_append, List.length_append]
      exact h1
  | none =>
    have hm : m = [] := List.eq_nil_of_length_eq_zero (by have := hn rfl; omega)
    subst hm
    have hc : c = 0 := hn rfl
    subst hc
    have hrun := run_append_owned_none (P := Tryz.prog) (w := w) B T o.type E ii k hE.under hi v l.length (l.flatMap f) hown
    unfold Oper.wp
    have hx' : a.eval x = .slice none 0 0 := hx
    simp [execOp, ho, resolve, invoke, builtin, hs, hx', hrun, Result.andThen]
    exact h v w (by simpa using hown) (Fr.refl _ _)
/-- append of one element, which was stored in a new block first -/
theorem wpList_pushN (hF : Fd f k) (hE : Eln T E z k by_) {w0 : World} {ops : Array Oper} {rest : List Oper} {o : Oper} {a : Act} {Q : Exit → Act → World → Prop} (hgd : o.guard = none) (s x : Operand)
    (ho : o.op = .call { callee := .builtin .append, args := #[s, x], argTypes := #[T, T] })
    (B : Nat) (v : Value) (l : List α) (hs : a.eval s = v) (hown : No f k E w0 B v l) (y : α) (cs : Array Value) (hcs : cs.toList = f y) (g : Nat) (hx : a.eval x = .slice (some ⟨g, 0, none⟩) 1 1) (hg : g = w0.heap.size)
    (hl : l.length < 68719476735) (hB : B ≤ w0.heap.size)
    (h : ∀ v' w', No f k E w' B v' (l ++ [y]) → Fr (fun b => v.ownBlock = some b) w0 w' → wpList Tryz.prog ops Q rest (a.put o.dst v') w') :
    wpList Tryz.prog ops Q (o :: rest) a (w0.alloc (.cells cs E)) := by
  subst hg
  have hlit : No f k E (w0.alloc (.cells cs E)) 0 (.slice (some ⟨w0.heap.size, 0, none⟩) 1 1) [y] := no_lit hF w0 0 _ [y] cs (by simpa using hcs) rfl (Nat.zero_le _) (by simp)
  refine wpList_plain hgd fun _ hK => wp_appN hF hE s x ho B v _ l [y] hs (hown.alloc _) hx (hlit.ns hF) (by simp; omega) (by simp; omega) fun v' w' h1 h2 => hK _ _ (h v' w' h1 (((Fr.refl _ _).alloc _).join h2 fun _ _ e => e))

end
end Go.Proofs.YtipgaafgnefmdaaGreatDoor


namespace Go.Proofs.YtipgaafgnefmdaaGreatDoor
set_option linter.unusedVariables false
set_option linter.unusedSimpArgs false
set_option maxRecDepth 100000

abbrev Tx := List UInt8

end Go.Proofs.YtipgaafgnefmdaaGreatDoor


namespace Go.Proofs.YtipgaafgnefmdaaGreatDoor
set_option linter.unusedVariables false
set_option linter.unusedSimpArgs false
set_option maxRecDepth 100000
open Go.RowKit

/-- a letter, a digit -/
def ltrI (r : Int) : Bool := decide (97 ≤ r) && decide (r ≤ 122)
def dgtI (r : Int) : Bool := decide (48 ≤ r) && decide (r ≤ 57)
/-- may r stand at j? -/
def okI (j : Nat) (r : Int) : Bool := ltrI r || (decide (j ≠ 0) && (dgtI r || decide (r = 95)))
/-- the words of queries -/
def wordsL : List (List UInt8) := [[97, 110, 100], [111, 114], [110, 111, 116], [105, 115], [110, 117, 108, 108], [108, 105, 107, 101], [116, 114, 117, 101], [102, 97, 108, 115, 101], [115, 101, 108, 101, 99, 116], [102, 114, 111, 109], [119, 104, 101, 114, 101], [103, 114, 111, 117, 112], [98, 121], [97, 108, 108], [99, 111, 117, 110, 116], [104, 97, 115], [115, 117, 109], [109, 105, 110], [109, 97, 120]]
def nmOk (l : List UInt8) : Prop := ∀ j (h : j < l.length), okI j (l[j]).toNat = true
instance (l : List UInt8) : Decidable (nmOk l) := inferInstanceAs (Decidable (∀ j (h : j < l.length), okI j (l[j]).toNat = true))
/-- may l be a name? -/
def nameB (l : List UInt8) : Bool := decide (1 ≤ l.length ∧ l.length ≤ 12 ∧ l ∉ wordsL ∧ nmOk l)

theorem name_yes {l : List UInt8} (h1 : 1 ≤ l.length) (h2 : l.length ≤ 12) (h3 : l ∉ wordsL) (h4 : nmOk l) : nameB l = true := decide_eq_true ⟨h1, h2, h3, h4⟩
theorem name_nil {l : List UInt8} (h : l.length = 0) : nameB l = false := decide_eq_false fun h' => by omega
theorem name_long {l : List UInt8} (h : 12 < l.length) : nameB l = false := decide_eq_false fun h' => by omega
theorem name_word {l : List UInt8} (h : l ∈ wordsL) : nameB l = false := decide_eq_false fun h' => h'.2.2.1 h
theorem name_bad {l : List UInt8} {j : Nat} (h : j < l.length) (hb : okI j (l[j]).toNat = false) : nameB l = false := decide_eq_false fun h' => by
  have := h'.2.2.2 j h; rw [hb] at this; cases this
theorem okI_high {j : Nat} {r : Int} (h : 128 ≤ r) : okI j r = false := by
  unfold okI ltrI dgtI
  rw [decide_eq_false (show ¬ r ≤ 122 by omega), decide_eq_false (show ¬ r ≤ 57 by omega), decide_eq_false (show ¬ r = 95 by omega)]
  simp
end Go.Proofs.YtipgaafgnefmdaaGreatDoor


namespace Go.Proofs.YtipgaafgnefmdaaGreatDoor
set_option linter.unusedVariables false
set_option linter.unusedSimpArgs false
set_option maxRecDepth 100000

/-- the number that bytes begin with, from its i-th byte on, acc being what the bytes ahead of it make -/
def rd (i acc : Nat) : List UInt8 → Option (Nat × List UInt8)
  | [] => none
  | c :: r => if (i = 9 ∧ 1 < c.toNat) ∨ (0 < i ∧ c.toNat = 0) then none else if c.toNat < 128 then some (acc + c.toNat * 128 ^ i, r) else rd (i + 1) (acc + (c.toNat - 128) * 128 ^ i) r

end Go.Proofs.YtipgaafgnefmdaaGreatDoor


namespace Go.Proofs.YtipgaafgnefmdaaGreatDoor
set_option linter.unusedVariables false
set_option linter.unusedSimpArgs false
set_option maxRecDepth 100000
open Go.RowKit

/-- a row of slices, from the head of block g on, that read as the lists ls -/
def Parts (w : World) (g : Nat) (xs : List Value) (ls : List (List UInt8)) : Prop :=
  xs.length = ls.length ∧ ∀ j x l, xs[j]? = some x → ls[j]? = some l → w.cell? ⟨g, j, none⟩ = some x ∧ Bs w x l
theorem Parts.non {w w' : World} {g : Nat} {xs : List Value} {ls : List (List UInt8)} (h : Parts w g xs ls) (hf : Fr Non w w') : Parts w' g xs ls :=
  ⟨h.1, fun j x l hx hl => by
    obtain ⟨h1, h2⟩ := h.2 j x l hx hl
    exact ⟨(hf.cell (p := ⟨g, j, none⟩) (World.block_lt_of_cell? w _ h1) (fun e => e)).trans h1, h2.non hf⟩⟩
theorem Parts.two {w : World} {t : TypeId} {x y : Value} {l m : List UInt8} (hx : Bs w x l) (hy : Bs w y m) : Parts (w.alloc (.cells #[x, y] t)) w.heap.size [x, y] [l, m] := by
  refine ⟨rfl, fun j u k hu hk => ?_⟩
  have hb := Blk.new w t #[x, y]
  have hf : Fr Non w (w.alloc (.cells #[x, y] t)) := (Fr.refl _ _).alloc _
  match j with
  | 0 =>
    obtain rfl : x = u := by simpa using hu
    obtain rfl : l = k := by simpa using hk
    exact ⟨hb.cell 0, hx.non hf⟩
  | 1 =>
    obtain rfl : y = u := by simpa using hu
    obtain rfl : m = k := by simpa using hk
    exact ⟨hb.cell 1, hy.non hf⟩
  | j + 2 => simp at hu

theorem Own.shape {w : World} {B : Nat} {v : Value} {l : List UInt8} (h : Own w B v l) : ∃ A c, v = .slice A l.length c := h.bs.shape

end Go.Proofs.YtipgaafgnefmdaaGreatDoor


namespace Go.Proofs.YtipgaafgnefmdaaGreatDoor
set_option linter.unusedVariables false
set_option linter.unusedSimpArgs false
set_option maxRecDepth 100000
open Go.RowKit

theorem byte_at (l : List UInt8) (k : Nat) (c : UInt8) (hk : k < l.length) (hc : l[k] = c) : ∀ h : k < ByteArray.size ⟨l.toArray⟩, (⟨l.toArray⟩ : ByteArray)[k] = c := by
  intro h; exact hc

end Go.Proofs.YtipgaafgnefmdaaGreatDoor


namespace Go.Proofs.YtipgaafgnefmdaaGreatDoor
set_option linter.unusedVariables false
set_option linter.unusedSimpArgs false
set_option maxRecDepth 100000
open Go.RowKit

/-- what a number leaves -/
def rest (l : List UInt8) : List UInt8 := match rd 0 0 l with | none => [] | some (_, r) => r
end Go.Proofs.YtipgaafgnefmdaaGreatDoor


namespace Go.Proofs.YtipgaafgnefmdaaGreatDoor
set_option linter.unusedVariables false
set_option linter.unusedSimpArgs false
set_option maxRecDepth 100000
open Go.RowKit

/-- a cell: null or not, its number, its text -/
structure Cl where
  null : Bool
  num : Int
  txt : List UInt8
  deriving DecidableEq
/-- its cells, and its value -/
def clC (c : Cl) : Array Value := #[.bool c.null, .int .i64 c.num, .string ⟨c.txt.toArray⟩]
def clV (c : Cl) : Value := .agg (clC c)
/-- are two the same? -/
def ceq (a b : Cl) : Bool := decide (a = b)
theorem ceq_is {a b : Cl} (h : ceq a b = true) : a = b := by simpa [ceq] using h
theorem eq_parts (a b : Cl) : ceq a b = (a.null == b.null && (a.num == b.num && a.txt == b.txt)) := by
  obtain ⟨an, ai, at_⟩ := a
  obtain ⟨bn, bi, bt⟩ := b
  unfold ceq
  rw [Bool.eq_iff_iff]
  simp

theorem run_eql_cl (W : World) (a b : Cl) : (binOp .eql 25 (.agg #[.bool a.null, .int .i64 a.num, .string ⟨a.txt.toArray⟩]) (.agg #[.bool b.null, .int .i64 b.num, .string ⟨b.txt.toArray⟩])).run Tryz.prog W = .ok (.bool (ceq a b)) W := by
  rw [eq_parts]
  obtain ⟨an, ai, at_⟩ := a
  obtain ⟨bn, bi, bt⟩ := b
  go_simp
  by_cases h1 : an = bn <;> by_cases h2 : ai = bi <;> by_cases h3 : at_ = bt <;> simp [h1, h2, h3]
theorem csame_any (a b : Cl) (w : World) : Calls Tryz.prog 103 #[clV a, clV b] w fun e w' => e = .returned (.bool (ceq a b)) ∧ Fr Non w w' := by
  have h := fun W => run_eql_cl W a b
  unfold clV clC
  go_enter Tryz.func103, Tryz.ntmps103
  go_wp2
  go_ret
  exact ⟨rfl, ((Fr.refl _ _).alloc _).alloc _⟩

/-- is there such a type? -/
def isTy (ty : Int) : Bool := ty == 1 || ty == 2 || ty == 3
/-- which cells there may be -/
def mayC (ty : Int) (nl : Bool) (c : Cl) : Bool :=
  isTy ty && (if c.null then nl && (c.num == 0 && c.txt.isEmpty) else if ty = 3 then c.num == 0 && decide (c.txt.length ≤ 40) else c.txt.isEmpty && (ty == 1 || (c.num == 0 || c.num == 1)))

theorem istype_any (ty : Int) (w : World) : Calls Tryz.prog 119 #[.int .i64 ty] w fun e w' => e = .returned (.bool (isTy ty)) ∧ w = w' := by
  go_enter Tryz.func119, Tryz.ntmps119
  go_wp2
  all_goals
    go_ret
    exact ⟨ret_boolE (by simp_all [isTy]), rfl⟩

theorem slen (l : List UInt8) : ByteArray.size ⟨l.toArray⟩ = l.length := by simp [ByteArray.size]
theorem mayC_no {ty : Int} (h1 : ¬ ty = 1) (h2 : ¬ ty = 2) (h3 : ¬ ty = 3) (nl : Bool) (c : Cl) : mayC ty nl c = false := by
  simp [mayC, isTy, h1, h2, h3]
theorem mayC_null (ty : Int) (nl : Bool) (i : Int) (t : Tx) : mayC ty nl ⟨true, i, t⟩ = (nl && (isTy ty && ceq ⟨true, i, t⟩ ⟨true, 0, []⟩)) := by
  rw [eq_parts]
  unfold mayC
  cases isTy ty <;> cases nl <;> cases t <;> simp

set_option maxHeartbeats 1000000 in
theorem may_any (ty : Int) (nl : Bool) (c : Cl) (w : World) : Calls Tryz.prog 105 #[.int .i64 ty, .bool nl, clV c] w fun e w' => e = .returned (.bool (mayC ty nl c)) ∧ Fr Non w w' := by
  obtain ⟨n, i, t⟩ := c
  unfold clV clC
  cases n
  · have hs := slen t
    by_cases h1 : ty = 1
    · subst h1
      go_enter Tryz.func105, Tryz.ntmps105
      go_wp2
      all_goals
        go_ret
        exact ⟨ret_boolE (by first | rfl | (simp [mayC, isTy]; done) | (simp_all [mayC, isTy]; done) | (simp_all [mayC, isTy] <;> omega)), (Fr.refl _ _).alloc _⟩
    · by_cases h2 : ty = 2
      · subst h2
        go_enter Tryz.func105, Tryz.ntmps105
        go_wp2
        all_goals
          go_ret
          exact ⟨ret_boolE (by first | rfl | (simp [mayC, isTy]; done) | (simp_all [mayC, isTy]; done) | (simp_all [mayC, isTy] <;> omega)), (Fr.refl _ _).alloc _⟩
      · by_cases h3 : ty = 3
        · subst h3
          go_enter Tryz.func105, Tryz.ntmps105
          go_wp2
          all_goals
            go_ret
            exact ⟨ret_boolE (by first | rfl | (simp [mayC, isTy]; done) | (simp_all [mayC, isTy]; done) | (simp_all [mayC, isTy] <;> omega)), (Fr.refl _ _).alloc _⟩
        · have H := Lib.hid (mayC_no h1 h2 h3 nl ⟨false, i, t⟩)
          go_enter Tryz.func105, Tryz.ntmps105
          go_wp2
          go_ret
          exact ⟨ret_boolE H.out.symm, (Fr.refl _ _).alloc _⟩
  · have H := Lib.hid (mayC_null ty nl i t)
    cases nl
    · go_enter Tryz.func105, Tryz.ntmps105
      go_wp2
      go_ret
      exact ⟨ret_boolE (by rw [H.out]; rfl), (Fr.refl _ _).alloc _⟩
    · cases hT : isTy ty with
      | false =>
        have h0 := fun W => istype_any ty W
        simp only [hT] at h0
        have HT := Lib.hid hT
        clear hT
        go_enter Tryz.func105, Tryz.ntmps105
        go_wp2_with fail
        refine (h0 _).mono ?_
        rintro e w1 ⟨rfl, rfl⟩
        go_wp2
        go_ret
        exact ⟨ret_boolE (by rw [H.out, HT.out]; rfl), (Fr.refl _ _).alloc _⟩
      | true =>
        have h0 := fun W => istype_any ty W
        simp only [hT] at h0
        have HT := Lib.hid hT
        clear hT
        go_enter Tryz.func105, Tryz.ntmps105
        go_wp2_with fail
        refine (h0 _).mono ?_
        rintro e w1 ⟨rfl, rfl⟩
        go_wp2_with fail
        refine (csame_any ⟨true, i, t⟩ ⟨true, 0, []⟩ _).mono ?_
        rintro e w1 ⟨rfl, hf1⟩
        go_wp2
        go_ret
        exact ⟨ret_boolE (by rw [H.out, HT.out]; rfl), ((Fr.refl _ _).alloc _).trans hf1⟩

set_option maxHeartbeats 1000000 in
theorem rmay_any (ty : Int) (nl : Bool) (c : Cl) (w : World) : Calls Tryz.prog 90 #[.int .i64 ty, .bool nl, clV c] w fun e w' => e = .returned (.bool (mayC ty nl c)) ∧ Fr Non w w' := by
  obtain ⟨n, i, t⟩ := c
  unfold clV clC
  by_cases h0 : ty < 1
  · have H := Lib.hid (mayC_no (ty := ty) (by omega) (by omega) (by omega) nl ⟨n, i, t⟩)
    go_enter Tryz.func90, Tryz.ntmps90
    go_wp2
    go_ret
    exact ⟨ret_boolE H.out.symm, (Fr.refl _ _).alloc _⟩
  · by_cases h4 : 3 < ty
    · have H := Lib.hid (mayC_no (ty := ty) (by omega) (by omega) (by omega) nl ⟨n, i, t⟩)
      go_enter Tryz.func90, Tryz.ntmps90
      go_wp2
      go_ret
      exact ⟨ret_boolE H.out.symm, (Fr.refl _ _).alloc _⟩
    · have hs := slen t
      have h3 : ty = 1 ∨ ty = 2 ∨ ty = 3 := by omega
      clear h0 h4
      cases n
      · rcases h3 with h | h | h
        · subst h
          go_enter Tryz.func90, Tryz.ntmps90
          go_wp2
          all_goals
            go_ret
            exact ⟨ret_boolE (by first | rfl | (simp [mayC, isTy]; done) | (simp_all [mayC, isTy]; done) | (simp_all [mayC, isTy] <;> omega)), (Fr.refl _ _).alloc _⟩
        · subst h
          go_enter Tryz.func90, Tryz.ntmps90
          go_wp2
          all_goals
            go_ret
            exact ⟨ret_boolE (by first | rfl | (simp [mayC, isTy]; done) | (simp_all [mayC, isTy]; done) | (simp_all [mayC, isTy] <;> omega)), (Fr.refl _ _).alloc _⟩
        · subst h
          go_enter Tryz.func90, Tryz.ntmps90
          go_wp2
          all_goals
            go_ret
            exact ⟨ret_boolE (by first | rfl | (simp [mayC, isTy]; done) | (simp_all [mayC, isTy]; done) | (simp_all [mayC, isTy] <;> omega)), (Fr.refl _ _).alloc _⟩
      · have hT : isTy ty = true := by rcases h3 with rfl | rfl | rfl <;> rfl
        have hl : ¬ ty < 1 := by omega
        have hg : ¬ 3 < ty := by omega
        clear h3
        cases nl
        · go_enter Tryz.func90, Tryz.ntmps90
          go_wp2
          all_goals
            go_ret
            exact ⟨ret_boolE (by first | (simp [mayC, hT]; done) | (simp_all [mayC]; done)), (Fr.refl _ _).alloc _⟩
        · go_enter Tryz.func90, Tryz.ntmps90
          go_wp2
          all_goals
            go_ret
            exact ⟨ret_boolE (by first | (simp [mayC, hT]; done) | (simp_all [mayC]; done)), (Fr.refl _ _).alloc _⟩
end Go.Proofs.YtipgaafgnefmdaaGreatDoor


namespace Go.Proofs.YtipgaafgnefmdaaGreatDoor
set_option linter.unusedVariables false
set_option linter.unusedSimpArgs false
set_option maxRecDepth 100000

def digB (c : UInt8) : Bool := decide (48 ≤ c.toNat ∧ c.toNat ≤ 57)
/-- the number that digits are of -/
def numF (a : Nat) : List UInt8 → Nat
  | [] => a
  | c :: r => numF (10 * a + (c.toNat - 48)) r
def numD (l : List UInt8) : Nat := numF 0 l
theorem numF_app (l m : List UInt8) : ∀ a, numF a (l ++ m) = numF (numF a l) m := by
  induction l with
  | nil => intro a; rfl
  | cons c l ih => intro a; exact ih _
theorem numF_le : ∀ (l : List UInt8) (a : Nat), a ≤ numF a l
  | [], a => Nat.le_refl _
  | c :: l, a => by have := numF_le l (10 * a + (c.toNat - 48)); unfold numF; omega
theorem numF_lt : ∀ (l : List UInt8) (a k : Nat), l.all digB = true → a < 10 ^ k → numF a l < 10 ^ (k + l.length)
  | [], a, k, _, h => h
  | c :: l, a, k, hd, h => by
    rw [List.all_cons, Bool.and_eq_true] at hd
    have h1 := hd.1
    simp only [digB, decide_eq_true_eq] at h1
    have := numF_lt l (10 * a + (c.toNat - 48)) (k + 1) hd.2 (by rw [Nat.pow_succ]; omega)
    rw [List.length_cons, show k + (l.length + 1) = k + 1 + l.length by omega]
    exact this
theorem dec_digits (u : Nat) : (Lib.decDigits u).all digB = true := by
  induction u using Nat.strongRecOn with
  | _ u ih =>
    by_cases h : u < 10
    · rw [Lib.decDigits, dif_pos h]
      have : (UInt8.ofNat (48 + u)).toNat = 48 + u := by rw [UInt8.toNat_ofNat']; omega
      simp [digB, this]; omega
    · rw [Lib.decDigits, dif_neg h, List.all_append, ih _ (by omega)]
      have : (UInt8.ofNat (48 + u % 10)).toNat = 48 + u % 10 := by rw [UInt8.toNat_ofNat']; omega
      simp [digB, this]; omega
theorem dec_num (u : Nat) : numD (Lib.decDigits u) = u := by
  induction u using Nat.strongRecOn with
  | _ u ih =>
    by_cases h : u < 10
    · rw [Lib.decDigits, dif_pos h]
      have : (UInt8.ofNat (48 + u)).toNat = 48 + u := by rw [UInt8.toNat_ofNat']; omega
      show 10 * 0 + ((UInt8.ofNat (48 + u)).toNat - 48) = u
      rw [this]; omega
    · rw [Lib.decDigits, dif_neg h]
      unfold numD
      rw [numF_app]
      have e := ih (u / 10) (by omega)
      unfold numD at e
      rw [e]
      have : (UInt8.ofNat (48 + u % 10)).toNat = 48 + u % 10 := by rw [UInt8.toNat_ofNat']; omega
      show 10 * (u / 10) + ((UInt8.ofNat (48 + u % 10)).toNat - 48) = u
      rw [this]; omega
theorem dec_pos (u : Nat) : 1 ≤ (Lib.decDigits u).length := by rw [Lib.decDigits_length]; exact Lib.nDigits_pos u
theorem dec_le {u k : Nat} (h : u < 10 ^ (k + 1)) : (Lib.decDigits u).length ≤ k + 1 := by
  rw [Lib.decDigits_length]
  have h1 := Lib.lt_pow_nDigits u
  by_cases hc : Lib.nDigits u ≤ k + 1
  · exact hc
  · exfalso
    have : ∀ (j v : Nat), v < 10 ^ (j + 1) → Lib.nDigits v ≤ j + 1 := by
      intro j
      induction j with
      | zero => intro v hv; rw [Lib.nDigits_small (by simpa using hv)]; omega
      | succ j ih =>
        intro v hv
        by_cases hs : v < 10
        · rw [Lib.nDigits_small hs]; omega
        · rw [Lib.nDigits_big hs]
          have := ih (v / 10) (by rw [Nat.pow_succ] at hv; omega)
          omega
    exact hc (this k u h)

/-- int64 -/
def I64b (x : Int) : Prop := -9223372036854775808 ≤ x ∧ x ≤ 9223372036854775807
theorem parseM_all (M : Nat) (hM : M ≤ 18446744073709551615) : ∀ (l : List UInt8) (a : Nat), l.all digB = true → numF a l ≤ M → Lib.parseUintM M a l = .ok (numF a l)
  | [], a, _, _ => rfl
  | c :: l, a, hd, h => by
    rw [List.all_cons, Bool.and_eq_true] at hd
    have h1 := hd.1
    simp only [digB, decide_eq_true_eq] at h1
    have hle := numF_le l (10 * a + (c.toNat - 48))
    unfold numF at h
    unfold Lib.parseUintM numF
    rw [if_pos h1, if_neg (by omega), if_neg (by omega), show a * 10 + (c.toNat - 48) = 10 * a + (c.toNat - 48) by omega]
    exact parseM_all M hM l _ hd.2 h
theorem parseB_dec (u : Nat) (h : u ≤ 18446744073709551615) : Lib.parseUintB 64 (Lib.decDigits u) = .ok u := by
  unfold Lib.parseUintB
  have hp := dec_pos u
  rw [if_neg (by intro e; rw [e] at hp; simp at hp)]
  have e := dec_num u
  unfold numD at e
  have := parseM_all (2 ^ 64 - 1) (by decide) (Lib.decDigits u) 0 (dec_digits u) (by rw [e]; omega)
  rw [e] at this
  exact this
theorem itoa_up (u : Nat) : Lib.itoa (u : Int) = Lib.decDigits u := Lib.itoa_nonneg u
theorem itoa_down (u : Nat) (h : 1 ≤ u) : Lib.itoa (-(u : Int)) = 45 :: Lib.decDigits u := Lib.itoa_neg u h
theorem int_ways (v : Int) : (∃ u : Nat, v = (u : Int)) ∨ ∃ u : Nat, 1 ≤ u ∧ v = -(u : Int) := by
  by_cases h : 0 ≤ v
  · exact .inl ⟨v.toNat, by omega⟩
  · exact .inr ⟨(-v).toNat, by omega, by omega⟩
theorem parse_itoa (v : Int) (h : I64b v) : Lib.parseIntB 64 (Lib.itoa v) = .ok v := by
  unfold I64b at h
  rcases int_ways v with ⟨u, rfl⟩ | ⟨u, hu, rfl⟩
  · rw [itoa_up]
    have hd := dec_digits u
    have hp := dec_pos u
    have hb := parseB_dec u (by omega)
    cases hl : Lib.decDigits u with
    | nil => rw [hl] at hp; simp at hp
    | cons c r =>
      rw [hl] at hd hb
      rw [List.all_cons, Bool.and_eq_true] at hd
      have h1 := hd.1
      simp only [digB, decide_eq_true_eq] at h1
      rw [Lib.parseIntB_plain 64 c r (by omega) (by omega), hb]
      show (if 2 ^ (64 - 1) ≤ u then Lib.NumEnd.range else Lib.NumEnd.ok (u : Int)) = _
      rw [if_neg (by omega)]
  · rw [itoa_down u hu, Lib.parseIntB_minus, parseB_dec u (by omega)]
    show (if 2 ^ (64 - 1) < u then Lib.NumEnd.range else Lib.NumEnd.ok (-(u : Int))) = _
    rw [if_neg (by omega)]
/-- the number of which a text is the digits -/
def valB (l : List UInt8) : Option Int :=
  match Lib.parseIntB 64 l with
  | .ok v => if Lib.itoa v = l then some v else none
  | _ => none
theorem valB_itoa {v : Int} (h : I64b v) : valB (Lib.itoa v) = some v := by
  unfold valB
  rw [parse_itoa v h]
  simp
theorem valB_is {l : List UInt8} {v : Int} (h : valB l = some v) : I64b v ∧ Lib.itoa v = l := by
  unfold valB at h
  split at h
  · rename_i x hx
    have hb := Lib.parseIntB_bounds hx
    split at h
    · rename_i he
      obtain rfl := Option.some.inj h
      refine ⟨?_, he⟩
      unfold I64b
      have e : (2 ^ (64 - 1) : Nat) = 9223372036854775808 := rfl
      rw [e] at hb
      omega
    · cases h
  · cases h
/-- a reader that reckons x, of whatever make -/
theorem valB_by {l : List UInt8} {x : Int} (hx : I64b x) (h : ∀ v, I64b v → Lib.itoa v = l → v = x) : valB l = if Lib.itoa x = l then some x else none := by
  by_cases e : Lib.itoa x = l
  · rw [if_pos e, ← e]; exact valB_itoa hx
  · rw [if_neg e]
    cases hv : valB l with
    | none => rfl
    | some v =>
      have hw := valB_is hv
      exact absurd (by rw [← h v hw.1 hw.2]; exact hw.2) e
/-- what digits are a number's are digits, one to nineteen of them -/
theorem itoa_shape {l : List UInt8} {v : Int} (hv : I64b v) (h : Lib.itoa v = l) :
    (v = ((numD l : Nat) : Int) ∧ l.all digB = true ∧ 1 ≤ l.length ∧ l.length ≤ 19) ∨ ∃ d, l = 45 :: d ∧ v = -((numD d : Nat) : Int) ∧ d.all digB = true ∧ 1 ≤ d.length ∧ d.length ≤ 19 := by
  unfold I64b at hv
  rcases int_ways v with ⟨u, rfl⟩ | ⟨u, hu, rfl⟩
  · left
    rw [itoa_up] at h
    subst h
    refine ⟨by rw [dec_num], dec_digits u, dec_pos u, dec_le (k := 18) (by omega)⟩
  · right
    rw [itoa_down u hu] at h
    exact ⟨_, h.symm, by rw [dec_num], dec_digits u, dec_pos u, dec_le (k := 18) (by omega)⟩

/-! ### Replacing -/
theorem rep_hit {s old new : List UInt8} (hne : old ≠ []) (h : old.isPrefixOf s = true) :
    Lib.replaceK old new (Lib.count s old) s = new ++ Lib.replaceK old new (Lib.count (s.drop old.length) old) (s.drop old.length) := by
  have hi : Lib.index s old = ((0 : Nat) : Int) := by
    cases s with
    | nil => cases old with
      | nil => exact absurd rfl hne
      | cons a t => simp at h
    | cons b l => unfold Lib.index; rw [if_pos h]; rfl
  rw [Lib.count_hit hne hi, Nat.add_comm, Lib.replaceK_hit old new _ s 0 hi]
  simp
theorem rep_miss {c : UInt8} {s old new : List UInt8} (hne : old ≠ []) (h : old.isPrefixOf (c :: s) = false) :
    Lib.replaceK old new (Lib.count (c :: s) old) (c :: s) = c :: Lib.replaceK old new (Lib.count s old) s := by
  rcases Lib.index_spec s old with ⟨h1, _⟩ | ⟨i, h1, _⟩
  · have h2 : Lib.index (c :: s) old = -1 := by unfold Lib.index; rw [h, h1]; rfl
    rw [Lib.count_miss h1, Lib.count_miss h2]
    rfl
  · have h2 : Lib.index (c :: s) old = ((i + 1 : Nat) : Int) := by
      unfold Lib.index
      rw [h, h1]
      have : ((i : Int) == -1) = false := by rw [beq_eq_false_iff_ne]; omega
      simp [this]
    rw [Lib.count_hit hne h1, Lib.count_hit hne h2, Nat.add_comm 1, Nat.add_comm 1, Lib.replaceK_hit old new _ s i h1, Lib.replaceK_hit old new _ (c :: s) (i + 1) h2]
    rw [show i + 1 + old.length = (i + old.length) + 1 by omega]
    simp [List.take_succ_cons]
theorem rep_none {old new : List UInt8} (hne : old ≠ []) : Lib.replaceK old new (Lib.count [] old) [] = [] := by
  have : Lib.index [] old = -1 := by
    cases old with
    | nil => exact absurd rfl hne
    | cons a t => rfl
  rw [Lib.count_miss this]; rfl
theorem rep_all {s old new : List UInt8} (h : old ≠ new) : Lib.replaceAll s old new = Lib.replaceK old new (Lib.count s old) s := by
  unfold Lib.replaceAll Lib.replace Lib.replaceNum
  rw [if_neg (by simpa using h), if_pos (by omega)]

/-- each quote twice -/
def dblB : List UInt8 → List UInt8
  | [] => []
  | c :: r => if c = 39 then 39 :: 39 :: dblB r else c :: dblB r
/-- each two quotes once -/
def unqB : List UInt8 → List UInt8
  | [] => []
  | [c] => [c]
  | c :: d :: r => if c = 39 ∧ d = 39 then 39 :: unqB r else c :: unqB (d :: r)
theorem unq_rep (s : List UInt8) : Lib.replaceAll s [39, 39] [39] = unqB s := by
  rw [rep_all (by decide)]
  fun_induction unqB s with
  | case1 => exact rep_none (by decide)
  | case2 c => rw [rep_miss (by decide) (by simp [List.isPrefixOf]), rep_none (by decide)]
  | case3 c d r h ih =>
    obtain ⟨rfl, rfl⟩ := h
    rw [rep_hit (by decide) (by simp)]
    simp only [List.length_cons, List.length_nil, List.drop_succ_cons, List.drop_zero]
    rw [ih]; rfl
  | case4 c d r h ih =>
    rw [rep_miss (by decide) (by
      rw [Bool.eq_false_iff]
      intro e
      simp [List.isPrefixOf] at e
      exact h ⟨e.1.symm, e.2.symm⟩), ih]
theorem count_len (s old : List UInt8) : Lib.count s old ≤ s.length + 1 := Lib.count_le s old
end Go.Proofs.YtipgaafgnefmdaaGreatDoor


namespace Go.Proofs.YtipgaafgnefmdaaGreatDoor
set_option linter.unusedVariables false
set_option linter.unusedSimpArgs false
set_option maxRecDepth 100000

/-- the rune at a text's head, and its width -/
def dcU (l : List UInt8) : Nat × Nat := Lib.decodeN l.length (l.getD 0 0).toNat (l.getD 1 0).toNat (l.getD 2 0).toNat (l.getD 3 0).toNat

theorem getbU (l : List UInt8) (i : Nat) : (⟨l.toArray⟩ : ByteArray).get! i = l.getD i 0 := by
  simp only [ByteArray.get!, List.getElem!_toArray, List.getD_eq_getElem?_getD]
  by_cases h : i < l.length
  · simp [h]
  · simp [List.getElem?_eq_none (Nat.le_of_not_lt h)]
    rfl
theorem dcU_at (l : List UInt8) (k : Nat) : Utf8.decode ⟨l.toArray⟩ k = dcU (l.drop k) := by
  rw [Lib.decode_at]
  unfold dcU
  simp only [getbU]
  have hs : ByteArray.size ⟨l.toArray⟩ = l.length := by simp [ByteArray.size]
  rw [hs, List.length_drop]
  simp only [List.getD_eq_getElem?_getD, List.getElem?_drop, Nat.add_zero]

theorem decN_w (n b0 b1 b2 b3 : Nat) (hn : 1 ≤ n) : 1 ≤ (Lib.decodeN n b0 b1 b2 b3).2 ∧ (Lib.decodeN n b0 b1 b2 b3).2 ≤ n := by
  unfold Lib.decodeN
  repeat' split
  all_goals simp only
  all_goals omega
theorem dcU_w {l : List UInt8} (h : l ≠ []) : 1 ≤ (dcU l).2 ∧ (dcU l).2 ≤ l.length := decN_w _ _ _ _ _ (List.length_pos_iff.2 h)
/-! ### Put together -/
theorem dcU_low {c : UInt8} (l : List UInt8) (h : c.toNat < 128) : dcU (c :: l) = (c.toNat, 1) := by
  unfold dcU Lib.decodeN
  simp [h]
/-! ### The bytes of runes -/
end Go.Proofs.YtipgaafgnefmdaaGreatDoor


namespace Go.Proofs.YtipgaafgnefmdaaGreatDoor
set_option linter.unusedVariables false
set_option linter.unusedSimpArgs false
set_option maxRecDepth 100000

def letB (c : UInt8) : Bool := decide (97 ≤ c.toNat ∧ c.toNat ≤ 122)
def innB (c : UInt8) : Bool := letB c || digB c || decide (c.toNat = 95)
def blkB (c : UInt8) : Bool := decide (c.toNat = 32 ∨ c.toNat = 9 ∨ c.toNat = 10)
/-- the same, of runes -/
def letR (r : Nat) : Bool := decide (97 ≤ r ∧ r ≤ 122)
def digR (r : Nat) : Bool := decide (48 ≤ r ∧ r ≤ 57)
def innR (r : Nat) : Bool := letR r || digR r || decide (r = 95)
def blkR (r : Nat) : Bool := decide (r = 32 ∨ r = 9 ∨ r = 10)

/-! ### A rune at a text's head -/
theorem decN_high (n b0 b1 b2 b3 : Nat) (h : 128 ≤ b0) : 128 ≤ (Lib.decodeN n b0 b1 b2 b3).1 ∧
    (1 < (Lib.decodeN n b0 b1 b2 b3).2 → 128 ≤ b1) ∧ (2 < (Lib.decodeN n b0 b1 b2 b3).2 → 128 ≤ b2) ∧ (3 < (Lib.decodeN n b0 b1 b2 b3).2 → 128 ≤ b3) ∧ (Lib.decodeN n b0 b1 b2 b3).2 ≤ 4 := by
  unfold Lib.decodeN
  rw [if_neg (by omega)]
  repeat' split
  all_goals simp only
  all_goals omega
theorem dcU_hi {c : UInt8} {r : List UInt8} (h : 128 ≤ c.toNat) : 128 ≤ (dcU (c :: r)).1 ∧ ∀ j, j < (dcU (c :: r)).2 → 128 ≤ ((c :: r).getD j 0).toNat := by
  have H := decN_high (c :: r).length ((c :: r).getD 0 0).toNat ((c :: r).getD 1 0).toNat ((c :: r).getD 2 0).toNat ((c :: r).getD 3 0).toNat h
  refine ⟨H.1, fun j hj => ?_⟩
  have hj' : j < (Lib.decodeN (c :: r).length ((c :: r).getD 0 0).toNat ((c :: r).getD 1 0).toNat ((c :: r).getD 2 0).toNat ((c :: r).getD 3 0).toNat).2 := hj
  match j, hj' with
  | 0, _ => exact h
  | 1, hj' => exact H.2.1 hj'
  | 2, hj' => exact H.2.2.1 hj'
  | 3, hj' => exact H.2.2.2.1 hj'
  | j + 4, hj' => have := H.2.2.2.2; omega
theorem lo_or_hi (c : UInt8) : c.toNat < 128 ∨ 128 ≤ c.toNat := by omega
theorem byt_is (c : UInt8) (n : Nat) (h : n < 256) : (c = UInt8.ofNat n) ↔ c.toNat = n := by
  constructor
  · intro e; subst e; rw [UInt8.toNat_ofNat']; omega
  · intro e; apply UInt8.toNat.inj; rw [UInt8.toNat_ofNat']; omega
/-- a property of low runes, of a text's first rune and of its first byte -/
theorem rune_by (p : Nat → Bool) (hp : ∀ r, 128 ≤ r → p r = false) (c : UInt8) (r : List UInt8) : p (dcU (c :: r)).1 = p c.toNat := by
  rcases lo_or_hi c with h | h
  · rw [dcU_low r h]
  · rw [hp _ (dcU_hi h).1, hp _ h]
theorem let_rune (c : UInt8) (r : List UInt8) : letR (dcU (c :: r)).1 = letB c := rune_by letR (fun r h => by simp [letR]; omega) c r
theorem dig_rune (c : UInt8) (r : List UInt8) : digR (dcU (c :: r)).1 = digB c := rune_by digR (fun r h => by simp [digR]; omega) c r
theorem inn_rune (c : UInt8) (r : List UInt8) : innR (dcU (c :: r)).1 = innB c := rune_by innR (fun r h => by simp [innR, letR, digR]; omega) c r
theorem blk_rune (c : UInt8) (r : List UInt8) : blkR (dcU (c :: r)).1 = blkB c := rune_by blkR (fun r h => by simp [blkR]; omega) c r
theorem is_rune (n : Nat) (hn : n < 128) (c : UInt8) (r : List UInt8) : ((dcU (c :: r)).1 = n) ↔ c = UInt8.ofNat n := by
  rw [byt_is c n (by omega)]
  have := rune_by (fun r => decide (r = n)) (fun r h => by simp; omega) c r
  simpa using this
theorem letB_lo {c : UInt8} (h : letB c = true) : c.toNat < 128 := by simp [letB] at h; omega
theorem digB_lo {c : UInt8} (h : digB c = true) : c.toNat < 128 := by simp [digB] at h; omega
theorem innB_lo {c : UInt8} (h : innB c = true) : c.toNat < 128 := by simp [innB, letB, digB] at h; omega
theorem blkB_lo {c : UInt8} (h : blkB c = true) : c.toNat < 128 := by simp [blkB] at h; omega

/-! ### As long as may be -/
def spanN (p : UInt8 → Bool) : List UInt8 → Nat
  | [] => 0
  | c :: l => if p c then spanN p l + 1 else 0
theorem span_le (p : UInt8 → Bool) : ∀ l, spanN p l ≤ l.length
  | [] => Nat.le_refl _
  | c :: l => by have := span_le p l; unfold spanN; split <;> simp <;> omega
theorem span_yes {p : UInt8 → Bool} {c : UInt8} {l : List UInt8} (h : p c = true) : spanN p (c :: l) = spanN p l + 1 := by
  show (if p c then _ else _) = _; rw [if_pos h]
theorem span_no {p : UInt8 → Bool} {c : UInt8} {l : List UInt8} (h : p c = false) : spanN p (c :: l) = 0 := by
  show (if p c then _ else _) = _; rw [if_neg (by simp [h])]
theorem span_all (p : UInt8 → Bool) : ∀ l : List UInt8, (l.take (spanN p l)).all p = true
  | [] => rfl
  | c :: l => by
    cases h : p c with
    | true => rw [span_yes h, List.take_succ_cons, List.all_cons, h, span_all p l]; rfl
    | false => rw [span_no h]; rfl
/-! ### Texts -/
/-- behind a quote: the text, and of how many bytes it is, its end among them -/
def qtB : List UInt8 → Option (List UInt8 × Nat)
  | [] => none
  | [c] => if c = 39 then some ([], 1) else none
  | c :: d :: r =>
    if c = 39 then (if d = 39 then (qtB r).map fun x => (39 :: x.1, x.2 + 2) else some ([], 1))
    else (qtB (d :: r)).map fun x => (c :: x.1, x.2 + 1)
/-- where it ends, by what was seen last -/
def clB : Bool → List UInt8 → Option Nat
  | e, [] => if e then some 0 else none
  | e, c :: r => if c = 39 then (clB (!e) r).map (· + 1) else if e then some 0 else (clB false r).map (· + 1)
theorem qt_cl (r : List UInt8) : clB false r = (qtB r).map (·.2) := by
  fun_induction qtB r with
  | case1 => rfl
  | case2 => rfl
  | case3 c h => simp [clB, h]
  | case4 r ih =>
    simp only [clB, if_true, Bool.not_false, Bool.not_true, ih]
    cases qtB r <;> simp
  | case5 d r h => simp [clB, h]
  | case6 c d r h ih =>
    rw [clB, if_neg h, ih]
    simp only [Bool.false_eq_true, if_false]
    cases qtB (d :: r) <;> simp
theorem qt_le (r : List UInt8) : ∀ x, qtB r = some x → 1 ≤ x.2 ∧ x.2 ≤ r.length ∧ r[x.2 - 1]? = some 39 ∧ x.1 = unqB (r.take (x.2 - 1)) ∧ x.1.length ≤ r.length := by
  fun_induction qtB r with
  | case1 => intro x h; cases h
  | case2 => intro x h; cases h; exact ⟨by simp, by simp, rfl, rfl, by simp⟩
  | case3 c h => intro x hx; cases hx
  | case4 r ih =>
    intro x h
    obtain ⟨y, hy, rfl⟩ := Option.map_eq_some_iff.1 h
    obtain ⟨h1, h2, h3, h4, h5⟩ := ih y hy
    obtain ⟨k, hk⟩ : ∃ k, y.2 = k + 1 := ⟨y.2 - 1, by omega⟩
    simp only [hk] at h3 h4 ⊢
    refine ⟨by omega, by simp; omega, by simpa using h3, ?_, by simp; omega⟩
    show 39 :: y.1 = unqB ((39 :: 39 :: r).take (k + 1 + 2 - 1))
    rw [show k + 1 + 2 - 1 = k + 2 by omega, h4, List.take_succ_cons, List.take_succ_cons, unqB, if_pos ⟨rfl, rfl⟩]
    rfl
  | case5 d r h => intro x hx; cases hx; exact ⟨by simp, by simp, rfl, rfl, by simp⟩
  | case6 c d r h ih =>
    intro x hx
    obtain ⟨y, hy, rfl⟩ := Option.map_eq_some_iff.1 hx
    obtain ⟨h1, h2, h3, h4, h5⟩ := ih y hy
    obtain ⟨k, hk⟩ : ∃ k, y.2 = k + 1 := ⟨y.2 - 1, by omega⟩
    simp only [hk] at h3 h4 h2 ⊢
    refine ⟨by omega, by simp at h2 ⊢; omega, by simpa using h3, ?_, by simp at h5 ⊢; omega⟩
    show c :: y.1 = unqB ((c :: d :: r).take (k + 1 + 1 - 1))
    rw [h4]
    cases k with
    | zero => rfl
    | succ k =>
      show c :: unqB (d :: r.take k) = unqB (c :: d :: r.take k)
      rw [unqB, if_neg (fun e => h e.1)]
theorem qt_dbl (s m : List UInt8) (hm : m.head? ≠ some 39) : qtB (dblB s ++ 39 :: m) = some (s, (dblB s).length + 1) := by
  induction s with
  | nil =>
    cases m with
    | nil => rfl
    | cons d m =>
      have hd : d ≠ 39 := fun e => hm (by simp [e])
      show qtB (39 :: d :: m) = _
      rw [qtB, if_pos rfl, if_neg hd]; rfl
  | cons c s ih =>
    by_cases h : c = 39
    · subst h
      rw [dblB, if_pos rfl]
      show qtB (39 :: 39 :: (dblB s ++ 39 :: m)) = _
      rw [qtB, if_pos rfl, if_pos rfl, ih]; rfl
    · rw [dblB, if_neg h]
      show qtB (c :: (dblB s ++ 39 :: m)) = _
      have : ∃ d r, dblB s ++ 39 :: m = d :: r := by
        cases dblB s with
        | nil => exact ⟨_, _, rfl⟩
        | cons d r => exact ⟨_, _, rfl⟩
      obtain ⟨d, r, e⟩ := this
      rw [e] at ih ⊢
      rw [qtB, if_neg h, ih]; rfl
/-! ### Marks -/
def marksL : List (List UInt8) := [[60, 62], [60, 61], [62, 61], [60], [62], [61], [44], [40], [41], [42]]
def mkT (l : List UInt8) : Option (List UInt8) := marksL.find? fun m => m.isPrefixOf l
theorem mkT_pre {l t : List UInt8} (h : mkT l = some t) : t.isPrefixOf l = true ∧ t ∈ marksL := by
  unfold mkT at h
  exact ⟨by simpa using List.find?_some h, List.mem_of_find?_eq_some h⟩

/-! ### Tokens -/
structure Tk where
  kind : Int
  txt : List UInt8
  num : Int
  at_ : Int
  deriving DecidableEq
def noTk : Tk := ⟨0, [], 0, 0⟩
def oneB : List UInt8 → Option (Tk × Nat)
  | [] => none
  | c :: r =>
    if letB c then some (⟨1, (c :: r).take (spanN innB (c :: r)), 0, 0⟩, spanN innB (c :: r))
    else if digB c || decide (c = 45) then (valB ((c :: r).take (1 + spanN digB r))).map fun v => (⟨2, [], v, 0⟩, 1 + spanN digB r)
    else if c = 39 then (qtB r).map fun x => (⟨3, x.1, 0, 0⟩, x.2 + 1)
    else (mkT (c :: r)).map fun t => (⟨4, t, 0, 0⟩, t.length)
theorem low_at {l : List UInt8} {p : UInt8 → Bool} {n : Nat} (h : (l.take n).all p = true) (hp : ∀ c, p c = true → c.toNat < 128) (h1 : 1 ≤ n) (h2 : n ≤ l.length) : ∃ d, l[n - 1]? = some d ∧ d.toNat < 128 := by
  have hlt : n - 1 < l.length := by omega
  refine ⟨l[n - 1], List.getElem?_eq_getElem hlt, hp _ ?_⟩
  rw [List.all_eq_true] at h
  exact h _ (List.mem_take_iff_getElem.2 ⟨n - 1, by omega, rfl⟩)
theorem one_is {c : UInt8} {r : List UInt8} {t : Tk} {n : Nat} (h : oneB (c :: r) = some (t, n)) : 1 ≤ n ∧ n ≤ (c :: r).length ∧ c.toNat < 128 ∧ (∃ d, (c :: r)[n - 1]? = some d ∧ d.toNat < 128) ∧ t.at_ = 0 ∧ blkB c = false := by
  simp only [oneB] at h
  split at h
  · rename_i hl
    obtain ⟨rfl, rfl⟩ := Prod.mk.inj (Option.some.inj h)
    have hi : innB c = true := by simp [innB, hl]
    have h1 : 1 ≤ spanN innB (c :: r) := by rw [span_yes hi]; omega
    exact ⟨h1, span_le _ _, letB_lo hl, low_at (span_all _ _) (fun _ => innB_lo) h1 (span_le _ _), rfl, by simp [letB] at hl; simp [blkB]; omega⟩
  split at h
  · rename_i hl hd
    obtain ⟨v, hv, he⟩ := Option.map_eq_some_iff.1 h
    obtain ⟨rfl, rfl⟩ := Prod.mk.inj he
    have hs := span_le digB r
    have hc : c.toNat < 128 ∧ blkB c = false := by
      rw [Bool.or_eq_true] at hd
      rcases hd with hd | hd
      · exact ⟨digB_lo hd, by simp [digB] at hd; simp [blkB]; omega⟩
      · obtain rfl : c = 45 := by simpa using hd
        exact ⟨by decide, by decide⟩
    refine ⟨by omega, by simp; omega, hc.1, ?_, rfl, hc.2⟩
    refine low_at (p := fun c => decide (c.toNat < 128)) ?_ (fun _ h => by simpa using h) (by omega) (by simp; omega)
    rw [Nat.add_comm, List.take_succ_cons, List.all_cons]
    have := span_all digB r
    rw [List.all_eq_true] at this
    rw [Bool.and_eq_true]
    refine ⟨by simpa using hc.1, List.all_eq_true.2 fun d hd => by simpa using digB_lo (this d hd)⟩
  split at h
  · rename_i hq
    obtain ⟨x, hx, he⟩ := Option.map_eq_some_iff.1 h
    obtain ⟨rfl, rfl⟩ := Prod.mk.inj he
    obtain ⟨h1, h2, h3, _⟩ := qt_le r x hx
    subst hq
    refine ⟨by omega, by simp; omega, by decide, ⟨39, ?_, by decide⟩, rfl, by decide⟩
    obtain ⟨k, hk⟩ : ∃ k, x.2 = k + 1 := ⟨x.2 - 1, by omega⟩
    rw [hk] at h3 ⊢
    simpa using h3
  · obtain ⟨m, hm, he⟩ := Option.map_eq_some_iff.1 h
    obtain ⟨rfl, rfl⟩ := Prod.mk.inj he
    obtain ⟨h1, h2⟩ := mkT_pre hm
    simp only [marksL, List.mem_cons, List.mem_nil_iff, or_false] at h2
    cases r with
    | nil =>
      rcases h2 with rfl | rfl | rfl | rfl | rfl | rfl | rfl | rfl | rfl | rfl <;> simp [List.isPrefixOf] at h1 <;> subst h1 <;> exact ⟨by decide, by simp, by decide, ⟨_, rfl, by decide⟩, rfl, by decide⟩
    | cons d r =>
      rcases h2 with rfl | rfl | rfl | rfl | rfl | rfl | rfl | rfl | rfl | rfl <;> simp [List.isPrefixOf] at h1
      all_goals first
        | (obtain ⟨rfl, rfl⟩ := h1; exact ⟨by decide, by simp, by decide, ⟨_, rfl, by decide⟩, rfl, by decide⟩)
        | (subst h1; exact ⟨by decide, by simp, by decide, ⟨_, rfl, by decide⟩, rfl, by decide⟩)

def putAt (t : Tk) (a : Nat) : Tk := ⟨t.kind, t.txt, t.num, a⟩
/-- ts, and then what is said -/
def preT (ts : List Tk) : Except Nat (List Tk) → Except Nat (List Tk)
  | .error e => .error e
  | .ok u => .ok (ts ++ u)
def tokN : Nat → Nat → List UInt8 → Except Nat (List Tk)
  | _, a, [] => .ok [⟨0, [], 0, a⟩]
  | 0, _, _ :: _ => .ok []
  | f + 1, a, c :: r => if blkB c then tokN f (a + 1) r else
    match oneB (c :: r) with
    | none => .error a
    | some (t, n) => preT [putAt t a] (tokN f (a + n) ((c :: r).drop n))
def tokB (a : Nat) (l : List UInt8) : Except Nat (List Tk) := tokN l.length a l
theorem tokN_any : ∀ (f g a : Nat) (l : List UInt8), l.length ≤ f → l.length ≤ g → tokN f a l = tokN g a l
  | 0, g, a, [], _, _ => by cases g <;> rfl
  | f + 1, g, a, [], _, _ => by cases g <;> rfl
  | 0, _, _, _ :: _, h, _ => by simp at h
  | _ + 1, 0, _, _ :: _, _, h => by simp at h
  | f + 1, g + 1, a, c :: r, hf, hg => by
    simp only [List.length_cons] at hf hg
    unfold tokN
    rw [tokN_any f g (a + 1) r (by omega) (by omega)]
    split
    · rfl
    · split
      · rfl
      · rename_i t n h
        have := one_is h
        have hd : ((c :: r).drop n).length ≤ r.length := by rw [List.length_drop, List.length_cons]; omega
        rw [tokN_any f g (a + n) _ (by omega) (by omega)]
theorem tok_nil (a : Nat) : tokB a [] = .ok [⟨0, [], 0, a⟩] := rfl
theorem tok_blank {c : UInt8} {r : List UInt8} (a : Nat) (h : blkB c = true) : tokB a (c :: r) = tokB (a + 1) r := by
  unfold tokB
  rw [List.length_cons, tokN, if_pos h]
theorem tok_bad {c : UInt8} {r : List UInt8} (a : Nat) (h : blkB c = false) (h1 : oneB (c :: r) = none) : tokB a (c :: r) = .error a := by
  unfold tokB
  rw [List.length_cons, tokN, if_neg (by simp [h]), h1]
theorem tok_one {c : UInt8} {r : List UInt8} {t : Tk} {n : Nat} (a : Nat) (h1 : oneB (c :: r) = some (t, n)) : tokB a (c :: r) = preT [putAt t a] (tokB (a + n) ((c :: r).drop n)) := by
  have hi := one_is h1
  unfold tokB
  rw [List.length_cons, tokN, if_neg (by simp [hi.2.2.2.2.2]), h1]
  have hd : ((c :: r).drop n).length ≤ r.length := by rw [List.length_drop, List.length_cons]; omega
  show preT [putAt t a] (tokN r.length (a + n) ((c :: r).drop n)) = _
  rw [tokN_any r.length _ (a + n) _ hd (Nat.le_refl _)]
theorem preT_app (a b : List Tk) (x : Except Nat (List Tk)) : preT a (preT b x) = preT (a ++ b) x := by
  cases x <;> simp [preT]
theorem preT_nil (x : Except Nat (List Tk)) : preT [] x = x := by cases x <;> rfl
/-- all of a text: tokens, a number, an error -/
def wsB (l : List UInt8) : List Tk × Nat × Nat :=
  if 400 < l.length then ([], 0, 3) else match tokB 0 l with
    | .error p => ([], p, 2)
    | .ok ts => (ts, l.length, 0)
theorem all_long {l : List UInt8} (h : 400 < l.length) : wsB l = ([], 0, 3) := by unfold wsB; rw [if_pos h]
theorem all_bad {l : List UInt8} {p : Nat} (h : ¬ 400 < l.length) (ht : tokB 0 l = .error p) : wsB l = ([], p, 2) := by unfold wsB; rw [if_neg h, ht]
theorem all_ok {l : List UInt8} {ts : List Tk} (h : ¬ 400 < l.length) (ht : tokB 0 l = .ok ts) : wsB l = (ts, l.length, 0) := by unfold wsB; rw [if_neg h, ht]
end Go.Proofs.YtipgaafgnefmdaaGreatDoor


namespace Go.Proofs.YtipgaafgnefmdaaGreatDoor
set_option linter.unusedVariables false
set_option linter.unusedSimpArgs false
set_option maxRecDepth 100000
open Go.RowKit

def zCl : Cl := ⟨false, 0, []⟩
/-- a predicate but for what is within it -/
structure Ph where
  op : Int
  col : Tx
  cmp : Int
  val : Cl
  kind : Int
  pat : Tx
  deriving DecidableEq
inductive Pd where
  | mk (h : Ph) (kids : List Pd)
def Pd.hd : Pd → Ph | .mk h _ => h
def Pd.kids : Pd → List Pd | .mk _ l => l
theorem Pd.eta (p : Pd) : p = .mk p.hd p.kids := by cases p; rfl
theorem Pd.ind {M : Pd → Prop} (h : ∀ hd ks, (∀ k ∈ ks, M k) → M (.mk hd ks)) (p : Pd) : M p :=
  Pd.rec (motive_1 := M) (motive_2 := fun l => ∀ k ∈ l, M k) (fun hd ks ih => h hd ks ih) (fun _ hk => by cases hk)
    (fun k r hk hr x hx => by
      rcases List.mem_cons.1 hx with rfl | hx
      · exact hk
      · exact hr x hx) p

/-! ### How many, how deep, how long -/
mutual
def cntP : Pd → Nat | .mk _ ks => 1 + cntL ks
def cntL : List Pd → Nat | [] => 0 | k :: r => cntP k + cntL r
end
mutual
def depP : Pd → Nat | .mk _ ks => 1 + depL ks
def depL : List Pd → Nat | [] => 0 | k :: r => max (depP k) (depL r)
end
def lenH (h : Ph) (n : Nat) : Bool := decide (n ≤ 20 ∧ h.col.length ≤ 100 ∧ h.pat.length ≤ 100 ∧ h.val.txt.length ≤ 100)
mutual
def lenP : Pd → Bool | .mk h ks => lenH h ks.length && lenL ks
def lenL : List Pd → Bool | [] => true | k :: r => lenP k && lenL r
end
theorem lenL_all (l : List Pd) : lenL l = l.all lenP := by
  induction l with
  | nil => rfl
  | cons k r ih => rw [lenL, ih]; rfl
theorem depL_mem {l : List Pd} {k : Pd} (h : k ∈ l) : depP k ≤ depL l := by
  induction l with
  | nil => cases h
  | cons x r ih =>
    rw [depL]
    rcases List.mem_cons.1 h with rfl | h
    · omega
    · have := ih h; omega
theorem cntL_mem {l : List Pd} {k : Pd} (h : k ∈ l) : cntP k ≤ cntL l := by
  induction l with
  | nil => cases h
  | cons x r ih =>
    rw [cntL]
    rcases List.mem_cons.1 h with rfl | h
    · omega
    · have := ih h; omega
theorem cnt_pos (p : Pd) : 1 ≤ cntP p := by cases p; rw [cntP]; omega
theorem dep_pos (p : Pd) : 1 ≤ depP p := by cases p; rw [depP]; omega
theorem cntL_len (l : List Pd) : l.length ≤ cntL l := by
  induction l with
  | nil => exact Nat.le_refl _
  | cons k r ih => rw [cntL, List.length_cons]; have := cnt_pos k; omega

/-! ### Which there may be -/
def askOk (h : Ph) : Bool :=
  nameB h.col && (if h.op = 2 then decide (1 ≤ h.cmp ∧ h.cmp ≤ 6) && mayC h.kind false h.val && decide (h = ⟨h.op, h.col, h.cmp, h.val, h.kind, []⟩)
    else if h.op = 4 then decide (h.pat.length ≤ 40) && decide (h = ⟨h.op, h.col, 0, zCl, 0, h.pat⟩)
    else decide (h = ⟨h.op, h.col, 0, zCl, 0, []⟩))
def bareH (h : Ph) : Bool := decide (h = ⟨h.op, [], 0, zCl, 0, []⟩)
def kidOp (op : Int) (ks : List Pd) : Bool := ks.any fun k => k.hd.op == op
def hdOk (h : Ph) (ks : List Pd) : Bool :=
  if h.op = 1 then decide (ks.length = 0) && bareH h
  else if h.op = 2 ∨ h.op = 3 ∨ h.op = 4 then decide (ks.length = 0) && askOk h
  else if h.op = 5 then decide (ks.length = 1) && bareH h
  else if h.op = 6 ∨ h.op = 7 then decide (1 < ks.length) && bareH h && !kidOp h.op ks
  else false
mutual
def oneP : Pd → Bool | .mk h ks => hdOk h ks && oneL ks
def oneL : List Pd → Bool | [] => true | k :: r => oneP k && oneL r
end
theorem oneL_all (l : List Pd) : oneL l = l.all oneP := by
  induction l with
  | nil => rfl
  | cons k r ih => rw [oneL, ih]; rfl
def mayP (p : Pd) : Bool := decide (cntP p ≤ 16 ∧ depP p ≤ 6) && oneP p

/-! ### Asked of all of them -/
section
variable {σ : Type}
mutual
def allP (f : σ → Pd → Nat → Option σ) : Pd → σ → Nat → Option σ | .mk h ks, s, d => (f s (.mk h ks) d).bind fun s' => allL f ks s' (d + 1)
def allL (f : σ → Pd → Nat → Option σ) : List Pd → σ → Nat → Option σ | [], s, _ => some s | k :: r, s, d => (allP f k s d).bind fun s' => allL f r s' d
end
end
def stepM (n : Nat) (p : Pd) (d : Nat) : Option Nat := if n + 1 ≤ 16 ∧ d ≤ 6 ∧ hdOk p.hd p.kids = true then some (n + 1) else none
theorem allM (p : Pd) : ∀ n d, n ≤ 16 → d ≤ 7 → allP stepM p n d = if n + cntP p ≤ 16 ∧ d + depP p ≤ 7 ∧ oneP p = true then some (n + cntP p) else none := by
  induction p using Pd.ind with
  | h hd ks ih =>
    have hL : ∀ (l : List Pd), (∀ k ∈ l, k ∈ ks) → ∀ n d, n ≤ 16 → d ≤ 7 → allL stepM l n d = if n + cntL l ≤ 16 ∧ d + depL l ≤ 7 ∧ oneL l = true then some (n + cntL l) else none := by
      intro l
      induction l with
      | nil => intro _ n d hn hd; rw [allL, cntL, depL, oneL, if_pos ⟨by omega, by omega, rfl⟩]; rfl
      | cons k r ih2 =>
        intro hm n d hn hd
        rw [allL, ih k (hm k (List.mem_cons_self ..)) n d hn hd, cntL, depL, oneL]
        by_cases h1 : n + cntP k ≤ 16 ∧ d + depP k ≤ 7 ∧ oneP k = true
        · rw [if_pos h1, Option.bind_some, ih2 (fun x hx => hm x (List.mem_cons_of_mem _ hx)) _ d h1.1 hd, h1.2.2, Bool.true_and]
          by_cases h2 : n + cntP k + cntL r ≤ 16 ∧ d + depL r ≤ 7 ∧ oneL r = true
          · rw [if_pos h2, if_pos ⟨by omega, by omega, h2.2.2⟩, Nat.add_assoc]
          · rw [if_neg h2, if_neg (by rintro ⟨a, b, c⟩; exact h2 ⟨by omega, by omega, c⟩)]
        · rw [if_neg h1, Option.bind_none, if_neg]
          rintro ⟨a, b, c⟩
          rw [Bool.and_eq_true] at c
          exact h1 ⟨by omega, by omega, c.1⟩
    intro n d hn hd7
    rw [allP, cntP, depP, oneP]
    unfold stepM
    by_cases h1 : n + 1 ≤ 16 ∧ d ≤ 6 ∧ hdOk hd ks = true
    · rw [if_pos (show n + 1 ≤ 16 ∧ d ≤ 6 ∧ hdOk (Pd.mk hd ks).hd (Pd.mk hd ks).kids = true from h1), Option.bind_some]
      have e := hL ks (fun _ h => h) (n + 1) (d + 1) h1.1 (by omega)
      unfold stepM at e
      rw [e, h1.2.2, Bool.true_and]
      by_cases h2 : n + 1 + cntL ks ≤ 16 ∧ d + 1 + depL ks ≤ 7 ∧ oneL ks = true
      · rw [if_pos h2, if_pos ⟨by omega, by omega, h2.2.2⟩, Nat.add_assoc]
      · rw [if_neg h2, if_neg (by rintro ⟨a, b, c⟩; exact h2 ⟨by omega, by omega, c⟩)]
    · rw [if_neg (show ¬ (n + 1 ≤ 16 ∧ d ≤ 6 ∧ hdOk (Pd.mk hd ks).hd (Pd.mk hd ks).kids = true) from h1), Option.bind_none, if_neg]
      rintro ⟨a, b, c⟩
      rw [Bool.and_eq_true] at c
      exact h1 ⟨by omega, by omega, c.1⟩
theorem may_all (p : Pd) : (allP stepM p 0 1).isSome = mayP p := by
  rw [allM p 0 1 (by omega) (by omega)]
  unfold mayP
  by_cases h : cntP p ≤ 16 ∧ depP p ≤ 6
  · rw [decide_eq_true h, Bool.true_and]
    cases h2 : oneP p
    · rw [if_neg (by simp)]; rfl
    · rw [if_pos ⟨by omega, by omega, rfl⟩]; rfl
  · rw [decide_eq_false h, Bool.false_and, if_neg (by omega)]; rfl

/-! ### Counted, as the document does -/
mutual
def sizeP : Pd → Int → Nat → Int | .mk _ ks, m, d => if d < 1 ∨ m < 1 then 17 else sizeL ks m (d - 1) 1
def sizeL : List Pd → Int → Nat → Int → Int | [], _, _, n => n | k :: r, m, d, n => if 16 < n then n else sizeL r m d (n + sizeP k (m - n) d)
end
theorem sizeL_big (l : List Pd) (m : Int) (d : Nat) (n : Int) (h : 16 < n) : sizeL l m d n = n := by
  cases l with
  | nil => rw [sizeL]
  | cons k r => rw [sizeL, if_pos h]
theorem size_is (p : Pd) : ∀ (m : Int) (d : Nat), m ≤ 16 → ((cntP p : Int) ≤ m ∧ depP p ≤ d → sizeP p m d = cntP p) ∧ (¬ ((cntP p : Int) ≤ m ∧ depP p ≤ d) → 16 < sizeP p m d) ∧ 1 ≤ sizeP p m d ∧ sizeP p m d ≤ 17 + 17 * d := by
  induction p using Pd.ind with
  | h hd ks ih =>
    have hL : ∀ (l : List Pd), (∀ k ∈ l, k ∈ ks) → ∀ (m : Int) (d : Nat) (n : Int), 1 ≤ n → n ≤ m → m ≤ 16 → (n + (cntL l : Int) ≤ m ∧ depL l ≤ d → sizeL l m d n = n + cntL l) ∧ (¬ (n + (cntL l : Int) ≤ m ∧ depL l ≤ d) → 16 < sizeL l m d n) ∧ 1 ≤ sizeL l m d n ∧ sizeL l m d n ≤ 17 + 17 * (d + 1) := by
      intro l
      induction l with
      | nil => intro _ m d n h1 h2 h3; rw [sizeL, cntL, depL]; exact ⟨fun _ => by simp, fun h => absurd ⟨by simpa using h2, Nat.zero_le _⟩ h, h1, by omega⟩
      | cons k r ih2 =>
        intro hm m d n h1 h2 h3
        obtain ⟨k1, k2, k3, k4⟩ := ih k (hm k (List.mem_cons_self ..)) (m - n) d (by omega)
        rw [sizeL, if_neg (by omega), cntL, depL]
        by_cases hk : (cntP k : Int) ≤ m - n ∧ depP k ≤ d
        · have e := k1 hk
          obtain ⟨r1, r2, r3, r4⟩ := ih2 (fun x hx => hm x (List.mem_cons_of_mem _ hx)) m d (n + cntP k) (by omega) (by omega) h3
          rw [e]
          refine ⟨fun h => ?_, fun h => r2 ?_, r3, r4⟩
          · rw [r1 ⟨by omega, by omega⟩]; omega
          · rintro ⟨a, b⟩
            exact h ⟨by omega, by omega⟩
        · have hb := k2 hk
          rw [sizeL_big r m d _ (by omega)]
          refine ⟨fun h => absurd ⟨by omega, by omega⟩ hk, fun _ => by omega, by omega, by omega⟩
    intro m d hm
    rw [sizeP, cntP, depP]
    by_cases h : d < 1 ∨ m < 1
    · rw [if_pos h]
      refine ⟨fun ⟨a, b⟩ => by omega, fun _ => by omega, by omega, by omega⟩
    · rw [if_neg h]
      obtain ⟨r1, r2, r3, r4⟩ := hL ks (fun _ h => h) m (d - 1) 1 (by omega) (by omega) hm
      refine ⟨fun ⟨a, b⟩ => ?_, fun hn => r2 ?_, r3, by omega⟩
      · rw [r1 ⟨by omega, by omega⟩]; omega
      · rintro ⟨a, b⟩
        exact hn ⟨by omega, by omega⟩
theorem may_size (p : Pd) : (decide (sizeP p 16 6 ≤ 16) && oneP p) = mayP p := by
  obtain ⟨h1, h2, _, _⟩ := size_is p 16 6 (by omega)
  unfold mayP
  congr 1
  rw [decide_eq_decide]
  constructor
  · intro h
    exact Classical.byContradiction fun hn => by
      have := h2 (by rintro ⟨a, b⟩; exact hn ⟨by omega, b⟩)
      omega
  · rintro ⟨a, b⟩
    rw [h1 ⟨by omega, b⟩]; omega

/-! ### Which fit columns -/
/-! ### The same -/
mutual
def sameP : Pd → Pd → Bool | .mk h ks, .mk h' ks' => decide (h = h') && sameL ks ks'
def sameL : List Pd → List Pd → Bool | [], [] => true | k :: r, k' :: r' => sameP k k' && sameL r r' | [], _ :: _ => false | _ :: _, [] => false
end
theorem same_iff (p : Pd) : ∀ q, sameP p q = true ↔ p = q := by
  induction p using Pd.ind with
  | h hd ks ih =>
    have hL : ∀ (l : List Pd), (∀ k ∈ l, k ∈ ks) → ∀ m, sameL l m = true ↔ l = m := by
      intro l
      induction l with
      | nil => intro _ m; cases m <;> simp [sameL]
      | cons k r ih2 =>
        intro hm m
        cases m with
        | nil => simp [sameL]
        | cons k' r' =>
          rw [sameL, Bool.and_eq_true, ih k (hm k (List.mem_cons_self ..)) k', ih2 (fun x hx => hm x (List.mem_cons_of_mem _ hx)) r']
          simp
    rintro ⟨h', ks'⟩
    rw [sameP, Bool.and_eq_true, hL ks (fun _ h => h) ks', decide_eq_true_eq]
    simp
theorem sameL_iff (l m : List Pd) : sameL l m = true ↔ l = m := by
  induction l generalizing m with
  | nil => cases m <;> simp [sameL]
  | cons k r ih =>
    cases m with
    | nil => simp [sameL]
    | cons k' r' => rw [sameL, Bool.and_eq_true, same_iff, ih]; simp

/-! ### Columns -/
/-! ### Texts -/
def markB (n : Int) : Tx := if n = 1 then [61] else if n = 2 then [60, 62] else if n = 3 then [60] else if n = 4 then [60, 61] else if n = 5 then [62] else if n = 6 then [62, 61] else []
def quoT (l : Tx) : Tx := 39 :: dblB l ++ [39]
def valT (ty : Int) (c : Cl) : Tx :=
  if c.null then [110, 117, 108, 108] else if ty = 1 then Lib.itoa c.num else if ty = 2 then (if c.num = 0 then [102, 97, 108, 115, 101] else [116, 114, 117, 101]) else if ty = 3 then quoT c.txt else []
/-- in brackets, if its op is one of these -/
def brk (ops : List Int) (x : Int × Tx) : Tx := if x.1 ∈ ops then 40 :: x.2 ++ [41] else x.2
def andT : Tx := [32, 97, 110, 100, 32]
def orT : Tx := [32, 111, 114, 32]
def textH (h : Ph) (ts : List (Int × Tx)) : Tx :=
  if h.op = 2 then h.col ++ [32] ++ markB h.cmp ++ [32] ++ valT h.kind h.val
  else if h.op = 3 then h.col ++ [32, 105, 115, 32, 110, 117, 108, 108]
  else if h.op = 4 then h.col ++ [32, 108, 105, 107, 101, 32] ++ quoT h.pat
  else if h.op = 5 then [110, 111, 116, 32] ++ brk [6, 7] (ts.headD (0, []))
  else if h.op = 6 then Lib.join (ts.map (brk [7])) andT
  else if h.op = 7 then Lib.join (ts.map (brk [])) orT
  else [97, 108, 108]
mutual
def textP : Pd → Tx | .mk h ks => textH h (textL ks)
def textL : List Pd → List (Int × Tx) | [] => [] | k :: r => (k.hd.op, textP k) :: textL r
end
theorem textL_map (l : List Pd) : textL l = l.map fun k => (k.hd.op, textP k) := by
  induction l with
  | nil => rfl
  | cons k r ih => rw [textL, ih]; rfl
def brkP (ops : List Int) (k : Pd) : Tx := brk ops (k.hd.op, textP k)
theorem textL_brk (ops : List Int) (l : List Pd) : (textL l).map (brk ops) = l.map (brkP ops) := by
  rw [textL_map, List.map_map]; rfl
end Go.Proofs.YtipgaafgnefmdaaGreatDoor


namespace Go.Proofs.YtipgaafgnefmdaaGreatDoor
set_option linter.unusedVariables false
set_option linter.unusedSimpArgs false
set_option maxRecDepth 100000
open Go.RowKit

mutual
/-- every number within int64 -/
def numP : Pd → Prop | .mk h ks => I64b h.val.num ∧ numL ks
def numL : List Pd → Prop | [] => True | k :: r => numP k ∧ numL r
end
theorem numL_all (l : List Pd) : numL l ↔ ∀ p ∈ l, numP p := by
  induction l with
  | nil => simp [numL]
  | cons k r ih => rw [numL, ih]; simp
end Go.Proofs.YtipgaafgnefmdaaGreatDoor


namespace Go.Proofs.YtipgaafgnefmdaaGreatDoor
set_option linter.unusedVariables false
set_option linter.unusedSimpArgs false
set_option maxRecDepth 100000
open Go.RowKit

/-- an aggregate -/
structure Ag where
  op : Int
  col : List UInt8
  deriving DecidableEq
/-- a query -/
structure Qy where
  tab : Tx
  cols : List Tx
  whr : Pd
  aggs : List Ag
  by_ : Tx
def agB (a : Ag) : Bool := if a.op = 1 then decide (a.col = []) else decide (2 ≤ a.op ∧ a.op ≤ 5) && nameB a.col
theorem ag_is {a : Ag} (h : agB a = true) : (a.op = 1 ∧ a.col = []) ∨ (¬ a.op = 1 ∧ 2 ≤ a.op ∧ a.op ≤ 5 ∧ nameB a.col = true) := by
  unfold agB at h
  split at h
  · rename_i h1
    exact .inl ⟨h1, of_decide_eq_true h⟩
  · rename_i h1
    rw [Bool.and_eq_true, decide_eq_true_eq] at h
    exact .inr ⟨h1, h.1.1, h.1.2, h.2⟩
def unlB (l : List Tx) : Bool := l.all nameB && decide l.Nodup
def plainQ (q : Qy) : Bool := decide (q.aggs.length = 0) && (decide (q.by_ = []) && (decide (q.cols.length ≤ 6) && unlB q.cols))
def foldQ (q : Qy) : Bool := decide (0 < q.aggs.length) && (decide (q.aggs.length ≤ 4) && (q.aggs.all agB && (decide (q.cols.length = 0) && (decide (q.by_ = []) || nameB q.by_))))
/-- may there be a table of which q is asked? -/
def mayQ (q : Qy) : Bool := nameB q.tab && (mayP q.whr && (plainQ q || foldQ q))
/-- the document's way -/
def mayD (q : Qy) : Bool := decide (q.cols.length ≤ 6 ∧ q.aggs.length ≤ 4) && (unlB q.cols && (if q.aggs.length = 0 then decide (q.by_ = []) else q.aggs.all agB && (decide (q.cols.length = 0) && (decide (q.by_ = []) || nameB q.by_))))
theorem unl_nil {l : List Tx} (h : l.length = 0) : unlB l = true := by
  obtain rfl := List.eq_nil_of_length_eq_zero h
  rfl
theorem may_doc (q : Qy) : mayQ q = (nameB q.tab && (mayP q.whr && mayD q)) := by
  unfold mayQ
  congr 2
  unfold plainQ foldQ mayD
  by_cases h0 : q.aggs.length = 0
  · rw [if_pos h0, h0]
    simp only [Nat.lt_irrefl, decide_false, Bool.false_and, Bool.or_false, decide_true, Bool.true_and, Nat.zero_le, and_true]
    cases decide (q.by_ = []) <;> simp
  · rw [if_neg h0, decide_eq_false h0, decide_eq_true (show 0 < q.aggs.length by omega), Bool.false_and, Bool.false_or, Bool.true_and]
    by_cases hc : q.cols.length = 0
    · rw [unl_nil hc, hc]
      by_cases h4 : q.aggs.length ≤ 4 <;> simp [h4]
    · rw [decide_eq_false hc]
      simp

def allQ (q : Qy) : Bool := decide (q.cols.length = 0) && decide (q.aggs.length = 0)
/-! ### What stands above the answer -/
def wordA (op : Int) : Tx := if op = 2 then [104, 97, 115] else if op = 3 then [115, 117, 109] else if op = 4 then [109, 105, 110] else if op = 5 then [109, 97, 120] else []
def toldA (a : Ag) : Tx := if a.op = 1 then [99, 111, 117, 110, 116, 40, 42, 41] else wordA a.op ++ [40] ++ a.col ++ [41]
def askedQ (q : Qy) : List Tx := q.cols ++ q.aggs.map toldA
theorem may_kinds {q : Qy} (h : mayQ q = true) : (q.aggs = [] ∧ q.by_ = [] ∧ q.cols.length ≤ 6 ∧ unlB q.cols = true) ∨ (q.aggs ≠ [] ∧ q.aggs.length ≤ 4 ∧ (∀ a ∈ q.aggs, agB a = true) ∧ q.cols = [] ∧ (q.by_ = [] ∨ nameB q.by_ = true)) := by
  unfold mayQ plainQ foldQ at h
  simp only [Bool.and_eq_true, Bool.or_eq_true, decide_eq_true_eq, List.all_eq_true] at h
  rcases h.2.2 with h1 | h1
  · exact .inl ⟨List.eq_nil_of_length_eq_zero h1.1, h1.2⟩
  · refine .inr ⟨fun e => by rw [e] at h1; simp at h1, h1.2.1, h1.2.2.1, List.eq_nil_of_length_eq_zero h1.2.2.2.1, h1.2.2.2.2⟩
theorem may_parts {q : Qy} (h : mayQ q = true) : nameB q.tab = true ∧ mayP q.whr = true := by
  unfold mayQ at h
  simp only [Bool.and_eq_true] at h
  exact ⟨h.1, h.2.1⟩
/-! ### Which columns it needs -/
/-! ### Sorted lists -/
/-! ### As it is written -/
def selT : Tx := [115, 101, 108, 101, 99, 116, 32]
def fromT : Tx := [32, 102, 114, 111, 109, 32]
def whereT : Tx := [32, 119, 104, 101, 114, 101, 32]
def groupT : Tx := [32, 103, 114, 111, 117, 112, 32, 98, 121, 32]
def comT : Tx := [44, 32]
def listQ (q : Qy) : Tx := if allQ q = true then [42] else Lib.join (askedQ q) comT
def whrT (p : Pd) : Tx := if p.hd.op = 1 then [] else whereT ++ textP p
def grpT (b : Tx) : Tx := if b = [] then [] else groupT ++ b
def textQ (q : Qy) : Tx := selT ++ listQ q ++ fromT ++ q.tab ++ whrT q.whr ++ grpT q.by_
def aeq (a b : Ag) : Bool := decide (a = b)
def sameQ (a b : Qy) : Bool := decide (a.tab = b.tab) && (decide (a.cols = b.cols) && (sameP a.whr b.whr && (decide (a.aggs = b.aggs) && decide (a.by_ = b.by_))))
theorem sameQ_iff (a b : Qy) : sameQ a b = true ↔ a = b := by
  unfold sameQ
  simp only [Bool.and_eq_true, decide_eq_true_eq, same_iff]
  obtain ⟨t, c, w, g, y⟩ := a
  obtain ⟨t2, c2, w2, g2, y2⟩ := b
  simp
theorem sameQ_self (a : Qy) : sameQ a a = true := (sameQ_iff a a).2 rfl
/-- not too great -/
structure SmQ (q : Qy) : Prop where
  cols : q.cols.length ≤ 15
  names : ∀ x ∈ q.cols, x.length ≤ 100
  aggs : q.aggs.length ≤ 15
  acol : ∀ a ∈ q.aggs, a.col.length ≤ 100
  tab : q.tab.length ≤ 100
  by_ : q.by_.length ≤ 100
  lens : lenP q.whr = true
  deep : depP q.whr ≤ 9
end Go.Proofs.YtipgaafgnefmdaaGreatDoor


namespace Go.Proofs.YtipgaafgnefmdaaGreatDoor
set_option linter.unusedVariables false
set_option linter.unusedSimpArgs false
set_option maxRecDepth 100000
open Go.RowKit

/-- what a reader tells: what is read and the tokens left, or the place of the token at which nothing right goes on -/
abbrev Rd (α : Type) := Except Int (α × List Tk)
def hdT (l : List Tk) : Tk := l.headD noTk
def isK (k : Int) (s : Tx) (l : List Tk) : Bool := decide ((hdT l).kind = k) && decide ((hdT l).txt = s)
/-- behind the next token; the last one stays -/
def tlK (l : List Tk) : List Tk := if (hdT l).kind = 0 then l else l.tail
def errK {α : Type} (l : List Tk) : Except Int α := .error (hdT l).at_
def mustK (k : Int) (s : Tx) (l : List Tk) : Except Int (List Tk) := if isK k s l = true then .ok (tlK l) else errK l
def namedK (l : List Tk) : Bool := decide ((hdT l).kind = 1) && nameB (hdT l).txt
def nameK (l : List Tk) : Rd Tx := if namedK l = true then .ok ((hdT l).txt, tlK l) else errK l
def trueW : Tx := [116, 114, 117, 101]
def falseW : Tx := [102, 97, 108, 115, 101]
def isW : Tx := [105, 115]
def nullW : Tx := [110, 117, 108, 108]
def likeW : Tx := [108, 105, 107, 101]
def notW : Tx := [110, 111, 116]
def allW : Tx := [97, 108, 108]
def andW : Tx := [97, 110, 100]
def orW : Tx := [111, 114]
/-- a value, and its kind -/
def valK (l : List Tk) : Rd (Cl × Int) :=
  if (hdT l).kind = 2 then .ok ((⟨false, (hdT l).num, []⟩, 1), tlK l)
  else if (hdT l).kind = 3 then .ok ((⟨false, 0, (hdT l).txt⟩, 3), tlK l)
  else if isK 1 trueW l = true then .ok ((⟨false, 1, []⟩, 2), tlK l)
  else if isK 1 falseW l = true then .ok ((⟨false, 0, []⟩, 2), tlK l)
  else errK l
def signK (s : Tx) : Int := if s = [61] then 1 else if s = [60, 62] then 2 else if s = [60] then 3 else if s = [60, 61] then 4 else if s = [62] then 5 else if s = [62, 61] then 6 else 0
/-- what is asked of a column -/
def askedK (l : List Tk) : Rd Pd :=
  match nameK l with
  | .error e => .error e
  | .ok (c, r) =>
    if isK 1 isW r = true then (match mustK 1 nullW (tlK r) with | .error e => .error e | .ok r2 => .ok (.mk ⟨3, c, 0, zCl, 0, []⟩ [], r2))
    else if isK 1 likeW r = true then (if (hdT (tlK r)).kind = 3 then .ok (.mk ⟨4, c, 0, zCl, 0, (hdT (tlK r)).txt⟩ [], tlK (tlK r)) else errK (tlK r))
    else if (hdT r).kind = 4 ∧ signK (hdT r).txt ≠ 0 then (match valK (tlK r) with | .error e => .error e | .ok ((v, k), r2) => .ok (.mk ⟨2, c, signK (hdT r).txt, v, k, []⟩ [], r2))
    else errK r
/-- one behind each w, as long as w is the next -/
def chainK (step : List Tk → Rd Pd) (w : Tx) : Nat → List Tk → Rd (List Pd)
  | 0, l => .ok ([], l)
  | n + 1, l => if isK 1 w l = true then (match step (tlK l) with
      | .error e => .error e
      | .ok (p, r) => match chainK step w n r with | .error e => .error e | .ok (ps, r2) => .ok (p :: ps, r2)) else .ok ([], l)
def foldK (op : Int) (p : Pd) (ps : List Pd) : Pd := if ps = [] then p else .mk ⟨op, [], 0, zCl, 0, []⟩ (p :: ps)
def levelK (op : Int) (w : Tx) (step : List Tk → Rd Pd) (l : List Tk) : Rd Pd :=
  match step l with
  | .error e => .error e
  | .ok (p, r) => match chainK step w r.length r with | .error e => .error e | .ok (ps, r2) => .ok (foldK op p ps, r2)
def predOf (single : List Tk → Rd Pd) : List Tk → Rd Pd := levelK 7 orW (levelK 6 andW single)
/-- a single, with so many levels left -/
def singleK : Nat → List Tk → Rd Pd
  | 0, l => errK l
  | d + 1, l =>
    if isK 1 notW l = true then (match singleK d (tlK l) with | .error e => .error e | .ok (p, r) => .ok (.mk ⟨5, [], 0, zCl, 0, []⟩ [p], r))
    else if isK 4 [40] l = true then (match predOf (singleK d) (tlK l) with | .error e => .error e | .ok (p, r) => match mustK 4 [41] r with | .error e => .error e | .ok r2 => .ok (p, r2))
    else if isK 1 allW l = true then .ok (.mk ⟨1, [], 0, zCl, 0, []⟩ [], tlK l)
    else askedK l
def bothK (d : Nat) : List Tk → Rd Pd := levelK 6 andW (singleK d)
def predK (d : Nat) : List Tk → Rd Pd := predOf (singleK d)
theorem single_not {d : Nat} {l : List Tk} (h : isK 1 notW l = true) : singleK (d + 1) l = (match singleK d (tlK l) with | .error e => .error e | .ok (p, r) => .ok (.mk ⟨5, [], 0, zCl, 0, []⟩ [p], r)) := by rw [singleK, if_pos h]
theorem single_open {d : Nat} {l : List Tk} (h1 : isK 1 notW l = false) (h : isK 4 [40] l = true) : singleK (d + 1) l = (match predK d (tlK l) with | .error e => .error e | .ok (p, r) => match mustK 4 [41] r with | .error e => .error e | .ok r2 => .ok (p, r2)) := by rw [singleK, if_neg (by simp [h1]), if_pos h]; rfl
theorem single_all {d : Nat} {l : List Tk} (h1 : isK 1 notW l = false) (h2 : isK 4 [40] l = false) (h : isK 1 allW l = true) : singleK (d + 1) l = .ok (.mk ⟨1, [], 0, zCl, 0, []⟩ [], tlK l) := by rw [singleK, if_neg (by simp [h1]), if_neg (by simp [h2]), if_pos h]
theorem single_asked {d : Nat} {l : List Tk} (h1 : isK 1 notW l = false) (h2 : isK 4 [40] l = false) (h3 : isK 1 allW l = false) : singleK (d + 1) l = askedK l := by rw [singleK, if_neg (by simp [h1]), if_neg (by simp [h2]), if_neg (by simp [h3])]

/-! ### What is asked for -/
def selW : Tx := [115, 101, 108, 101, 99, 116]
def fromW : Tx := [102, 114, 111, 109]
def whereW : Tx := [119, 104, 101, 114, 101]
def groupW : Tx := [103, 114, 111, 117, 112]
def byW : Tx := [98, 121]
def aggW (s : Tx) : Int := if s = [99, 111, 117, 110, 116] then 1 else if s = [104, 97, 115] then 2 else if s = [115, 117, 109] then 3 else if s = [109, 105, 110] then 4 else if s = [109, 97, 120] then 5 else 0
def aggK (l : List Tk) : Rd Ag :=
  if (hdT l).kind = 1 ∧ aggW (hdT l).txt ≠ 0 then
    match mustK 4 [40] (tlK l) with
    | .error e => .error e
    | .ok r => if aggW (hdT l).txt = 1 then (match mustK 4 [42] r with | .error e => .error e | .ok r2 => match mustK 4 [41] r2 with | .error e => .error e | .ok r3 => .ok (⟨1, []⟩, r3))
      else (match nameK r with | .error e => .error e | .ok (c, r2) => match mustK 4 [41] r2 with | .error e => .error e | .ok r3 => .ok (⟨aggW (hdT l).txt, c⟩, r3))
  else errK l
/-- one behind each comma -/
def commaK {α : Type} (step : List Tk → Rd α) : Nat → List Tk → Rd (List α)
  | 0, l => .ok ([], l)
  | n + 1, l => if isK 4 [44] l = true then (match step (tlK l) with
      | .error e => .error e
      | .ok (p, r) => match commaK step n r with | .error e => .error e | .ok (ps, r2) => .ok (p :: ps, r2)) else .ok ([], l)
def listK {α : Type} (step : List Tk → Rd α) (l : List Tk) : Rd (List α) :=
  match step l with
  | .error e => .error e
  | .ok (p, r) => match commaK step r.length r with | .error e => .error e | .ok (ps, r2) => .ok (p :: ps, r2)
def whatK (l : List Tk) : Rd (List Tx × List Ag) :=
  if isK 4 [42] l = true then .ok (([], []), tlK l)
  else if namedK l = true then (match listK nameK l with | .error e => .error e | .ok (c, r) => .ok ((c, []), r))
  else (match listK aggK l with | .error e => .error e | .ok (g, r) => .ok (([], g), r))
def whereK (l : List Tk) : Rd Pd := if isK 1 whereW l = true then predK 6 (tlK l) else .ok (.mk ⟨1, [], 0, zCl, 0, []⟩ [], l)
def groupK (l : List Tk) : Rd Tx := if isK 1 groupW l = true then (match mustK 1 byW (tlK l) with | .error e => .error e | .ok r => nameK r) else .ok ([], l)
def endK {α : Type} (x : α) (l : List Tk) : Except Int α := if (hdT l).kind = 0 then .ok x else errK l
def queryK (l : List Tk) : Except Int Qy :=
  match mustK 1 selW l with
  | .error e => .error e
  | .ok l1 => match whatK l1 with
    | .error e => .error e
    | .ok ((c, g), l2) => match mustK 1 fromW l2 with
      | .error e => .error e
      | .ok l3 => match nameK l3 with
        | .error e => .error e
        | .ok (t, l4) => match whereK l4 with
          | .error e => .error e
          | .ok (p, l5) => match groupK l5 with
            | .error e => .error e
            | .ok (b, l6) => endK ⟨t, c, p, g, b⟩ l6
def wholeK (l : List Tk) : Except Int Pd := match predK 6 l with | .error e => .error e | .ok (p, r) => endK p r
/-- what Query, Where tell of a text: what is read, a number, an error -/
def noPd : Pd := .mk ⟨0, [], 0, zCl, 0, []⟩ []
def noQy : Qy := ⟨[], [], noPd, [], []⟩
def telQ (s : Tx) : Qy × Int × Int :=
  if (wsB s).2.2 ≠ 0 then (noQy, (wsB s).2.1, (wsB s).2.2) else match queryK (wsB s).1 with
    | .error a => (noQy, a, 2)
    | .ok q => if mayQ q = true then (q, s.length, 0) else (noQy, 0, 1)
def telP (s : Tx) : Pd × Int × Int :=
  if (wsB s).2.2 ≠ 0 then (noPd, (wsB s).2.1, (wsB s).2.2) else match wholeK (wsB s).1 with
    | .error a => (noPd, a, 2)
    | .ok p => if mayP p = true then (p, s.length, 0) else (noPd, 0, 1)
end Go.Proofs.YtipgaafgnefmdaaGreatDoor
