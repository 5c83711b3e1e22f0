/-
  Joined: Words of our own on memory, for all texts of this seat: what changed between two worlds (Fr), a known block (Blk), bytes that a slice reads as (Bs), bytes in a row of the call's own (Own), and the steps append and convert over them. · Slices of slices of bytes that the call owns (Owns), and the steps that append one slice, or one value of one cell, to a row of the call's own. · Slices of one-celled elements of any type: what one reads as (Vs), a row of the call's own (Ow), and the steps over them: append of one, append of many, make, copy, cuts. · The frame of a law's proof, for any parameters: where the call returned true and turned nothing that was there, the row's words hold. · Arguments opened: a slice of one-celled elements of any type; of truths; of whole numbers. · Slices of structs of k one-celled fields, of any type: what one reads as (Ns), a row of the call's own (No), and the steps over them: made, stored into, append of one, append of many, opened. · Texts as plain lists of bytes: Go's '<' on them, and an order in three ways. Nothing of the program. · Layer 12: a column as a value; slices of columns; two compared. · Names: which texts may be one; nothing of the program. · Layer 1 as plain functions on lists of bytes: what a number's bytes are (the library's 'uvarint'), which number bytes begin with (rd), and that each is the other's back. Nothing of the program. · Layer 1, what is written, texts: contracts of join and Text, the program's own and the document's. · Layer 1, what is read: contracts of Source's methods. · Layer 1, what is read: contracts of Source's methods. · Layer 9: a cell as a value; which cells there may be, both programs'. · Columns: which there may be, where one is, which rows; their bytes, and what is read of bytes; nothing of the program. · Numbers in digits: what digits are of, read again; the texts that are some number's. And a text with each quote twice, or each two quotes once, by the library's replacing. Nothing of the program. · Predicates: trees; which there may be, by one count and by another; which fit columns; their columns, their texts. Nothing of the program. · Predicates' texts: how long they may be; numbers within int64. Nothing of the program. · Queries: which there may be, which fit which columns, what their answers are called, which columns they need, their text; nothing of the program.
-/
import Derived.Lib.Zigzag
import Derived.Lib.DecodeN
import Derived.Laws.RangeAny
import Derived.Laws.Cover4
import Derived.Laws.Cover1
import Derived.Deep.QuietTactic
import Derived.BigQuiet
import Derived.Deep.RegionHeld3
import Derived.Deep.DrawnRows
import Derived.Lib.SmallJoins
import Derived.Lib.AppendIntMem
import Derived.Laws.StructEq
import Derived.Laws.Rows
import Derived.Laws.ResultCell
import Derived.Deep.RegionWith
import Derived.Test.YtibopcceffncpaaGreatDoorProg
import Derived.WalkKit
import Derived.WalkSpells
import Derived.Deep.AppendSrc
import Derived.Maps.AppendAt
import Derived.Lib.Hide
import Derived.Deep.Draws
import Derived.Lib.AppendStr
import Derived.Laws.CopyOwn
import Derived.Laws.OwnMore
import Derived.Test.YtibopcceffncpaaGreatDoorRows
import Derived.ProofKit
import Derived.OpenShut
import Derived.ShutString
import Derived.ChangeOld
import Derived.Below
import Derived.Deep.Slices
import Derived.BigFrame
import Derived.Lib.Varint
import Derived.Lib.ItoaLen
import Derived.Lib.ItoaMem
import Derived.Lib.ParseIntBCases
import Derived.Lib.ParseIntBTie
import Derived.Lib.Replace
import Derived.Lib.CountLaws
import Derived.Lib.Join

namespace Go.Proofs.YtibopcceffncpaaGreatDoor
set_option linter.unusedVariables false
set_option linter.unusedSimpArgs false
set_option maxRecDepth 100000
open Go.RowKit

/-! ### What changed: of the blocks that were there, at most those of S -/
structure Fr (S : Nat → Prop) (w w' : World) : Prop where
  os : w'.os = w.os
  tape : w'.tape = w.tape
  output : w'.output = w.output
  size : w.heap.size ≤ w'.heap.size
  block : ∀ k, k < w.heap.size → ¬ S k → w'.heap[k]? = w.heap[k]?

/-- nothing -/
def Non : Nat → Prop := fun _ => False
/-- one block -/
def One (g : Nat) : Nat → Prop := fun k => k = g

theorem Fr.refl (S : Nat → Prop) (w : World) : Fr S w w := ⟨rfl, rfl, rfl, Nat.le_refl _, fun _ _ _ => rfl⟩
theorem Fr.join {S S' : Nat → Prop} {w w1 w2 : World} (h : Fr S w w1) (h' : Fr S' w1 w2) (hs : ∀ k, k < w.heap.size → S' k → S k) : Fr S w w2 :=
  ⟨h'.os.trans h.os, h'.tape.trans h.tape, h'.output.trans h.output, Nat.le_trans h.size h'.size,
    fun k hk hn => (h'.block k (Nat.lt_of_lt_of_le hk h.size) (fun e => hn (hs k hk e))).trans (h.block k hk hn)⟩
theorem Fr.trans {S : Nat → Prop} {w w1 w2 : World} (h : Fr S w w1) (h' : Fr S w1 w2) : Fr S w w2 := h.join h' fun _ _ e => e
theorem Fr.then {S : Nat → Prop} {w w1 w2 : World} (h : Fr S w w1) (h' : Fr Non w1 w2) : Fr S w w2 := h.join h' fun _ _ e => e.elim
theorem Fr.mono {S S' : Nat → Prop} {w w' : World} (h : Fr S w w') (hs : ∀ k, k < w.heap.size → S k → S' k) : Fr S' w w' :=
  ⟨h.os, h.tape, h.output, h.size, fun k hk hn => h.block k hk fun e => hn (hs k hk e)⟩
theorem Fr.any {S : Nat → Prop} {w w' : World} (h : Fr Non w w') : Fr S w w' := h.mono fun _ _ e => e.elim
theorem Fr.fresh {S S' : Nat → Prop} {w w1 w2 : World} (h : Fr S w w1) (h' : Fr S' w1 w2) (hs : ∀ k, S' k → w.heap.size ≤ k) : Fr S w w2 :=
  h.join h' fun k hk e => absurd (hs k e) (by omega)
theorem Fr.drew {S : Nat → Prop} {w w' : World} (h : Fr S w w') : Fr S w w'.drew := ⟨h.os, h.tape, h.output, h.size, h.block⟩
theorem Fr.drewN {S : Nat → Prop} {w w' : World} (h : Fr S w w') (n : Nat) : Fr S w (w'.drewN n) := ⟨h.os, h.tape, h.output, h.size, h.block⟩
theorem Fr.alloc {S : Nat → Prop} {w w' : World} (h : Fr S w w') (o : Obj) : Fr S w (w'.alloc o) :=
  h.then ⟨rfl, rfl, rfl, by simp, fun k hk _ => Below.heap_alloc _ _ _ hk⟩
theorem Fr.setCell {S : Nat → Prop} {w w' : World} (h : Fr S w w') {p : Addr} (hp : p.block < w.heap.size → S p.block) (u : Value) : Fr S w (w'.setCell p u) :=
  ⟨h.os, h.tape, h.output, by simpa [World.setCell] using h.size, fun k hk hn => (Below.heap_setCell w' p u k (fun e => hn (by subst e; exact hp hk))).trans (h.block k hk hn)⟩
theorem Fr.set1 {g : Nat} {w w' : World} (h : Fr (One g) w w') (i : Nat) (u : Value) : Fr (One g) w (w'.setCell ⟨g, i, none⟩ u) := h.setCell (p := ⟨g, i, none⟩) (fun _ => rfl) u
theorem Fr.of_below {w w' : World} (h : Below w.heap.size w w') : Fr Non w w' := ⟨h.os, h.tape, h.output, h.size, fun k hk _ => h.block k hk⟩
theorem Fr.below {w w' : World} (h : Fr Non w w') : Below w.heap.size w w' := ⟨h.os, h.tape, h.output, h.size, fun k hk => h.block k hk fun e => e⟩
theorem Fr.of_grown {w w' : World} {row : Option Nat} (h : w.grownBy w' row) : Fr (fun k => row = some k) w w' :=
  ⟨h.os, h.tape, h.output, h.size, fun k hk hn => h.block k hk (fun e => hn e.symm)⟩
theorem Fr.cell {S : Nat → Prop} {w w' : World} (h : Fr S w w') {p : Addr} (hp : p.block < w.heap.size) (hn : ¬ S p.block) : w'.cell? p = w.cell? p := World.cell?_of_block (h.block _ hp hn)

theorem ret_boolE {a b : Bool} (h : a = b) : Ending.returned (.bool a) = .returned (.bool b) := by rw [h]
theorem ret_int {k : IntKind} {a b : Int} (h : a = b) : Ending.returned (.int k a) = .returned (.int k b) := by rw [h]

/-! ### A block that is known whole -/
def Blk (w : World) (g : Nat) (t : TypeId) (cs : Array Value) : Prop := w.heap[g]? = some (.cells cs t (0, 0))
theorem Blk.lt {w : World} {g : Nat} {t : TypeId} {cs : Array Value} (h : Blk w g t cs) : g < w.heap.size := (Array.getElem?_eq_some_iff.1 h).1
theorem Blk.cell {w : World} {g : Nat} {t : TypeId} {cs : Array Value} (h : Blk w g t cs) (i : Nat) : w.cell? ⟨g, i, none⟩ = cs[i]? := cell_of_row w g i cs t (0, 0) h
theorem Blk.frozen {w : World} {g : Nat} {t : TypeId} {cs : Array Value} (h : Blk w g t cs) (i : Nat) : w.frozen? ⟨g, i, none⟩ = false := by
  unfold Blk at h; simp [World.frozen?, h]
theorem Blk.new (w : World) (t : TypeId) (cs : Array Value) : Blk (w.alloc (.cells cs t)) w.heap.size t cs := heap_alloc_new w _
theorem Blk.fr {S : Nat → Prop} {w w' : World} {g : Nat} {t : TypeId} {cs : Array Value} (h : Blk w g t cs) (hf : Fr S w w') (hn : ¬ S g) : Blk w' g t cs := (hf.block g h.lt hn).trans h
theorem Blk.set {w : World} {g : Nat} {t : TypeId} {cs : Array Value} (h : Blk w g t cs) (i : Nat) (u : Value) : Blk (w.setCell ⟨g, i, none⟩ u) g t (cs.setIfInBounds i u) := by
  unfold Blk at h ⊢; simp [World.setCell, Array.getElem?_modify, h]
theorem Blk.drew {w : World} {g : Nat} {t : TypeId} {cs : Array Value} (h : Blk w g t cs) : Blk w.drew g t cs := h
theorem cell_new1 (w : World) (v : Value) (t : TypeId) : (w.alloc (.cells #[v] t)).cell? ⟨w.heap.size, 0, none⟩ = some v := (Blk.new w t #[v]).cell 0

/-! ### Bytes -/
def bv (b : UInt8) : Value := .int .u8 b.toNat
theorem add_block (a : Addr) (n : Nat) : (a.add n).block = a.block := by unfold Addr.add; split <;> rfl
theorem add_add (a : Addr) (i j : Nat) : (a.add i).add j = a.add (i + j) := by
  unfold Addr.add
  by_cases hi : i = 0 <;> by_cases hj : j = 0 <;> simp [hi, hj, Nat.add_assoc]

/-- the slice v reads as the bytes l -/
def Bs (w : World) (v : Value) (l : List UInt8) : Prop :=
  ∃ A c, v = .slice A l.length c ∧ l.length ≤ c ∧ (A = none → c = 0) ∧ ∀ a, A = some a → ∀ j (h : j < l.length), w.cell? (a.add j) = some (bv l[j])

theorem Bs.nil_ (w : World) : Bs w (.slice none 0 0) [] := ⟨none, 0, rfl, Nat.le_refl _, fun _ => rfl, fun _ h => by cases h⟩
theorem Bs.keep {w w' : World} {v : Value} {l : List UInt8} (h : Bs w v l) (hk : ∀ k, v.ownBlock = some k → k < w.heap.size → w'.heap[k]? = w.heap[k]?) : Bs w' v l := by
  obtain ⟨A, c, rfl, h1, h2, h3⟩ := h
  refine ⟨A, c, rfl, h1, h2, fun a ha j hj => ?_⟩
  have := h3 a ha j hj
  subst ha
  have hb := World.block_lt_of_cell? w _ this
  rw [add_block] at hb
  rw [← this]
  exact World.cell?_of_block (by rw [add_block]; exact hk _ rfl hb)
theorem Bs.fr {S : Nat → Prop} {w w' : World} {v : Value} {l : List UInt8} (h : Bs w v l) (hf : Fr S w w') (hn : ∀ k, v.ownBlock = some k → ¬ S k) : Bs w' v l :=
  h.keep fun k hk hlt => hf.block k hlt (hn k hk)
theorem Bs.non {w w' : World} {v : Value} {l : List UInt8} (h : Bs w v l) (hf : Fr Non w w') : Bs w' v l := h.fr hf fun _ _ e => e
theorem Bs.drew {w : World} {v : Value} {l : List UInt8} (h : Bs w v l) : Bs w.drew v l := h
theorem Bs.shape {w : World} {v : Value} {l : List UInt8} (h : Bs w v l) : ∃ A c, v = .slice A l.length c := by
  obtain ⟨A, c, rfl, _⟩ := h; exact ⟨A, c, rfl⟩

/-- bytes that the call owns: a row of its own, from block B on -/
def Own (w : World) (B : Nat) (v : Value) (l : List UInt8) : Prop := w.ownsRow B 5 1 v l.length (l.map bv)
theorem Own.lt {w : World} {B : Nat} {v : Value} {l : List UInt8} (h : Own w B v l) : ∀ k, v.ownBlock = some k → B ≤ k ∧ k < w.heap.size := World.ownsRow.lt h
theorem Own.bs {w : World} {B : Nat} {v : Value} {l : List UInt8} (h : Own w B v l) : Bs w v l := by
  rcases h.2 with ⟨rfl, h0⟩ | ⟨g, cap, cur, rfl, _, _, hle, _, _, _⟩
  · have hl : l = [] := List.eq_nil_of_length_eq_zero h0
    subst hl; exact Bs.nil_ w
  · refine ⟨_, cap, rfl, hle, (fun h => by cases h), fun a ha j hj => ?_⟩
    cases ha
    exact World.ownsRow.cells h (g := g) rfl j _ (by simp [hj])
theorem Own.keep {w w' : World} {B : Nat} {v : Value} {l : List UInt8} (h : Own w B v l) (hk : ∀ k, v.ownBlock = some k → w'.heap[k]? = w.heap[k]?) : Own w' B v l := by
  refine ⟨h.1, ?_⟩
  rcases h.2 with h2 | ⟨g, cap, cur, hv, hb, hg, r⟩
  · exact .inl h2
  · exact .inr ⟨g, cap, cur, hv, hb, by rw [hk g (by rw [hv]; rfl)]; exact hg, r⟩
theorem Own.fr {S : Nat → Prop} {w w' : World} {B : Nat} {v : Value} {l : List UInt8} (h : Own w B v l) (hf : Fr S w w') (hn : ∀ k, v.ownBlock = some k → ¬ S k) : Own w' B v l :=
  h.keep fun k hk => hf.block k (h.lt k hk).2 (hn k hk)
theorem Own.non {w w' : World} {B : Nat} {v : Value} {l : List UInt8} (h : Own w B v l) (hf : Fr Non w w') : Own w' B v l := h.fr hf fun _ _ e => e
theorem Own.alloc {w : World} {B : Nat} {v : Value} {l : List UInt8} (h : Own w B v l) (o : Obj) : Own (w.alloc o) B v l := h.non ((Fr.refl _ _).alloc o)
theorem Own.mono {w : World} {B B' : Nat} {v : Value} {l : List UInt8} (h : Own w B v l) (hB : B' ≤ B) : Own w B' v l := by
  refine ⟨h.1, ?_⟩
  rcases h.2 with h2 | ⟨g, cap, cur, hv, hb, r⟩
  · exact .inl h2
  · exact .inr ⟨g, cap, cur, hv, by omega, r⟩

theorem Own.row {w : World} {B : Nat} {v : Value} {l : List UInt8} (h : Own w B v l) (hn : l ≠ []) : ∃ g cap, v = .slice (some ⟨g, 0, none⟩) l.length cap ∧ B ≤ g ∧ g < w.heap.size ∧ l.length ≤ cap ∧ cap ≤ maxLen := by
  rcases h.2 with ⟨rfl, h0⟩ | ⟨g, cap, cur, rfl, hb, hg, hle, hm, _⟩
  · exact absurd (List.eq_nil_of_length_eq_zero h0) hn
  · exact ⟨g, cap, rfl, hb, (Array.getElem?_eq_some_iff.1 hg).1, hle, hm⟩
theorem Own.cell {w : World} {B g n cap : Nat} {l : List UInt8} (h : Own w B (.slice (some ⟨g, 0, none⟩) n cap) l) (hn : n = l.length) (j : Nat) (b : UInt8) (hb : l[j]? = some b) : w.cell? ⟨g, j, none⟩ = some (.int .u8 b.toNat) := by
  subst hn
  have hj : j < l.length := (List.getElem?_eq_some_iff.1 hb).1
  rw [World.ownsRow.cellAt h j (by omega), List.getElem?_map, hb]; rfl
theorem Own.frozen {w : World} {B g n cap : Nat} {l : List UInt8} (h : Own w B (.slice (some ⟨g, 0, none⟩) n cap) l) (hn : n = l.length) (j : Nat) : w.frozen? ⟨g, j, none⟩ = false := by
  subst hn; exact World.ownsRow.frozenAt h j
theorem Own.drew {w : World} {B : Nat} {v : Value} {l : List UInt8} (h : Own w B v l) : Own w.drew B v l := h

/-! ### A slice of slices of bytes -/
def Bss (w : World) (v : Value) (ls : List (List UInt8)) : Prop :=
  ∃ A c, v = .slice A ls.length c ∧ ls.length ≤ c ∧ (A = none → c = 0) ∧ ∀ a, A = some a → ∀ j (h : j < ls.length), ∃ u, w.cell? (a.add j) = some u ∧ Bs w u ls[j]
theorem Bss.non {w w' : World} {v : Value} {ls : List (List UInt8)} (h : Bss w v ls) (hf : Fr Non w w') : Bss w' v ls := by
  obtain ⟨A, c, rfl, h1, h2, h3⟩ := h
  refine ⟨A, c, rfl, h1, h2, fun a ha j hj => ?_⟩
  obtain ⟨u, hu, hb⟩ := h3 a ha j hj
  exact ⟨u, by rw [← hu]; exact hf.cell (World.block_lt_of_cell? w _ hu) (fun e => e), hb.non hf⟩
/-! ### Pieces of a slice of bytes -/
end Go.Proofs.YtibopcceffncpaaGreatDoor


namespace Go.Proofs.YtibopcceffncpaaGreatDoor
set_option linter.unusedVariables false
set_option linter.unusedSimpArgs false
set_option maxRecDepth 100000
open Go.RowKit

/-- append of one value of one cell, which was stored in a new block first -/
theorem run_pushv (T E ty : TypeId) (z : Value) (by_ : Nat) (hT : Tryz.prog.underlying T = some (.slice E)) (hinfo : (Tryz.prog.info? E).map (fun i => (i.zero, i.size, i.bytes)) = some (some z, 1, by_)) (hz : z.cells.size = 1)
    (w0 : World) (B : Nat) (v u : Value) (xs : List Value) (hown : w0.ownsRow B E 1 v xs.length xs) (h1 : u.oneCell' = true) (hl : (xs.length + 1) * by_ ≤ 140737488355328) (hm : xs.length + 1 ≤ maxLen) (hB : B ≤ w0.heap.size) (g : Nat) (hg : g = w0.heap.size) :
    ∃ v' w', (Builtin.append_ #[T, T] ty #[v, .slice (some ⟨g, 0, none⟩) 1 1]).run Tryz.prog (w0.alloc (.cells #[u] E)) = .ok v' w' ∧ w'.ownsRow B E 1 v' (xs ++ [u]).length (xs ++ [u]) ∧ Fr (fun k => v.ownBlock = some k) w0 w' := by
  subst hg
  obtain ⟨i, hi, hz0, hz1, hz2⟩ := info_parts hinfo
  have ho : (w0.alloc (.cells #[u] E)).ownsRow B E 1 v xs.length xs := by
    refine ⟨hown.1, ?_⟩
    rcases hown.2 with h2 | ⟨g, cap, cur, hv, hb, hg, r⟩
    · exact .inl h2
    · exact .inr ⟨g, cap, cur, hv, hb, by rw [Below.heap_alloc _ _ _ (Array.getElem?_eq_some_iff.1 hg).1]; exact hg, r⟩
  obtain ⟨v', w', hr, h2, h3, h4⟩ := run_append_own (P := Tryz.prog) (w0.alloc (.cells #[u] E)) B T ty E i z 1 by_ hT hi hz0 hz1 hz2 hz (by omega) v xs.length xs ho ⟨w0.heap.size, 0, none⟩ 1 1 [u] rfl
    (fun j x hj => by
      cases j with
      | zero =>
        obtain rfl : u = x := by simpa using hj
        exact cell_new1 _ _ _
      | succ j => simp at hj)
    (fun x hx => by obtain rfl : x = u := by simpa using hx
                    exact h1) hm hl (by simp; omega)
  refine ⟨v', w', hr, by simpa using h2, ?_⟩
  exact ((Fr.refl _ _).alloc _).join (Fr.of_grown h3) fun k hk e => e.symm ▸ rfl

/-- a slice of slices of bytes that the call owns, row and all -/
def Owns (w : World) (B : Nat) (v : Value) (ls : List (List UInt8)) : Prop :=
  ∃ vs : List Value, w.ownsRow B 87 1 v vs.length vs ∧ vs.length = ls.length ∧ ∀ (i : Nat) (u : Value) (l : List UInt8), vs[i]? = some u → ls[i]? = some l → Own w B u l

theorem Own.kind {w : World} {B : Nat} {u : Value} {l : List UInt8} (h : Own w B u l) : ∀ k, u.ownBlock = some k → ∃ cur, w.heap[k]? = some (.cells cur 5 (0, 0)) := by
  intro k hk
  rcases h.2 with ⟨rfl, _⟩ | ⟨g, cap, cur, rfl, _, hg, _⟩
  · cases hk
  · obtain rfl : g = k := by simpa [Value.ownBlock] using hk
    exact ⟨cur, hg⟩
theorem row_kind {w : World} {B : Nat} {E : TypeId} {n : Nat} {v : Value} {xs : List Value} (h : w.ownsRow B E 1 v n xs) : ∀ k, v.ownBlock = some k → ∃ cur, w.heap[k]? = some (.cells cur E (0, 0)) := by
  intro k hk
  rcases h.2 with ⟨rfl, _⟩ | ⟨g, cap, cur, rfl, _, hg, _⟩
  · cases hk
  · obtain rfl : g = k := by simpa [Value.ownBlock] using hk
    exact ⟨cur, hg⟩
theorem row_keep {w w' : World} {B : Nat} {E : TypeId} {n : Nat} {v : Value} {xs : List Value} (h : w.ownsRow B E 1 v n xs) (hk : ∀ k, v.ownBlock = some k → w'.heap[k]? = w.heap[k]?) : w'.ownsRow B E 1 v n xs := by
  refine ⟨h.1, ?_⟩
  rcases h.2 with h2 | ⟨g, cap, cur, hv, hb, hg, r⟩
  · exact .inl h2
  · exact .inr ⟨g, cap, cur, hv, hb, by rw [hk g (by rw [hv]; rfl)]; exact hg, r⟩
theorem row_lt {w : World} {B : Nat} {E : TypeId} {n : Nat} {v : Value} {xs : List Value} (h : w.ownsRow B E 1 v n xs) : ∀ k, v.ownBlock = some k → B ≤ k ∧ k < w.heap.size := World.ownsRow.lt h
theorem row_mono {w : World} {B B' : Nat} {E : TypeId} {n : Nat} {v : Value} {xs : List Value} (h : w.ownsRow B E 1 v n xs) (hB : B' ≤ B) : w.ownsRow B' E 1 v n xs := by
  refine ⟨h.1, ?_⟩
  rcases h.2 with h2 | ⟨g, cap, cur, hv, hb, r⟩
  · exact .inl h2
  · exact .inr ⟨g, cap, cur, hv, by omega, r⟩

theorem Owns.lt {w : World} {B : Nat} {v : Value} {ls : List (List UInt8)} (h : Owns w B v ls) : ∀ k, v.ownBlock = some k → B ≤ k ∧ k < w.heap.size := by
  obtain ⟨vs, h1, _⟩ := h; exact row_lt h1
/-- it stays where the blocks that turn are no rows of slices and no bytes -/
theorem Owns.keep {w w' : World} {B : Nat} {v : Value} {ls : List (List UInt8)} (h : Owns w B v ls)
    (hk : ∀ k cur, (w.heap[k]? = some (.cells cur 87 (0, 0)) ∨ w.heap[k]? = some (.cells cur 5 (0, 0))) → B ≤ k → w'.heap[k]? = w.heap[k]?) : Owns w' B v ls := by
  obtain ⟨vs, h1, h2, h3⟩ := h
  refine ⟨vs, row_keep h1 fun k e => ?_, h2, fun i u l hu hl => (h3 i u l hu hl).keep fun k e => ?_⟩
  · obtain ⟨cur, hc⟩ := row_kind h1 k e
    exact hk k cur (.inl hc) (row_lt h1 k e).1
  · obtain ⟨cur, hc⟩ := (h3 i u l hu hl).kind k e
    exact hk k cur (.inr hc) ((h3 i u l hu hl).lt k e).1
theorem Owns.fr {S : Nat → Prop} {w w' : World} {B : Nat} {v : Value} {ls : List (List UInt8)} (h : Owns w B v ls) (hf : Fr S w w')
    (hS : ∀ k cur, S k → w.heap[k]? ≠ some (.cells cur 87 (0, 0)) ∧ w.heap[k]? ≠ some (.cells cur 5 (0, 0))) : Owns w' B v ls :=
  h.keep fun k cur hc _ => hf.block k (by rcases hc with e | e <;> exact (Array.getElem?_eq_some_iff.1 e).1) fun e => by
    rcases hc with h1 | h1
    · exact (hS k cur e).1 h1
    · exact (hS k cur e).2 h1
theorem Owns.non {w w' : World} {B : Nat} {v : Value} {ls : List (List UInt8)} (h : Owns w B v ls) (hf : Fr Non w w') : Owns w' B v ls := h.fr hf fun k cur e => e.elim
theorem Owns.mono {w : World} {B B' : Nat} {v : Value} {ls : List (List UInt8)} (h : Owns w B v ls) (hB : B' ≤ B) : Owns w B' v ls := by
  obtain ⟨vs, h1, h2, h3⟩ := h
  exact ⟨vs, row_mono h1 hB, h2, fun i u l hu hl => (h3 i u l hu hl).mono hB⟩
theorem Owns.bss {w : World} {B : Nat} {v : Value} {ls : List (List UInt8)} (h : Owns w B v ls) : Bss w v ls := by
  obtain ⟨vs, h1, h2, h3⟩ := h
  rcases h1.2 with ⟨rfl, h0⟩ | ⟨g, cap, cur, rfl, _, _, hle, _, _, _⟩
  · have hl : ls = [] := List.eq_nil_of_length_eq_zero (by omega)
    subst hl
    exact ⟨none, 0, rfl, Nat.le_refl _, fun _ => rfl, fun _ h => by cases h⟩
  · refine ⟨_, cap, by rw [h2], by omega, (fun h => by cases h), fun a ha j hj => ?_⟩
    cases ha
    have hj' : j < vs.length := by omega
    exact ⟨vs[j], World.ownsRow.cells h1 (g := g) rfl j _ (by simp [hj']), (h3 j vs[j] ls[j] (by simp [hj']) (by simp [hj])).bs⟩
theorem Owns.shape {w : World} {B : Nat} {v : Value} {ls : List (List UInt8)} (h : Owns w B v ls) : ∃ A c, v = .slice A ls.length c := by
  obtain ⟨A, c, rfl, _⟩ := h.bss; exact ⟨A, c, rfl⟩
/-! ### Whole numbers in a row of the call's own -/
def iv (n : Int) : Value := .int .i64 n
def OwnI (w : World) (B : Nat) (v : Value) (l : List Int) : Prop := w.ownsRow B 3 1 v (l.map iv).length (l.map iv)
theorem OwnI.non {w w' : World} {B : Nat} {v : Value} {l : List Int} (h : OwnI w B v l) (hf : Fr Non w w') : OwnI w' B v l := row_keep h fun k hk => hf.block k (row_lt h k hk).2 fun e => e
theorem OwnI.fr {S : Nat → Prop} {w w' : World} {B : Nat} {v : Value} {l : List Int} (h : OwnI w B v l) (hf : Fr S w w') (hn : ∀ k, v.ownBlock = some k → ¬ S k) : OwnI w' B v l := row_keep h fun k hk => hf.block k (row_lt h k hk).2 (hn k hk)
theorem OwnI.cell {w : World} {B : Nat} {v : Value} {l : List Int} (h : OwnI w B v l) {g n c : Nat} (hv : v = .slice (some ⟨g, 0, none⟩) n c) (j : Nat) (hj : j < l.length) : w.cell? ⟨g, j, none⟩ = some (.int .i64 l[j]) := by
  subst hv
  have := World.ownsRow.cells h (g := g) rfl j (iv l[j]) (by simp [hj])
  rwa [Addr.add_lit, Nat.zero_add] at this
end Go.Proofs.YtibopcceffncpaaGreatDoor


namespace Go.Proofs.YtibopcceffncpaaGreatDoor
set_option linter.unusedVariables false
set_option linter.unusedSimpArgs false
set_option maxRecDepth 100000
open Go.RowKit

/-- the slice v reads as the list l, each element's cell being f of it -/
def Vs {α : Type} (f : α → Value) (w : World) (v : Value) (l : List α) : Prop :=
  ∃ A c, v = .slice A l.length c ∧ l.length ≤ c ∧ (A = none → c = 0) ∧ ∀ a, A = some a → ∀ j (h : j < l.length), w.cell? (a.add j) = some (f l[j])
/-- a row of the call's own, from block B on, of elements of type E -/
def Ow {α : Type} (f : α → Value) (E : TypeId) (w : World) (B : Nat) (v : Value) (l : List α) : Prop := w.ownsRow B E 1 v l.length (l.map f)

/-- T: slices of E, whose elements have one cell -/
structure El (T E : TypeId) (z : Value) (by_ : Nat) : Prop where
  under : Tryz.prog.underlying T = some (.slice E)
  info : (Tryz.prog.info? E).map (fun i => (i.zero, i.size, i.bytes)) = some (some z, 1, by_)
  cells : z.cells = #[z]
  small : by_ ≤ 64
  elem : Tryz.prog.elem T = E
  sz : ∀ w, (sizeOf (Tryz.prog.elem T)).run Tryz.prog w = .ok 1 w

section
variable {α : Type} {f : α → Value}

theorem Vs.nil_ (w : World) : Vs f w (.slice none 0 0) [] := ⟨none, 0, rfl, Nat.le_refl _, fun _ => rfl, fun _ h => by cases h⟩
theorem Vs.keep {w w' : World} {v : Value} {l : List α} (h : Vs f w v l) (hk : ∀ k, v.ownBlock = some k → k < w.heap.size → w'.heap[k]? = w.heap[k]?) : Vs f w' v l := by
  obtain ⟨A, c, rfl, h1, h2, h3⟩ := h
  refine ⟨A, c, rfl, h1, h2, fun a ha j hj => ?_⟩
  have := h3 a ha j hj
  subst ha
  have hb := World.block_lt_of_cell? w _ this
  rw [add_block] at hb
  rw [← this]
  exact World.cell?_of_block (by rw [add_block]; exact hk _ rfl hb)
theorem Vs.fr {S : Nat → Prop} {w w' : World} {v : Value} {l : List α} (h : Vs f w v l) (hf : Fr S w w') (hn : ∀ k, v.ownBlock = some k → ¬ S k) : Vs f w' v l :=
  h.keep fun k hk hlt => hf.block k hlt (hn k hk)
theorem Vs.non {w w' : World} {v : Value} {l : List α} (h : Vs f w v l) (hf : Fr Non w w') : Vs f w' v l := h.fr hf fun _ _ e => e
theorem Vs.drew {w : World} {v : Value} {l : List α} (h : Vs f w v l) : Vs f w.drew v l := h
theorem Vs.drewN {w : World} {v : Value} {l : List α} (h : Vs f w v l) (n : Nat) : Vs f (w.drewN n) v l := h
theorem Vs.shape {w : World} {v : Value} {l : List α} (h : Vs f w v l) : ∃ A c, v = .slice A l.length c := by
  obtain ⟨A, c, rfl, _⟩ := h; exact ⟨A, c, rfl⟩
/-- its address, where it has an element -/
theorem Vs.addr {w : World} {A : Option Addr} {n c : Nat} {l : List α} (h : Vs f w (.slice A n c) l) (hl : 0 < n) : ∃ a, A = some a ∧ n = l.length ∧ n ≤ c ∧ ∀ j (h : j < l.length), w.cell? (a.add j) = some (f l[j]) := by
  obtain ⟨A0, c0, he, h1, h2, h3⟩ := h
  simp only [Value.slice.injEq] at he
  obtain ⟨rfl, rfl, rfl⟩ := he
  cases A with
  | none => have := h2 rfl; omega
  | some a => exact ⟨a, rfl, rfl, h1, h3 a rfl⟩
/-- elements laid in a new block -/
theorem vs_row (w : World) (l : List α) (E : TypeId) (fr : Nat × Nat) : Vs f (w.alloc (.cells (l.map f).toArray E fr)) (.slice (some ⟨w.heap.size, 0, none⟩) l.length l.length) l := by
  refine ⟨_, _, rfl, Nat.le_refl _, (fun h => by cases h), fun a ha j hj => ?_⟩
  cases ha
  rw [Addr.add_lit, Nat.zero_add, cell_of_row _ w.heap.size j _ _ fr (heap_alloc_new w _)]
  simp [hj]
theorem Vs.pre {w : World} {A : Option Addr} {n c k : Nat} {l : List α} (h : Vs f w (.slice A n c) l) (hk : k ≤ n) : Vs f w (.slice A k c) (l.take k) := by
  obtain ⟨A0, c0, he, h1, h2, h3⟩ := h
  simp only [Value.slice.injEq] at he
  obtain ⟨rfl, rfl, rfl⟩ := he
  have hl : (l.take k).length = k := by rw [List.length_take]; omega
  refine ⟨A, c, by rw [hl], by rw [hl]; omega, h2, fun a ha j hj => ?_⟩
  rw [h3 a ha j (by rw [hl] at hj; omega)]
  simp

variable {E : TypeId}
theorem ow_nil (w : World) (B : Nat) : Ow f E w B (.slice none 0 0) [] := ⟨by simp, .inl ⟨rfl, rfl⟩⟩
theorem Ow.lt {w : World} {B : Nat} {v : Value} {l : List α} (h : Ow f E w B v l) : ∀ k, v.ownBlock = some k → B ≤ k ∧ k < w.heap.size := World.ownsRow.lt h
theorem Ow.vs {w : World} {B : Nat} {v : Value} {l : List α} (h : Ow f E w B v l) : Vs f w v l := by
  rcases h.2 with ⟨rfl, h0⟩ | ⟨g, cap, cur, rfl, _, _, hle, _, _, _⟩
  · have hl : l = [] := List.eq_nil_of_length_eq_zero h0
    subst hl; exact Vs.nil_ w
  · refine ⟨_, cap, rfl, hle, (fun h => by cases h), fun a ha j hj => ?_⟩
    cases ha
    exact World.ownsRow.cells h (g := g) rfl j _ (by simp [hj])
theorem Ow.shape {w : World} {B : Nat} {v : Value} {l : List α} (h : Ow f E w B v l) : ∃ A c, v = .slice A l.length c := h.vs.shape
theorem Ow.keep {w w' : World} {B : Nat} {v : Value} {l : List α} (h : Ow f E w B v l) (hk : ∀ k, v.ownBlock = some k → w'.heap[k]? = w.heap[k]?) : Ow f E w' B v l := row_keep h hk
theorem Ow.fr {S : Nat → Prop} {w w' : World} {B : Nat} {v : Value} {l : List α} (h : Ow f E w B v l) (hf : Fr S w w') (hn : ∀ k, v.ownBlock = some k → ¬ S k) : Ow f E w' B v l :=
  h.keep fun k hk => hf.block k (h.lt k hk).2 (hn k hk)
theorem Ow.non {w w' : World} {B : Nat} {v : Value} {l : List α} (h : Ow f E w B v l) (hf : Fr Non w w') : Ow f E w' B v l := h.fr hf fun _ _ e => e
theorem Ow.alloc {w : World} {B : Nat} {v : Value} {l : List α} (h : Ow f E w B v l) (o : Obj) : Ow f E (w.alloc o) B v l := h.non ((Fr.refl _ _).alloc o)
theorem Ow.drew {w : World} {B : Nat} {v : Value} {l : List α} (h : Ow f E w B v l) : Ow f E w.drew B v l := h
theorem Ow.drewN {w : World} {B : Nat} {v : Value} {l : List α} (h : Ow f E w B v l) (n : Nat) : Ow f E (w.drewN n) B v l := h
theorem Ow.mono {w : World} {B B' : Nat} {v : Value} {l : List α} (h : Ow f E w B v l) (hB : B' ≤ B) : Ow f E w B' v l := row_mono h hB
theorem Ow.kind {w : World} {B : Nat} {v : Value} {l : List α} (h : Ow f E w B v l) : ∀ k, v.ownBlock = some k → ∃ cur, w.heap[k]? = some (.cells cur E (0, 0)) := row_kind h
/-- where it has an element, it stands at a row's head -/
theorem Ow.row {w : World} {B : Nat} {v : Value} {l : List α} (h : Ow f E w B v l) (hn : 0 < l.length) : ∃ g cap, v = .slice (some ⟨g, 0, none⟩) l.length cap ∧ B ≤ g ∧ g < w.heap.size ∧ l.length ≤ cap ∧ cap ≤ maxLen := by
  rcases h.2 with ⟨rfl, h0⟩ | ⟨g, cap, cur, rfl, hb, hg, hle, hm, _⟩
  · omega
  · exact ⟨g, cap, rfl, hb, (Array.getElem?_eq_some_iff.1 hg).1, hle, hm⟩
theorem Ow.cell {w : World} {B g n cap : Nat} {l : List α} (h : Ow f E w B (.slice (some ⟨g, 0, none⟩) n cap) l) (hn : n = l.length) (j : Nat) (x : α) (hb : l[j]? = some x) : w.cell? ⟨g, j, none⟩ = some (f x) := by
  subst hn
  have hj : j < l.length := (List.getElem?_eq_some_iff.1 hb).1
  rw [World.ownsRow.cellAt h j (by omega), List.getElem?_map, hb]; rfl
theorem Ow.frozen {w : World} {B g n cap : Nat} {l : List α} (h : Ow f E w B (.slice (some ⟨g, 0, none⟩) n cap) l) (hn : n = l.length) (j : Nat) : w.frozen? ⟨g, j, none⟩ = false := by
  subst hn; exact World.ownsRow.frozenAt h j
theorem ow_lit (w : World) (B g : Nat) (l : List α) (cs : Array Value) (hcs : cs.toList = l.map f) (hg : g = w.heap.size) (hB : B ≤ g) (hm : l.length ≤ maxLen) : Ow f E (w.alloc (.cells cs E)) B (.slice (some ⟨g, 0, none⟩) l.length l.length) l := by
  subst hg
  unfold Ow
  rw [← hcs]
  exact World.ownsRow_lit w cs l.length hB hm (by have := congrArg List.length hcs; simpa using this)
theorem ow_lit0 (w : World) (B g : Nat) (hg : g = w.heap.size) (hB : B ≤ g) : Ow f E (w.alloc (.cells #[] E)) B (.slice (some ⟨g, 0, none⟩) 0 0) [] :=
  ow_lit w B g [] #[] rfl hg hB (by unfold maxLen; simp)

/-! ### Steps -/
variable {T : TypeId} {z : Value} {by_ : Nat}
/-- append of one element, which was stored in a new block first -/
theorem wpList_pushG (hE : El T E z by_) (hf1 : ∀ x, (f x).oneCell' = true) {w0 : World} {ops : Array Oper} {rest : List Oper} {o : Oper} {a : Act} {Q : Exit → Act → World → Prop} (hgd : o.guard = none) (s x : Operand)
    (ho : o.op = .call { callee := .builtin .append, args := #[s, x], argTypes := #[T, T] })
    (B : Nat) (v : Value) (l : List α) (hs : a.eval s = v) (hown : Ow f E w0 B v l) (u : Value) (y : α) (hu : u = f y) (hx : a.eval x = .slice (some ⟨w0.heap.size, 0, none⟩) 1 1)
    (hl : l.length < 1099511627776) (hB : B ≤ w0.heap.size)
    (h : ∀ v' w', Ow f E w' B v' (l ++ [y]) → Fr (fun k => v.ownBlock = some k) w0 w' → wpList Tryz.prog ops Q rest (a.put o.dst v') w') :
    wpList Tryz.prog ops Q (o :: rest) a (w0.alloc (.cells #[u] E)) := by
  subst hu
  have hown' : w0.ownsRow B E 1 v (l.map f).length (l.map f) := by rw [List.length_map]; exact hown
  have hs' := hE.small
  have hbl : ((l.map f).length + 1) * by_ ≤ 140737488355328 := by
    rw [List.length_map]
    have := Nat.mul_le_mul (show l.length + 1 ≤ 1099511627776 by omega) hs'
    omega
  obtain ⟨v', w', hr, h1, h2⟩ := run_pushv T E o.type z by_ hE.under hE.info (by rw [hE.cells]; rfl) w0 B v (f y) (l.map f) hown' (hf1 y) hbl (by rw [List.length_map]; unfold maxLen; omega) hB w0.heap.size rfl
  refine wpList_plain hgd fun K hK => ?_
  unfold Oper.wp execOp
  simp only [ho, resolve, invoke, builtin, Sem.run_bind, Sem.run_pure, Result.andThen_ok, List.map_toArray, List.map_cons, List.map_nil, hs, hx, hr]
  refine hK _ _ (h v' w' ?_ h2)
  unfold Ow
  simpa [List.map_append] using h1

/-- append of a slice's elements -/
theorem wpList_appG (hE : El T E z by_) (hf1 : ∀ x, (f x).oneCell' = true) {w : World} {ops : Array Oper} {rest : List Oper} {o : Oper} {a : Act} {Q : Exit → Act → World → Prop} (hgd : o.guard = none) (s x : Operand)
    (ho : o.op = .call { callee := .builtin .append, args := #[s, x], argTypes := #[T, T] })
    (B : Nat) (v y : Value) (l m : List α) (hs : a.eval s = v) (hown : Ow f E w B v l) (hx : a.eval x = y) (hy : Vs f w y m)
    (hl : l.length + m.length < 1099511627776) (hB : B ≤ w.heap.size)
    (h : ∀ v' w', Ow f E w' B v' (l ++ m) → Fr (fun k => v.ownBlock = some k) w w' → wpList Tryz.prog ops Q rest (a.put o.dst v') w') : wpList Tryz.prog ops Q (o :: rest) a w := by
  refine wpList_plain hgd fun K hK => ?_
  obtain ⟨i, hi, hz0, hz1, hz2⟩ := info_parts hE.info
  have hs' := hE.small
  have hzc : z.cells.size = 1 := by rw [hE.cells]; rfl
  have hbl : (l.length + m.length) * by_ ≤ 140737488355328 := by
    have := Nat.mul_le_mul (show l.length + m.length ≤ 1099511627776 by omega) hs'
    omega
  obtain ⟨A, c, rfl, hmc, hn, hcells⟩ := hy
  cases A with
  | some ad =>
    refine wp_append_own w s x T ho B E i z 1 by_ hE.under hi hz0 hz1 hz2 hzc (by omega) v l.length (l.map f) hs hown ad m.length c (m.map f) hx (by simp) ?_ (by intro u hu; obtain ⟨b, _, rfl⟩ := List.mem_map.1 hu; exact hf1 b) (by unfold maxLen; omega) (by omega) hB ?_
    · intro j u hu
      have hj : j < m.length := by simpa using (List.getElem?_eq_some_iff.1 hu).1
      rw [hcells ad rfl j hj]
      simpa [hj] using hu
    · intro v' w' h1 h2 _
      refine hK _ _ (h v' w' ?_ (Fr.of_grown h2))
      unfold Ow; simpa using h1
  | none =>
    have hm : m = [] := List.eq_nil_of_length_eq_zero (by have := hn rfl; omega)
    subst hm
    have hc : c = 0 := hn rfl
    subst hc
    have hrun := run_append_owned_none (P := Tryz.prog) (w := w) B T o.type E i 1 hE.under hi v l.length (l.map f) hown
    unfold Oper.wp
    have hx' : a.eval x = .slice none 0 0 := hx
    simp [execOp, ho, resolve, invoke, builtin, hs, hx', hrun, Result.andThen]
    exact hK _ _ (h v w (by simpa using hown) (Fr.refl _ _))

/-! ### Pieces -/
theorem slice_hiG (hE : El T E z by_) (A : Option Addr) (n c k : Nat) (kl : IntKind) (y : Int) (hy : y = (k : Int)) (hk : k ≤ n) (hn : n ≤ c) :
    ∃ A' c', (∀ W, (Instr.slice T (.slice A n c) none (some (.int kl y)) none).run Tryz.prog W = .ok (.slice A' k c') W) ∧
      (∀ {α : Type} (f : α → Value) W (l : List α), l.length = n → Vs f W (.slice A n c) l → Vs f W (.slice A' k c') (l.take k)) ∧ (Value.slice A' k c').ownBlock = (Value.slice A n c).ownBlock := by
  subst hy
  refine ⟨if c = 0 then A else A.map (·.add 0), c, fun W => ?_, ?_, ?_⟩
  · rw [run_slice_any W T A n c (by rw [hE.elem]; exact hE.under)]
    have hb : (Instr.sliceBounds true n c none (some (.int kl (k : Int))) none).run Tryz.prog W = .ok (0, k, c) W := by
      simp [Instr.sliceBounds, run_sliceBound, show (k : Int) ≤ c by omega]
    rw [hb]
    simp only [Result.andThen_ok, hE.sz]
    simp [sliced]
  · rintro α f W l hl ⟨A0, c0, he, h1, h2, h3⟩
    simp only [Value.slice.injEq] at he
    obtain ⟨rfl, hl', rfl⟩ := he
    refine ⟨if c = 0 then A else A.map (·.add 0), c, by rw [List.length_take, hl, Nat.min_eq_left hk], by rw [List.length_take]; omega, fun e => ?_, fun a ha j hj => ?_⟩
    · split at e
      · have := h2 e; omega
      · have := h2 (by simpa using e); omega
    · rw [List.length_take] at hj
      rw [if_neg (by omega)] at ha
      cases A with
      | none => cases ha
      | some b =>
        obtain rfl : b.add 0 = a := by simpa using ha
        rw [add_add, h3 b rfl (0 + j) (by omega)]
        simp
  · split
    · cases A <;> rfl
    · cases A <;> simp [Value.ownBlock, add_block]
end

/-! ### Truths, whole numbers, bytes -/
theorem iv_oneC (n : Int) : (iv n).oneCell' = true := rfl
theorem el_int : El 42 3 (.int .i64 0) 8 := ⟨Tryz.underlying42, by kernel_rfl, rfl, by decide, by kernel_rfl, fun _ => by kernel_rfl⟩
theorem Bs.vs {w : World} {v : Value} {l : List UInt8} (h : Bs w v l) : Vs bv w v l := h
theorem Vs.bs {w : World} {v : Value} {l : List UInt8} (h : Vs bv w v l) : Bs w v l := h
theorem Ow.own {w : World} {B : Nat} {v : Value} {l : List UInt8} (h : Ow bv 5 w B v l) : Own w B v l := h

end Go.Proofs.YtibopcceffncpaaGreatDoor


namespace Go.Proofs.YtibopcceffncpaaGreatDoor
set_option linter.unusedVariables false
set_option linter.unusedSimpArgs false
set_option maxRecDepth 100000
open Go.ChangeShapes Go.WideShapes Go.ChangeAt Go.RowKit

theorem frame_own : ownKnob Tryz.prog.godebug = none := by kernel_rfl
theorem frame_laidOut : laidOutB Tryz.prog = true := by kernel_rfl

/-- every argument reads as it did -/
theorem trodAll_below {H : Type} {enc : TypeId × Value → H} {W W' : World} (hb : Below W.heap.size W W') :
    ∀ (ts : List TypeId) (vs : List Value) (ds : List (DataW H)) (ps : List MemPlace), (∀ t ∈ ts, Tryz.prog.readableRec t = true ∧ t < Tryz.prog.types.size) →
      DataW.TrodAll enc Tryz.prog W 0 (fun _ => true) true ts vs ds ps → DataW.TrodAll enc Tryz.prog W' 0 (fun b => decide (b < W.heap.size)) true ts vs ds ps := by
  intro ts
  induction ts with
  | nil => intro vs ds ps _ h; cases vs <;> cases ds <;> simp_all [DataW.TrodAll]
  | cons t ts ih =>
    intro vs ds ps hr h
    cases vs with
    | nil => cases ds <;> simp_all [DataW.TrodAll]
    | cons v vs =>
      cases ds with
      | nil => simp_all [DataW.TrodAll]
      | cons d ds =>
        obtain ⟨p, q, h1, h2, rfl⟩ := h
        have hlt : ∀ x ∈ p, x.block < W.heap.size := by obtain ⟨m, hm⟩ := h1; exact DataW.trod_lt m _ _ _ hm
        have ht := hr t (List.mem_cons_self ..)
        exact ⟨p, q, Below.trod frame_laidOut ht.1 ht.2 h1 hb hlt, ih vs ds q (fun u hu => hr u (List.mem_cons_of_mem _ hu)) h2, rfl⟩

noncomputable def typesOk (ts : List TypeId) : Bool := ts.all fun t => Tryz.prog.readableRec t && decide (t < Tryz.prog.types.size)
theorem types_ok (ts : List TypeId) (h : typesOk ts = true) : ∀ t ∈ ts, Tryz.prog.readableRec t = true ∧ t < Tryz.prog.types.size := by
  intro t ht
  have := List.all_eq_true.1 h t ht
  simpa using this

/-- a slice that came in: nil, or it leads into a block that is there -/
theorem slice_in {W : World} {base : Nat} {t e : TypeId} {v : Value} (ht : Tryz.prog.underlying t = some (.slice e)) (hv : Value.okWide Tryz.prog W .any base t v) :
    v = .slice none 0 0 ∨ ∃ b o n c, v = .slice (some ⟨b, o, none⟩) n c ∧ n ≤ c ∧ b < W.heap.size := by
  obtain ⟨a, n, c, rfl⟩ := okWide_slice ht hv
  simp only [Value.okWide, ht, Cell.okWide] at hv
  cases a with
  | none =>
    left
    simp only [Cell.ok, ht] at hv
    cases n <;> cases c <;> simp_all
  | some a =>
    right
    simp only [Cell.ok, ht] at hv
    obtain ⟨h1, _, _, h2, row, cells, h3, _⟩ := hv
    obtain ⟨b, o, sp⟩ := a
    simp only at h2 h3
    subst h2
    refine ⟨b, o, n, c, rfl, h1, ?_⟩
    rcases Nat.lt_or_ge b W.heap.size with h | h
    · exact h
    · unfold World.shape? at h3
      rw [Array.getElem?_eq_none h] at h3
      cases h3

theorem wf_i64_bd {n : Int} (h : (Lit.int .i64 n).wf = true) : -9223372036854775808 ≤ n ∧ n ≤ 9223372036854775807 := by
  simpa [Lit.wf, IntKind.min, IntKind.max, IntKind.signed, IntKind.bits] using h
end Go.Proofs.YtibopcceffncpaaGreatDoor


namespace Go.Proofs.YtibopcceffncpaaGreatDoor
set_option linter.unusedVariables false
set_option linter.unusedSimpArgs false
set_option maxRecDepth 100000
open Go.ChangeShapes Go.WideShapes Go.ChangeAt Go.RowKit

theorem choose_listG {α : Type} (P : Nat → α → Prop) : ∀ (n : Nat), (∀ i, i < n → ∃ x, P i x) → ∃ l : List α, l.length = n ∧ ∀ i (h : i < l.length), P i l[i]
  | 0, _ => ⟨[], rfl, fun i h => by simp at h⟩
  | n + 1, h => by
    obtain ⟨l, hl, hp⟩ := choose_listG P n fun i hi => h i (by omega)
    obtain ⟨x, hx⟩ := h n (by omega)
    refine ⟨l ++ [x], by simp [hl], fun i hi => ?_⟩
    by_cases hin : i < l.length
    · rw [List.getElem_append_left hin]; exact hp i hin
    · have : i = n := by simp at hi; omega
      subst this
      rw [List.getElem_append_right (by omega)]
      simpa using hx

end Go.Proofs.YtibopcceffncpaaGreatDoor


namespace Go.Proofs.YtibopcceffncpaaGreatDoor
set_option linter.unusedVariables false
set_option linter.unusedSimpArgs false
set_option maxRecDepth 100000
open Go.ChangeShapes Go.WideShapes Go.ChangeAt Go.RowKit

/-- f: an element's cells, k of them -/
structure Fd {α : Type} (f : α → List Value) (k : Nat) : Prop where
  len : ∀ x, (f x).length = k
  one : ∀ x, ∀ u ∈ f x, u.oneCell' = true
  pos : 0 < k
  small : k ≤ 64

section
variable {α : Type} {f : α → List Value} {k : Nat}

theorem catN_len (h : Fd f k) (l : List α) : (l.flatMap f).length = l.length * k := by
  induction l with
  | nil => simp
  | cons c l ih => rw [List.flatMap_cons, List.length_append, ih, h.len, List.length_cons, Nat.succ_mul, Nat.add_comm]
theorem catN_at (h : Fd f k) (l : List α) (j i : Nat) (hj : j < l.length) (hi : i < k) : (l.flatMap f)[j * k + i]? = (f l[j])[i]? := by
  induction l generalizing j with
  | nil => cases hj
  | cons c l ih =>
    rw [List.flatMap_cons]
    cases j with
    | zero => rw [List.getElem?_append_left (by rw [h.len]; omega)]; simp
    | succ j =>
      rw [Nat.succ_mul, List.getElem?_append_right (by rw [h.len]; omega)]
      rw [show j * k + k + i - (f c).length = j * k + i by rw [h.len]; omega]
      exact ih j (by simpa using hj)
theorem catN_set (h : Fd f k) (l : List α) (j i : Nat) (u : Value) (x y : α) (hj : l[j]? = some y) (hi : i < k) (hx : f x = (f y).set i u) : (l.set j x).flatMap f = (l.flatMap f).set (j * k + i) u := by
  induction l generalizing j with
  | nil => simp at hj
  | cons d l ih =>
    cases j with
    | zero =>
      obtain rfl : d = y := by simpa using hj
      rw [List.set_cons_zero, List.flatMap_cons, List.flatMap_cons, hx, List.set_append_left _ _ (by rw [h.len]; omega)]
      simp
    | succ j =>
      rw [List.set_cons_succ, List.flatMap_cons, List.flatMap_cons, ih j (by simpa using hj), Nat.succ_mul]
      rw [List.set_append_right _ _ (by rw [h.len]; omega), show j * k + k + i - (f d).length = j * k + i by rw [h.len]; omega]

/-- cells, one behind the other, that hold us -/
def AtN (w : World) (a : Addr) (us : List Value) : Prop := ∀ (i : Nat) (u : Value), us[i]? = some u → w.cell? (a.add i) = some u
theorem AtN.keep {w w' : World} {a : Addr} {us : List Value} (h : AtN w a us) (hk : a.block < w.heap.size → w'.heap[a.block]? = w.heap[a.block]?) : AtN w' a us := by
  intro i u hu
  have h1 := h i u hu
  have hb := World.block_lt_of_cell? w _ h1
  rw [add_block] at hb
  rw [← h1]
  exact World.cell?_of_block (by rw [add_block]; exact hk hb)
theorem AtN.non {w w' : World} {a : Addr} {us : List Value} (h : AtN w a us) (hf : Fr Non w w') : AtN w' a us := h.keep fun hb => hf.block _ hb (fun e => e)

/-- the slice v reads as the list l, each element's cells being f of it -/
def Ns (f : α → List Value) (k : Nat) (w : World) (v : Value) (l : List α) : Prop :=
  ∃ A c, v = .slice A l.length c ∧ l.length ≤ c ∧ (A = none → c = 0) ∧ ∀ a, A = some a → ∀ j (h : j < l.length), AtN w (a.add (j * k)) (f l[j])
/-- a row of the call's own, from block B on, of elements of type E -/
def No (f : α → List Value) (k : Nat) (E : TypeId) (w : World) (B : Nat) (v : Value) (l : List α) : Prop := w.ownsRow B E k v l.length (l.flatMap f)

theorem Ns.nil_ (w : World) : Ns f k w (.slice none 0 0) [] := ⟨none, 0, rfl, Nat.le_refl _, fun _ => rfl, fun _ h => by cases h⟩
theorem Ns.keep {w w' : World} {v : Value} {l : List α} (h : Ns f k w v l) (hk : ∀ b, v.ownBlock = some b → b < w.heap.size → w'.heap[b]? = w.heap[b]?) : Ns f k w' v l := by
  obtain ⟨A, c, rfl, h1, h2, h3⟩ := h
  refine ⟨A, c, rfl, h1, h2, fun a ha j hj => ?_⟩
  subst ha
  refine (h3 a rfl j hj).keep fun hb => ?_
  rw [add_block] at hb ⊢
  exact hk _ rfl hb
theorem Ns.fr {S : Nat → Prop} {w w' : World} {v : Value} {l : List α} (h : Ns f k w v l) (hf : Fr S w w') (hn : ∀ b, v.ownBlock = some b → ¬ S b) : Ns f k w' v l :=
  h.keep fun b hb hlt => hf.block b hlt (hn b hb)
theorem Ns.non {w w' : World} {v : Value} {l : List α} (h : Ns f k w v l) (hf : Fr Non w w') : Ns f k w' v l := h.fr hf fun _ _ e => e
theorem Ns.drew {w : World} {v : Value} {l : List α} (h : Ns f k w v l) : Ns f k w.drew v l := h.keep fun _ _ _ => rfl
theorem Ns.drewN {w : World} {v : Value} {l : List α} (h : Ns f k w v l) (n : Nat) : Ns f k (w.drewN n) v l := h.keep fun _ _ _ => rfl
theorem Ns.shape {w : World} {v : Value} {l : List α} (h : Ns f k w v l) : ∃ A c, v = .slice A l.length c := by
  obtain ⟨A, c, rfl, _⟩ := h; exact ⟨A, c, rfl⟩
theorem Ns.addr {w : World} {A : Option Addr} {n c : Nat} {l : List α} (h : Ns f k w (.slice A n c) l) (hl : 0 < n) : ∃ a, A = some a ∧ n = l.length ∧ n ≤ c ∧ ∀ j (h : j < l.length), AtN w (a.add (j * k)) (f l[j]) := by
  obtain ⟨A0, c0, he, h1, h2, h3⟩ := h
  simp only [Value.slice.injEq] at he
  obtain ⟨rfl, rfl, rfl⟩ := he
  cases A with
  | none => have := h2 rfl; omega
  | some a => exact ⟨a, rfl, rfl, h1, h3 a rfl⟩
/-- the element at j -/
theorem Ns.at_ {w : World} {A : Option Addr} {n c : Nat} {l : List α} (h : Ns f k w (.slice A n c) l) (j : Nat) (x : α) (hx : l[j]? = some x) : ∃ a, A = some a ∧ AtN w (a.add (j * k)) (f x) := by
  obtain ⟨hj, rfl⟩ := List.getElem?_eq_some_iff.1 hx
  obtain ⟨A0, c0, he, h1, h2, h3⟩ := h
  simp only [Value.slice.injEq] at he
  obtain ⟨rfl, rfl, rfl⟩ := he
  cases A with
  | none => have := h2 rfl; omega
  | some a => exact ⟨a, rfl, h3 a rfl j hj⟩

variable {E : TypeId}
theorem No.lt {w : World} {B : Nat} {v : Value} {l : List α} (h : No f k E w B v l) : ∀ b, v.ownBlock = some b → B ≤ b ∧ b < w.heap.size := World.ownsRow.lt h
theorem No.ns (hF : Fd f k) {w : World} {B : Nat} {v : Value} {l : List α} (h : No f k E w B v l) : Ns f k w v l := by
  rcases h.2 with ⟨rfl, h0⟩ | ⟨g, cap, cur, rfl, _, _, hle, _, _, _⟩
  · have hl : l = [] := List.eq_nil_of_length_eq_zero h0
    subst hl; exact Ns.nil_ w
  · refine ⟨_, cap, rfl, hle, (fun h => by cases h), fun a ha j hj i u hu => ?_⟩
    cases ha
    have hi : i < k := by rw [← hF.len l[j]]; exact (List.getElem?_eq_some_iff.1 hu).1
    rw [add_add]
    exact World.ownsRow.cells h (g := g) rfl (j * k + i) _ ((catN_at hF l j i hj hi).trans hu)
theorem No.keep {w w' : World} {B : Nat} {v : Value} {l : List α} (h : No f k E w B v l) (hk : ∀ b, v.ownBlock = some b → w'.heap[b]? = w.heap[b]?) : No f k E w' B v l := by
  refine ⟨h.1, ?_⟩
  rcases h.2 with h2 | ⟨g, cap, cur, hv, hb, hg, r⟩
  · exact .inl h2
  · exact .inr ⟨g, cap, cur, hv, hb, by rw [hk g (by rw [hv]; rfl)]; exact hg, r⟩
theorem No.fr {S : Nat → Prop} {w w' : World} {B : Nat} {v : Value} {l : List α} (h : No f k E w B v l) (hf : Fr S w w') (hn : ∀ b, v.ownBlock = some b → ¬ S b) : No f k E w' B v l :=
  h.keep fun b hb => hf.block b (h.lt b hb).2 (hn b hb)
theorem No.non {w w' : World} {B : Nat} {v : Value} {l : List α} (h : No f k E w B v l) (hf : Fr Non w w') : No f k E w' B v l := h.fr hf fun _ _ e => e
theorem No.alloc {w : World} {B : Nat} {v : Value} {l : List α} (h : No f k E w B v l) (o : Obj) : No f k E (w.alloc o) B v l := h.non ((Fr.refl _ _).alloc o)
theorem No.drew {w : World} {B : Nat} {v : Value} {l : List α} (h : No f k E w B v l) : No f k E w.drew B v l := h
theorem No.mono {w : World} {B B' : Nat} {v : Value} {l : List α} (h : No f k E w B v l) (hB : B' ≤ B) : No f k E w B' v l := by
  refine ⟨h.1, ?_⟩
  rcases h.2 with h2 | ⟨g, cap, cur, hv, hb, r⟩
  · exact .inl h2
  · exact .inr ⟨g, cap, cur, hv, by omega, r⟩
theorem No.kind {w : World} {B : Nat} {v : Value} {l : List α} (h : No f k E w B v l) : ∀ b, v.ownBlock = some b → ∃ cur, w.heap[b]? = some (.cells cur E (0, 0)) := by
  intro b hk
  rcases h.2 with ⟨rfl, _⟩ | ⟨g, cap, cur, rfl, _, hg, _⟩
  · cases hk
  · obtain rfl : g = b := by simpa [Value.ownBlock] using hk
    exact ⟨cur, hg⟩
theorem No.row {w : World} {B : Nat} {v : Value} {l : List α} (h : No f k E w B v l) (hn : 0 < l.length) : ∃ g cap, v = .slice (some ⟨g, 0, none⟩) l.length cap ∧ B ≤ g ∧ g < w.heap.size ∧ l.length ≤ cap ∧ cap ≤ maxLen := by
  rcases h.2 with ⟨rfl, h0⟩ | ⟨g, cap, cur, rfl, hb, hg, hle, hm, _⟩
  · omega
  · exact ⟨g, cap, rfl, hb, (Array.getElem?_eq_some_iff.1 hg).1, hle, hm⟩
/-- what a walk asks of a row's element at j -/
theorem No.el (hF : Fd f k) {w : World} {B g n cap : Nat} {l : List α} (h : No f k E w B (.slice (some ⟨g, 0, none⟩) n cap) l) (hn : n = l.length) (j i : Nat) (x : α) (u : Value) (hx : l[j]? = some x) (hu : (f x)[i]? = some u) : w.cell? ⟨g, j * k + i, none⟩ = some u := by
  subst hn
  obtain ⟨hj, rfl⟩ := List.getElem?_eq_some_iff.1 hx
  have hi : i < k := by rw [← hF.len l[j]]; exact (List.getElem?_eq_some_iff.1 hu).1
  have hjk : (j + 1) * k ≤ l.length * k := Nat.mul_le_mul_right k hj
  rw [Nat.succ_mul] at hjk
  rw [World.ownsRow.cellAt h (j * k + i) (by omega), catN_at hF l j i hj hi]
  exact hu
theorem No.frozen {w : World} {B g n cap : Nat} {l : List α} (h : No f k E w B (.slice (some ⟨g, 0, none⟩) n cap) l) (hn : n = l.length) (j : Nat) : w.frozen? ⟨g, j, none⟩ = false := by
  subst hn; exact World.ownsRow.frozenAt h j
/-- one value stored -/
theorem No.put (hF : Fd f k) {w : World} {B g n cap : Nat} {l : List α} (h : No f k E w B (.slice (some ⟨g, 0, none⟩) n cap) l) (hn : n = l.length) (j i : Nat) (x y : α) (u : Value) (hy : l[j]? = some y) (hi : i < k) (hx : f x = (f y).set i u) :
    No f k E (w.setCell ⟨g, j * k + i, none⟩ u) B (.slice (some ⟨g, 0, none⟩) n cap) (l.set j x) := by
  subst hn
  unfold No
  rw [List.length_set, catN_set hF l j i u x y hy hi hx]
  exact (World.ownsRow.stored h (j * k + i) u).1
theorem no_lit (hF : Fd f k) (w : World) (B g : Nat) (l : List α) (cs : Array Value) (hcs : cs.toList = l.flatMap f) (hg : g = w.heap.size) (hB : B ≤ g) (hm : l.length ≤ 1000000) : No f k E (w.alloc (.cells cs E)) B (.slice (some ⟨g, 0, none⟩) l.length l.length) l := by
  subst hg
  have h := World.ownsRow_lit (e := E) (size := k) w cs l.length hB (by unfold maxLen; omega) (by rw [← Array.length_toList, hcs, catN_len hF])
  rw [hcs] at h
  exact h
variable {T : TypeId} {z : Value} {by_ : Nat}
/-- an argument opened -/
theorem ns_in (hF : Fd f k) {T E : TypeId} (hT : Tryz.prog.underlying T = some (.slice E)) (hc : Tryz.prog.cellsOf E = k) {H : Type} {enc : TypeId × Value → H} {W : World} {base : Nat} {v : Value} {d : DataW H} {p : List MemPlace}
    (pr : α → Prop) (each : ∀ n cs y, cs.length = k → DataW.trod enc Tryz.prog W 0 (fun _ => true) true n E cs = some y → ∃ x, cs = f x ∧ pr x)
    (hv : Value.okWide Tryz.prog W .any base T v) (h : DataW.Trod enc Tryz.prog W 0 (fun _ => true) true T v d p) : ∃ l, Ns f k W v l ∧ l.length ≤ 9223372036854775807 ∧ (∀ x ∈ l, pr x) ∧ ∀ b, v.ownBlock = some b → b < W.heap.size := by
  have hlt : ∀ b, v.ownBlock = some b → b < W.heap.size := by
    rcases slice_in hT hv with rfl | ⟨b, o, n, c, rfl, _, hb⟩
    · intro k hk; cases hk
    · intro k hk
      obtain rfl : b = k := by simpa [Value.ownBlock] using hk
      exact hb
  obtain ⟨A, n, c, rfl⟩ := okWide_slice hT hv
  obtain ⟨fuel, hf⟩ := h
  rcases Go.Deep.open_slice hT hf with ⟨hcs, _⟩ | ⟨a, len, cap, m, q, D, Pl, hcs, _, hl, hm, hmm, _, hr⟩
  · simp [Value.cells] at hcs
    obtain ⟨rfl, rfl, rfl⟩ := hcs
    exact ⟨[], Ns.nil_ W, by simp, by simp, hlt⟩
  · simp [Value.cells] at hcs
    obtain ⟨rfl, rfl, rfl⟩ := hcs
    have hnm : n ≤ m := by rw [hmm]; simp; exact hl
    obtain ⟨l, hll, hls⟩ := choose_listG (fun i (x : α) => AtN W (a.add (i * k)) (f x) ∧ pr x) n (by
      intro i hi
      obtain ⟨cs', h1, h2⟩ := hr i (by omega)
      rw [hc] at h1
      obtain ⟨_, hlen, hcell⟩ := World.cells?_some h1
      obtain ⟨x, rfl, hp⟩ := each _ _ _ hlen h2
      refine ⟨x, fun j u hu => ?_, hp⟩
      rw [hcell j (by rw [← hF.len x]; exact (List.getElem?_eq_some_iff.1 hu).1)]
      exact hu)
    subst hll
    refine ⟨l, ⟨some a, c, rfl, hl, (fun h => by cases h), fun b hb j hj => ?_⟩, by unfold maxLen at hm; omega, fun x hx => ?_, hlt⟩
    · cases hb
      exact (hls j hj).1
    · obtain ⟨j, hj, rfl⟩ := List.mem_iff_getElem.1 hx
      exact (hls j hj).2
end
end Go.Proofs.YtibopcceffncpaaGreatDoor


namespace Go.Proofs.YtibopcceffncpaaGreatDoor
set_option linter.unusedVariables false
set_option linter.unusedSimpArgs false
set_option maxRecDepth 100000

abbrev Tx := List UInt8

end Go.Proofs.YtibopcceffncpaaGreatDoor


namespace Go.Proofs.YtibopcceffncpaaGreatDoor
set_option linter.unusedVariables false
set_option linter.unusedSimpArgs false
set_option maxRecDepth 100000
open Go.RowKit

/-- a column: its name, its type, whether its cells may be null -/
structure Co where
  name : List UInt8
  ty : Int
  nl : Bool
  deriving DecidableEq
def coL (c : Co) : List Value := [.string ⟨c.name.toArray⟩, .int .i64 c.ty, .bool c.nl]
def coC (c : Co) : Array Value := #[.string ⟨c.name.toArray⟩, .int .i64 c.ty, .bool c.nl]
def coV (c : Co) : Value := .agg (coC c)
theorem fd_co : Fd coL 3 := ⟨fun _ => rfl, fun x u hu => by simp [coL] at hu; rcases hu with rfl | rfl | rfl <;> rfl, by omega, by omega⟩
abbrev Ks (w : World) (v : Value) (l : List Co) : Prop := Ns coL 3 w v l
/-- as a walk spells them -/
theorem co_lit {w : World} {a : Addr} {c : Co} (h : AtN w a (coL c)) : w.cell? a = some (.string ⟨c.name.toArray⟩) ∧ w.cell? { block := a.block, off := a.off + 1 } = some (.int .i64 c.ty) ∧ w.cell? { block := a.block, off := a.off + 2 } = some (.bool c.nl) :=
  ⟨h 0 _ rfl, h 1 _ rfl, h 2 _ rfl⟩
/-- the column c lies in block g -/
abbrev CoB (w : World) (g : Nat) (c : Co) : Prop := Blk w g 46 #[.string ⟨c.name.toArray⟩, .int .i64 c.ty, .bool c.nl]
theorem co_new (w : World) (c : Co) : CoB (w.alloc (.cells #[.string ⟨c.name.toArray⟩, .int .i64 c.ty, .bool c.nl] 46)) w.heap.size c := Blk.new _ _ _
end Go.Proofs.YtibopcceffncpaaGreatDoor


namespace Go.Proofs.YtibopcceffncpaaGreatDoor
set_option linter.unusedVariables false
set_option linter.unusedSimpArgs false
set_option maxRecDepth 100000
open Go.RowKit

/-- a letter, a digit -/
def ltrI (r : Int) : Bool := decide (97 ≤ r) && decide (r ≤ 122)
def dgtI (r : Int) : Bool := decide (48 ≤ r) && decide (r ≤ 57)
/-- may r stand at j? -/
def okI (j : Nat) (r : Int) : Bool := ltrI r || (decide (j ≠ 0) && (dgtI r || decide (r = 95)))
/-- the words of queries -/
def wordsL : List (List UInt8) := [[97, 110, 100], [111, 114], [110, 111, 116], [105, 115], [110, 117, 108, 108], [108, 105, 107, 101], [116, 114, 117, 101], [102, 97, 108, 115, 101], [115, 101, 108, 101, 99, 116], [102, 114, 111, 109], [119, 104, 101, 114, 101], [103, 114, 111, 117, 112], [98, 121], [97, 108, 108], [99, 111, 117, 110, 116], [104, 97, 115], [115, 117, 109], [109, 105, 110], [109, 97, 120]]
def nmOk (l : List UInt8) : Prop := ∀ j (h : j < l.length), okI j (l[j]).toNat = true
instance (l : List UInt8) : Decidable (nmOk l) := inferInstanceAs (Decidable (∀ j (h : j < l.length), okI j (l[j]).toNat = true))
/-- may l be a name? -/
def nameB (l : List UInt8) : Bool := decide (1 ≤ l.length ∧ l.length ≤ 12 ∧ l ∉ wordsL ∧ nmOk l)

theorem name_yes {l : List UInt8} (h1 : 1 ≤ l.length) (h2 : l.length ≤ 12) (h3 : l ∉ wordsL) (h4 : nmOk l) : nameB l = true := decide_eq_true ⟨h1, h2, h3, h4⟩
theorem name_nil {l : List UInt8} (h : l.length = 0) : nameB l = false := decide_eq_false fun h' => by omega
theorem name_long {l : List UInt8} (h : 12 < l.length) : nameB l = false := decide_eq_false fun h' => by omega
theorem name_word {l : List UInt8} (h : l ∈ wordsL) : nameB l = false := decide_eq_false fun h' => h'.2.2.1 h
theorem name_bad {l : List UInt8} {j : Nat} (h : j < l.length) (hb : okI j (l[j]).toNat = false) : nameB l = false := decide_eq_false fun h' => by
  have := h'.2.2.2 j h; rw [hb] at this; cases this
theorem okI_high {j : Nat} {r : Int} (h : 128 ≤ r) : okI j r = false := by
  unfold okI ltrI dgtI
  rw [decide_eq_false (show ¬ r ≤ 122 by omega), decide_eq_false (show ¬ r ≤ 57 by omega), decide_eq_false (show ¬ r = 95 by omega)]
  simp
end Go.Proofs.YtibopcceffncpaaGreatDoor


namespace Go.Proofs.YtibopcceffncpaaGreatDoor
set_option linter.unusedVariables false
set_option linter.unusedSimpArgs false
set_option maxRecDepth 100000

/-- the number that bytes begin with, from its i-th byte on, acc being what the bytes ahead of it make -/
def rd (i acc : Nat) : List UInt8 → Option (Nat × List UInt8)
  | [] => none
  | c :: r => if (i = 9 ∧ 1 < c.toNat) ∨ (0 < i ∧ c.toNat = 0) then none else if c.toNat < 128 then some (acc + c.toNat * 128 ^ i, r) else rd (i + 1) (acc + (c.toNat - 128) * 128 ^ i) r

end Go.Proofs.YtibopcceffncpaaGreatDoor


namespace Go.Proofs.YtibopcceffncpaaGreatDoor
set_option linter.unusedVariables false
set_option linter.unusedSimpArgs false
set_option maxRecDepth 100000
open Go.RowKit

/-- a row of slices, from the head of block g on, that read as the lists ls -/
def Parts (w : World) (g : Nat) (xs : List Value) (ls : List (List UInt8)) : Prop :=
  xs.length = ls.length ∧ ∀ j x l, xs[j]? = some x → ls[j]? = some l → w.cell? ⟨g, j, none⟩ = some x ∧ Bs w x l
theorem Parts.non {w w' : World} {g : Nat} {xs : List Value} {ls : List (List UInt8)} (h : Parts w g xs ls) (hf : Fr Non w w') : Parts w' g xs ls :=
  ⟨h.1, fun j x l hx hl => by
    obtain ⟨h1, h2⟩ := h.2 j x l hx hl
    exact ⟨(hf.cell (p := ⟨g, j, none⟩) (World.block_lt_of_cell? w _ h1) (fun e => e)).trans h1, h2.non hf⟩⟩
theorem Parts.two {w : World} {t : TypeId} {x y : Value} {l m : List UInt8} (hx : Bs w x l) (hy : Bs w y m) : Parts (w.alloc (.cells #[x, y] t)) w.heap.size [x, y] [l, m] := by
  refine ⟨rfl, fun j u k hu hk => ?_⟩
  have hb := Blk.new w t #[x, y]
  have hf : Fr Non w (w.alloc (.cells #[x, y] t)) := (Fr.refl _ _).alloc _
  match j with
  | 0 =>
    obtain rfl : x = u := by simpa using hu
    obtain rfl : l = k := by simpa using hk
    exact ⟨hb.cell 0, hx.non hf⟩
  | 1 =>
    obtain rfl : y = u := by simpa using hu
    obtain rfl : m = k := by simpa using hk
    exact ⟨hb.cell 1, hy.non hf⟩
  | j + 2 => simp at hu

theorem Own.shape {w : World} {B : Nat} {v : Value} {l : List UInt8} (h : Own w B v l) : ∃ A c, v = .slice A l.length c := h.bs.shape

end Go.Proofs.YtibopcceffncpaaGreatDoor


namespace Go.Proofs.YtibopcceffncpaaGreatDoor
set_option linter.unusedVariables false
set_option linter.unusedSimpArgs false
set_option maxRecDepth 100000
open Go.RowKit

theorem byte_at (l : List UInt8) (k : Nat) (c : UInt8) (hk : k < l.length) (hc : l[k] = c) : ∀ h : k < ByteArray.size ⟨l.toArray⟩, (⟨l.toArray⟩ : ByteArray)[k] = c := by
  intro h; exact hc

end Go.Proofs.YtibopcceffncpaaGreatDoor


namespace Go.Proofs.YtibopcceffncpaaGreatDoor
set_option linter.unusedVariables false
set_option linter.unusedSimpArgs false
set_option maxRecDepth 100000
open Go.RowKit

/-- what a number leaves -/
def rest (l : List UInt8) : List UInt8 := match rd 0 0 l with | none => [] | some (_, r) => r
end Go.Proofs.YtibopcceffncpaaGreatDoor


namespace Go.Proofs.YtibopcceffncpaaGreatDoor
set_option linter.unusedVariables false
set_option linter.unusedSimpArgs false
set_option maxRecDepth 100000
open Go.RowKit

/-- a cell: null or not, its number, its text -/
structure Cl where
  null : Bool
  num : Int
  txt : List UInt8
  deriving DecidableEq
/-- its cells, and its value -/
def clC (c : Cl) : Array Value := #[.bool c.null, .int .i64 c.num, .string ⟨c.txt.toArray⟩]
def clV (c : Cl) : Value := .agg (clC c)
/-- are two the same? -/
def ceq (a b : Cl) : Bool := decide (a = b)
theorem ceq_is {a b : Cl} (h : ceq a b = true) : a = b := by simpa [ceq] using h
theorem eq_parts (a b : Cl) : ceq a b = (a.null == b.null && (a.num == b.num && a.txt == b.txt)) := by
  obtain ⟨an, ai, at_⟩ := a
  obtain ⟨bn, bi, bt⟩ := b
  unfold ceq
  rw [Bool.eq_iff_iff]
  simp

theorem run_eql_cl (W : World) (a b : Cl) : (binOp .eql 25 (.agg #[.bool a.null, .int .i64 a.num, .string ⟨a.txt.toArray⟩]) (.agg #[.bool b.null, .int .i64 b.num, .string ⟨b.txt.toArray⟩])).run Tryz.prog W = .ok (.bool (ceq a b)) W := by
  rw [eq_parts]
  obtain ⟨an, ai, at_⟩ := a
  obtain ⟨bn, bi, bt⟩ := b
  go_simp
  by_cases h1 : an = bn <;> by_cases h2 : ai = bi <;> by_cases h3 : at_ = bt <;> simp [h1, h2, h3]
theorem csame_any (a b : Cl) (w : World) : Calls Tryz.prog 93 #[clV a, clV b] w fun e w' => e = .returned (.bool (ceq a b)) ∧ Fr Non w w' := by
  have h := fun W => run_eql_cl W a b
  unfold clV clC
  go_enter Tryz.func93, Tryz.ntmps93
  go_wp2
  go_ret
  exact ⟨rfl, ((Fr.refl _ _).alloc _).alloc _⟩

/-- is there such a type? -/
def isTy (ty : Int) : Bool := ty == 1 || ty == 2 || ty == 3
/-- which cells there may be -/
def mayC (ty : Int) (nl : Bool) (c : Cl) : Bool :=
  isTy ty && (if c.null then nl && (c.num == 0 && c.txt.isEmpty) else if ty = 3 then c.num == 0 && decide (c.txt.length ≤ 40) else c.txt.isEmpty && (ty == 1 || (c.num == 0 || c.num == 1)))

theorem istype_any (ty : Int) (w : World) : Calls Tryz.prog 115 #[.int .i64 ty] w fun e w' => e = .returned (.bool (isTy ty)) ∧ w = w' := by
  go_enter Tryz.func115, Tryz.ntmps115
  go_wp2
  all_goals
    go_ret
    exact ⟨ret_boolE (by simp_all [isTy]), rfl⟩

theorem slen (l : List UInt8) : ByteArray.size ⟨l.toArray⟩ = l.length := by simp [ByteArray.size]
theorem mayC_no {ty : Int} (h1 : ¬ ty = 1) (h2 : ¬ ty = 2) (h3 : ¬ ty = 3) (nl : Bool) (c : Cl) : mayC ty nl c = false := by
  simp [mayC, isTy, h1, h2, h3]
theorem mayC_null (ty : Int) (nl : Bool) (i : Int) (t : Tx) : mayC ty nl ⟨true, i, t⟩ = (nl && (isTy ty && ceq ⟨true, i, t⟩ ⟨true, 0, []⟩)) := by
  rw [eq_parts]
  unfold mayC
  cases isTy ty <;> cases nl <;> cases t <;> simp

set_option maxHeartbeats 1000000 in
theorem may_any (ty : Int) (nl : Bool) (c : Cl) (w : World) : Calls Tryz.prog 95 #[.int .i64 ty, .bool nl, clV c] w fun e w' => e = .returned (.bool (mayC ty nl c)) ∧ Fr Non w w' := by
  obtain ⟨n, i, t⟩ := c
  unfold clV clC
  cases n
  · have hs := slen t
    by_cases h1 : ty = 1
    · subst h1
      go_enter Tryz.func95, Tryz.ntmps95
      go_wp2
      all_goals
        go_ret
        exact ⟨ret_boolE (by first | rfl | (simp [mayC, isTy]; done) | (simp_all [mayC, isTy]; done) | (simp_all [mayC, isTy] <;> omega)), (Fr.refl _ _).alloc _⟩
    · by_cases h2 : ty = 2
      · subst h2
        go_enter Tryz.func95, Tryz.ntmps95
        go_wp2
        all_goals
          go_ret
          exact ⟨ret_boolE (by first | rfl | (simp [mayC, isTy]; done) | (simp_all [mayC, isTy]; done) | (simp_all [mayC, isTy] <;> omega)), (Fr.refl _ _).alloc _⟩
      · by_cases h3 : ty = 3
        · subst h3
          go_enter Tryz.func95, Tryz.ntmps95
          go_wp2
          all_goals
            go_ret
            exact ⟨ret_boolE (by first | rfl | (simp [mayC, isTy]; done) | (simp_all [mayC, isTy]; done) | (simp_all [mayC, isTy] <;> omega)), (Fr.refl _ _).alloc _⟩
        · have H := Lib.hid (mayC_no h1 h2 h3 nl ⟨false, i, t⟩)
          go_enter Tryz.func95, Tryz.ntmps95
          go_wp2
          go_ret
          exact ⟨ret_boolE H.out.symm, (Fr.refl _ _).alloc _⟩
  · have H := Lib.hid (mayC_null ty nl i t)
    cases nl
    · go_enter Tryz.func95, Tryz.ntmps95
      go_wp2
      go_ret
      exact ⟨ret_boolE (by rw [H.out]; rfl), (Fr.refl _ _).alloc _⟩
    · cases hT : isTy ty with
      | false =>
        have h0 := fun W => istype_any ty W
        simp only [hT] at h0
        have HT := Lib.hid hT
        clear hT
        go_enter Tryz.func95, Tryz.ntmps95
        go_wp2_with fail
        refine (h0 _).mono ?_
        rintro e w1 ⟨rfl, rfl⟩
        go_wp2
        go_ret
        exact ⟨ret_boolE (by rw [H.out, HT.out]; rfl), (Fr.refl _ _).alloc _⟩
      | true =>
        have h0 := fun W => istype_any ty W
        simp only [hT] at h0
        have HT := Lib.hid hT
        clear hT
        go_enter Tryz.func95, Tryz.ntmps95
        go_wp2_with fail
        refine (h0 _).mono ?_
        rintro e w1 ⟨rfl, rfl⟩
        go_wp2_with fail
        refine (csame_any ⟨true, i, t⟩ ⟨true, 0, []⟩ _).mono ?_
        rintro e w1 ⟨rfl, hf1⟩
        go_wp2
        go_ret
        exact ⟨ret_boolE (by rw [H.out, HT.out]; rfl), ((Fr.refl _ _).alloc _).trans hf1⟩

set_option maxHeartbeats 1000000 in
theorem rmay_any (ty : Int) (nl : Bool) (c : Cl) (w : World) : Calls Tryz.prog 79 #[.int .i64 ty, .bool nl, clV c] w fun e w' => e = .returned (.bool (mayC ty nl c)) ∧ Fr Non w w' := by
  obtain ⟨n, i, t⟩ := c
  unfold clV clC
  by_cases h0 : ty < 1
  · have H := Lib.hid (mayC_no (ty := ty) (by omega) (by omega) (by omega) nl ⟨n, i, t⟩)
    go_enter Tryz.func79, Tryz.ntmps79
    go_wp2
    go_ret
    exact ⟨ret_boolE H.out.symm, (Fr.refl _ _).alloc _⟩
  · by_cases h4 : 3 < ty
    · have H := Lib.hid (mayC_no (ty := ty) (by omega) (by omega) (by omega) nl ⟨n, i, t⟩)
      go_enter Tryz.func79, Tryz.ntmps79
      go_wp2
      go_ret
      exact ⟨ret_boolE H.out.symm, (Fr.refl _ _).alloc _⟩
    · have hs := slen t
      have h3 : ty = 1 ∨ ty = 2 ∨ ty = 3 := by omega
      clear h0 h4
      cases n
      · rcases h3 with h | h | h
        · subst h
          go_enter Tryz.func79, Tryz.ntmps79
          go_wp2
          all_goals
            go_ret
            exact ⟨ret_boolE (by first | rfl | (simp [mayC, isTy]; done) | (simp_all [mayC, isTy]; done) | (simp_all [mayC, isTy] <;> omega)), (Fr.refl _ _).alloc _⟩
        · subst h
          go_enter Tryz.func79, Tryz.ntmps79
          go_wp2
          all_goals
            go_ret
            exact ⟨ret_boolE (by first | rfl | (simp [mayC, isTy]; done) | (simp_all [mayC, isTy]; done) | (simp_all [mayC, isTy] <;> omega)), (Fr.refl _ _).alloc _⟩
        · subst h
          go_enter Tryz.func79, Tryz.ntmps79
          go_wp2
          all_goals
            go_ret
            exact ⟨ret_boolE (by first | rfl | (simp [mayC, isTy]; done) | (simp_all [mayC, isTy]; done) | (simp_all [mayC, isTy] <;> omega)), (Fr.refl _ _).alloc _⟩
      · have hT : isTy ty = true := by rcases h3 with rfl | rfl | rfl <;> rfl
        have hl : ¬ ty < 1 := by omega
        have hg : ¬ 3 < ty := by omega
        clear h3
        cases nl
        · go_enter Tryz.func79, Tryz.ntmps79
          go_wp2
          all_goals
            go_ret
            exact ⟨ret_boolE (by first | (simp [mayC, hT]; done) | (simp_all [mayC]; done)), (Fr.refl _ _).alloc _⟩
        · go_enter Tryz.func79, Tryz.ntmps79
          go_wp2
          all_goals
            go_ret
            exact ⟨ret_boolE (by first | (simp [mayC, hT]; done) | (simp_all [mayC]; done)), (Fr.refl _ _).alloc _⟩
end Go.Proofs.YtibopcceffncpaaGreatDoor


namespace Go.Proofs.YtibopcceffncpaaGreatDoor
set_option linter.unusedVariables false
set_option linter.unusedSimpArgs false
set_option maxRecDepth 100000
open Go.RowKit

/-- no table may have c -/
def badC (c : Co) : Bool := !(nameB c.name && isTy c.ty)
def namesC (l : List Co) : List Tx := l.map Co.name
/-- what is wrong with l: 0, nothing; 1, 4 -/
def chkC (l : List Co) : Int := if l.length = 0 ∨ l.any badC = true ∨ ¬ (namesC l).Nodup then 1 else if 6 < l.length then 4 else 0
theorem chk_bad {l : List Co} {k : Nat} (h : k < l.length) (hb : badC l[k] = true) : chkC l = 1 := if_pos (.inr (.inl (List.any_eq_true.2 ⟨_, List.getElem_mem h, hb⟩)))
theorem chk_any {l : List Co} (hb : l.any badC = true) : chkC l = 1 := if_pos (.inr (.inl hb))
theorem chk_dup {l : List Co} (h : ¬ (namesC l).Nodup) : chkC l = 1 := if_pos (.inr (.inr h))
theorem chk_none {l : List Co} (h : l.length = 0) : chkC l = 1 := if_pos (.inl h)
theorem chk_many {l : List Co} (h0 : ¬ l.length = 0) (h1 : l.any badC = false) (h2 : (namesC l).Nodup) (h3 : 6 < l.length) : chkC l = 4 := by
  unfold chkC; rw [if_neg (by rintro (h | h | h); exact h0 h; rw [h1] at h; cases h; exact h h2), if_pos h3]
theorem chk_ok {l : List Co} (h0 : ¬ l.length = 0) (h1 : l.any badC = false) (h2 : (namesC l).Nodup) (h3 : ¬ 6 < l.length) : chkC l = 0 := by
  unfold chkC; rw [if_neg (by rintro (h | h | h); exact h0 h; rw [h1] at h; cases h; exact h h2), if_neg h3]
theorem chk_is {l : List Co} (h : chkC l = 0) : ¬ l.length = 0 ∧ l.any badC = false ∧ (namesC l).Nodup ∧ l.length ≤ 6 := by
  unfold chkC at h
  split at h
  · cases h
  · rename_i h1
    split at h
    · cases h
    · refine ⟨fun e => h1 (.inl e), ?_, ?_, by omega⟩
      · cases hb : l.any badC
        · rfl
        · exact absurd (.inr (.inl hb)) h1
      · exact Classical.byContradiction fun e => h1 (.inr (.inr e))
/-- the names up to k are unlike, and so is k's -/
theorem nodup_more {l : List Co} {k : Nat} (h : k < l.length) (h1 : (namesC (l.take k)).Nodup) (h2 : ∀ j (hj : j < l.length), j < k → l[j].name ≠ l[k].name) : (namesC (l.take (k + 1))).Nodup := by
  unfold namesC
  rw [List.take_succ_eq_append_getElem h, List.map_append, List.nodup_append]
  refine ⟨h1, by simp, ?_⟩
  intro a ha b hb
  obtain ⟨c, hc, rfl⟩ := List.mem_map.1 ha
  obtain rfl : l[k].name = b := by rw [List.map_cons, List.map_nil, List.mem_singleton] at hb; exact hb.symm
  obtain ⟨j, hj, rfl⟩ := List.mem_iff_getElem.1 hc
  rw [List.length_take] at hj
  rw [List.getElem_take]
  exact h2 j (by omega) (by omega)
theorem nodup_not {l : List Co} {j k : Nat} (hk : k < l.length) (hj : j < k) (h : l[j].name = l[k].name) : ¬ (namesC l).Nodup := by
  intro hn
  have h1 : (namesC l)[j]'(by unfold namesC; rw [List.length_map]; omega) = (namesC l)[k]'(by unfold namesC; rw [List.length_map]; omega) := by
    unfold namesC; rw [List.getElem_map, List.getElem_map]; exact h
  have := (List.getElem_inj hn).1 h1
  omega
theorem any_more {l : List Co} {k : Nat} (h : k < l.length) (h1 : (l.take k).any badC = false) (h2 : badC l[k] = false) : (l.take (k + 1)).any badC = false := by
  rw [List.take_succ_eq_append_getElem h, List.any_append, h1]; simp [h2]

theorem ne_more {l : List Co} {n : Tx} {k : Nat} (h : k < l.length) (ha : ∀ j (hj : j < l.length), j < k → l[j].name ≠ n) (hb : l[k].name ≠ n) : ∀ j (hj : j < l.length), j < k + 1 → l[j].name ≠ n := by
  intro j hj hlt
  by_cases e : j = k
  · subst e; exact hb
  · exact ha j hj (by omega)

/-- where the first one of that name is -/
def findC (l : List Co) (n : Tx) : Option Nat := l.findIdx? fun c => c.name == n
theorem find_at {l : List Co} {n : Tx} {k : Nat} (h : k < l.length) (he : l[k].name = n) (hn : ∀ j (hj : j < l.length), j < k → l[j].name ≠ n) : findC l n = some k := by
  unfold findC
  rw [List.findIdx?_eq_some_iff_getElem]
  exact ⟨h, by simpa using he, fun j hj => by simpa using hn j (by omega) hj⟩
theorem find_no {l : List Co} {n : Tx} (hn : ∀ j (hj : j < l.length), l[j].name ≠ n) : findC l n = none := by
  unfold findC
  rw [List.findIdx?_eq_none_iff]
  intro c hc
  obtain ⟨j, hj, rfl⟩ := List.mem_iff_getElem.1 hc
  simpa using hn j hj
theorem find_lt {l : List Co} {n : Tx} {k : Nat} (h : findC l n = some k) : k < l.length := by
  unfold findC at h
  exact (List.findIdx?_eq_some_iff_getElem.1 h).1

end Go.Proofs.YtibopcceffncpaaGreatDoor


namespace Go.Proofs.YtibopcceffncpaaGreatDoor
set_option linter.unusedVariables false
set_option linter.unusedSimpArgs false
set_option maxRecDepth 100000

def digB (c : UInt8) : Bool := decide (48 ≤ c.toNat ∧ c.toNat ≤ 57)
/-- the number that digits are of -/
def numF (a : Nat) : List UInt8 → Nat
  | [] => a
  | c :: r => numF (10 * a + (c.toNat - 48)) r
def numD (l : List UInt8) : Nat := numF 0 l
theorem numF_app (l m : List UInt8) : ∀ a, numF a (l ++ m) = numF (numF a l) m := by
  induction l with
  | nil => intro a; rfl
  | cons c l ih => intro a; exact ih _
theorem dec_digits (u : Nat) : (Lib.decDigits u).all digB = true := by
  induction u using Nat.strongRecOn with
  | _ u ih =>
    by_cases h : u < 10
    · rw [Lib.decDigits, dif_pos h]
      have : (UInt8.ofNat (48 + u)).toNat = 48 + u := by rw [UInt8.toNat_ofNat']; omega
      simp [digB, this]; omega
    · rw [Lib.decDigits, dif_neg h, List.all_append, ih _ (by omega)]
      have : (UInt8.ofNat (48 + u % 10)).toNat = 48 + u % 10 := by rw [UInt8.toNat_ofNat']; omega
      simp [digB, this]; omega
theorem dec_num (u : Nat) : numD (Lib.decDigits u) = u := by
  induction u using Nat.strongRecOn with
  | _ u ih =>
    by_cases h : u < 10
    · rw [Lib.decDigits, dif_pos h]
      have : (UInt8.ofNat (48 + u)).toNat = 48 + u := by rw [UInt8.toNat_ofNat']; omega
      show 10 * 0 + ((UInt8.ofNat (48 + u)).toNat - 48) = u
      rw [this]; omega
    · rw [Lib.decDigits, dif_neg h]
      unfold numD
      rw [numF_app]
      have e := ih (u / 10) (by omega)
      unfold numD at e
      rw [e]
      have : (UInt8.ofNat (48 + u % 10)).toNat = 48 + u % 10 := by rw [UInt8.toNat_ofNat']; omega
      show 10 * (u / 10) + ((UInt8.ofNat (48 + u % 10)).toNat - 48) = u
      rw [this]; omega
theorem dec_pos (u : Nat) : 1 ≤ (Lib.decDigits u).length := by rw [Lib.decDigits_length]; exact Lib.nDigits_pos u
theorem dec_le {u k : Nat} (h : u < 10 ^ (k + 1)) : (Lib.decDigits u).length ≤ k + 1 := by
  rw [Lib.decDigits_length]
  have h1 := Lib.lt_pow_nDigits u
  by_cases hc : Lib.nDigits u ≤ k + 1
  · exact hc
  · exfalso
    have : ∀ (j v : Nat), v < 10 ^ (j + 1) → Lib.nDigits v ≤ j + 1 := by
      intro j
      induction j with
      | zero => intro v hv; rw [Lib.nDigits_small (by simpa using hv)]; omega
      | succ j ih =>
        intro v hv
        by_cases hs : v < 10
        · rw [Lib.nDigits_small hs]; omega
        · rw [Lib.nDigits_big hs]
          have := ih (v / 10) (by rw [Nat.pow_succ] at hv; omega)
          omega
    exact hc (this k u h)

/-- int64 -/
def I64b (x : Int) : Prop := -9223372036854775808 ≤ x ∧ x ≤ 9223372036854775807
theorem itoa_up (u : Nat) : Lib.itoa (u : Int) = Lib.decDigits u := Lib.itoa_nonneg u
theorem itoa_down (u : Nat) (h : 1 ≤ u) : Lib.itoa (-(u : Int)) = 45 :: Lib.decDigits u := Lib.itoa_neg u h
theorem int_ways (v : Int) : (∃ u : Nat, v = (u : Int)) ∨ ∃ u : Nat, 1 ≤ u ∧ v = -(u : Int) := by
  by_cases h : 0 ≤ v
  · exact .inl ⟨v.toNat, by omega⟩
  · exact .inr ⟨(-v).toNat, by omega, by omega⟩
/-- what digits are a number's are digits, one to nineteen of them -/
theorem itoa_shape {l : List UInt8} {v : Int} (hv : I64b v) (h : Lib.itoa v = l) :
    (v = ((numD l : Nat) : Int) ∧ l.all digB = true ∧ 1 ≤ l.length ∧ l.length ≤ 19) ∨ ∃ d, l = 45 :: d ∧ v = -((numD d : Nat) : Int) ∧ d.all digB = true ∧ 1 ≤ d.length ∧ d.length ≤ 19 := by
  unfold I64b at hv
  rcases int_ways v with ⟨u, rfl⟩ | ⟨u, hu, rfl⟩
  · left
    rw [itoa_up] at h
    subst h
    refine ⟨by rw [dec_num], dec_digits u, dec_pos u, dec_le (k := 18) (by omega)⟩
  · right
    rw [itoa_down u hu] at h
    exact ⟨_, h.symm, by rw [dec_num], dec_digits u, dec_pos u, dec_le (k := 18) (by omega)⟩

/-! ### Replacing -/
theorem rep_hit {s old new : List UInt8} (hne : old ≠ []) (h : old.isPrefixOf s = true) :
    Lib.replaceK old new (Lib.count s old) s = new ++ Lib.replaceK old new (Lib.count (s.drop old.length) old) (s.drop old.length) := by
  have hi : Lib.index s old = ((0 : Nat) : Int) := by
    cases s with
    | nil => cases old with
      | nil => exact absurd rfl hne
      | cons a t => simp at h
    | cons b l => unfold Lib.index; rw [if_pos h]; rfl
  rw [Lib.count_hit hne hi, Nat.add_comm, Lib.replaceK_hit old new _ s 0 hi]
  simp
theorem rep_miss {c : UInt8} {s old new : List UInt8} (hne : old ≠ []) (h : old.isPrefixOf (c :: s) = false) :
    Lib.replaceK old new (Lib.count (c :: s) old) (c :: s) = c :: Lib.replaceK old new (Lib.count s old) s := by
  rcases Lib.index_spec s old with ⟨h1, _⟩ | ⟨i, h1, _⟩
  · have h2 : Lib.index (c :: s) old = -1 := by unfold Lib.index; rw [h, h1]; rfl
    rw [Lib.count_miss h1, Lib.count_miss h2]
    rfl
  · have h2 : Lib.index (c :: s) old = ((i + 1 : Nat) : Int) := by
      unfold Lib.index
      rw [h, h1]
      have : ((i : Int) == -1) = false := by rw [beq_eq_false_iff_ne]; omega
      simp [this]
    rw [Lib.count_hit hne h1, Lib.count_hit hne h2, Nat.add_comm 1, Nat.add_comm 1, Lib.replaceK_hit old new _ s i h1, Lib.replaceK_hit old new _ (c :: s) (i + 1) h2]
    rw [show i + 1 + old.length = (i + old.length) + 1 by omega]
    simp [List.take_succ_cons]
theorem rep_none {old new : List UInt8} (hne : old ≠ []) : Lib.replaceK old new (Lib.count [] old) [] = [] := by
  have : Lib.index [] old = -1 := by
    cases old with
    | nil => exact absurd rfl hne
    | cons a t => rfl
  rw [Lib.count_miss this]; rfl
theorem rep_all {s old new : List UInt8} (h : old ≠ new) : Lib.replaceAll s old new = Lib.replaceK old new (Lib.count s old) s := by
  unfold Lib.replaceAll Lib.replace Lib.replaceNum
  rw [if_neg (by simpa using h), if_pos (by omega)]

/-- each quote twice -/
def dblB : List UInt8 → List UInt8
  | [] => []
  | c :: r => if c = 39 then 39 :: 39 :: dblB r else c :: dblB r
theorem dbl_rep (s : List UInt8) : Lib.replaceAll s [39] [39, 39] = dblB s := by
  rw [rep_all (by decide)]
  induction s with
  | nil => exact rep_none (by decide)
  | cons c s ih =>
    unfold dblB
    by_cases h : c = 39
    · subst h
      rw [rep_hit (by decide) (by simp), if_pos rfl]
      simp only [List.length_cons, List.length_nil, List.drop_succ_cons, List.drop_zero]
      rw [ih]; rfl
    · rw [rep_miss (by decide) (by simp [List.isPrefixOf]; exact fun e => h e.symm), ih, if_neg h]
theorem dbl_len (s : List UInt8) : (dblB s).length ≤ 2 * s.length := by
  induction s with
  | nil => simp [dblB]
  | cons c s ih => unfold dblB; split <;> simp <;> omega
theorem count_len (s old : List UInt8) : Lib.count s old ≤ s.length + 1 := Lib.count_le s old
end Go.Proofs.YtibopcceffncpaaGreatDoor


namespace Go.Proofs.YtibopcceffncpaaGreatDoor
set_option linter.unusedVariables false
set_option linter.unusedSimpArgs false
set_option maxRecDepth 100000
open Go.RowKit

def zCl : Cl := ⟨false, 0, []⟩
/-- a predicate but for what is within it -/
structure Ph where
  op : Int
  col : Tx
  cmp : Int
  val : Cl
  kind : Int
  pat : Tx
  deriving DecidableEq
inductive Pd where
  | mk (h : Ph) (kids : List Pd)
def Pd.hd : Pd → Ph | .mk h _ => h
def Pd.kids : Pd → List Pd | .mk _ l => l
theorem Pd.eta (p : Pd) : p = .mk p.hd p.kids := by cases p; rfl
theorem Pd.ind {M : Pd → Prop} (h : ∀ hd ks, (∀ k ∈ ks, M k) → M (.mk hd ks)) (p : Pd) : M p :=
  Pd.rec (motive_1 := M) (motive_2 := fun l => ∀ k ∈ l, M k) (fun hd ks ih => h hd ks ih) (fun _ hk => by cases hk)
    (fun k r hk hr x hx => by
      rcases List.mem_cons.1 hx with rfl | hx
      · exact hk
      · exact hr x hx) p

/-! ### How many, how deep, how long -/
mutual
def cntP : Pd → Nat | .mk _ ks => 1 + cntL ks
def cntL : List Pd → Nat | [] => 0 | k :: r => cntP k + cntL r
end
mutual
def depP : Pd → Nat | .mk _ ks => 1 + depL ks
def depL : List Pd → Nat | [] => 0 | k :: r => max (depP k) (depL r)
end
def lenH (h : Ph) (n : Nat) : Bool := decide (n ≤ 20 ∧ h.col.length ≤ 100 ∧ h.pat.length ≤ 100 ∧ h.val.txt.length ≤ 100)
mutual
def lenP : Pd → Bool | .mk h ks => lenH h ks.length && lenL ks
def lenL : List Pd → Bool | [] => true | k :: r => lenP k && lenL r
end
theorem lenL_all (l : List Pd) : lenL l = l.all lenP := by
  induction l with
  | nil => rfl
  | cons k r ih => rw [lenL, ih]; rfl
theorem depL_mem {l : List Pd} {k : Pd} (h : k ∈ l) : depP k ≤ depL l := by
  induction l with
  | nil => cases h
  | cons x r ih =>
    rw [depL]
    rcases List.mem_cons.1 h with rfl | h
    · omega
    · have := ih h; omega
theorem cntL_mem {l : List Pd} {k : Pd} (h : k ∈ l) : cntP k ≤ cntL l := by
  induction l with
  | nil => cases h
  | cons x r ih =>
    rw [cntL]
    rcases List.mem_cons.1 h with rfl | h
    · omega
    · have := ih h; omega
theorem dep_pos (p : Pd) : 1 ≤ depP p := by cases p; rw [depP]; omega
/-! ### Which there may be -/
def askOk (h : Ph) : Bool :=
  nameB h.col && (if h.op = 2 then decide (1 ≤ h.cmp ∧ h.cmp ≤ 6) && mayC h.kind false h.val && decide (h = ⟨h.op, h.col, h.cmp, h.val, h.kind, []⟩)
    else if h.op = 4 then decide (h.pat.length ≤ 40) && decide (h = ⟨h.op, h.col, 0, zCl, 0, h.pat⟩)
    else decide (h = ⟨h.op, h.col, 0, zCl, 0, []⟩))
def bareH (h : Ph) : Bool := decide (h = ⟨h.op, [], 0, zCl, 0, []⟩)
def kidOp (op : Int) (ks : List Pd) : Bool := ks.any fun k => k.hd.op == op
def hdOk (h : Ph) (ks : List Pd) : Bool :=
  if h.op = 1 then decide (ks.length = 0) && bareH h
  else if h.op = 2 ∨ h.op = 3 ∨ h.op = 4 then decide (ks.length = 0) && askOk h
  else if h.op = 5 then decide (ks.length = 1) && bareH h
  else if h.op = 6 ∨ h.op = 7 then decide (1 < ks.length) && bareH h && !kidOp h.op ks
  else false
mutual
def oneP : Pd → Bool | .mk h ks => hdOk h ks && oneL ks
def oneL : List Pd → Bool | [] => true | k :: r => oneP k && oneL r
end
theorem oneL_all (l : List Pd) : oneL l = l.all oneP := by
  induction l with
  | nil => rfl
  | cons k r ih => rw [oneL, ih]; rfl
def mayP (p : Pd) : Bool := decide (cntP p ≤ 16 ∧ depP p ≤ 6) && oneP p

/-! ### Asked of all of them -/
section
variable {σ : Type}
mutual
def allP (f : σ → Pd → Nat → Option σ) : Pd → σ → Nat → Option σ | .mk h ks, s, d => (f s (.mk h ks) d).bind fun s' => allL f ks s' (d + 1)
def allL (f : σ → Pd → Nat → Option σ) : List Pd → σ → Nat → Option σ | [], s, _ => some s | k :: r, s, d => (allP f k s d).bind fun s' => allL f r s' d
end
end
def stepM (n : Nat) (p : Pd) (d : Nat) : Option Nat := if n + 1 ≤ 16 ∧ d ≤ 6 ∧ hdOk p.hd p.kids = true then some (n + 1) else none
theorem allM (p : Pd) : ∀ n d, n ≤ 16 → d ≤ 7 → allP stepM p n d = if n + cntP p ≤ 16 ∧ d + depP p ≤ 7 ∧ oneP p = true then some (n + cntP p) else none := by
  induction p using Pd.ind with
  | h hd ks ih =>
    have hL : ∀ (l : List Pd), (∀ k ∈ l, k ∈ ks) → ∀ n d, n ≤ 16 → d ≤ 7 → allL stepM l n d = if n + cntL l ≤ 16 ∧ d + depL l ≤ 7 ∧ oneL l = true then some (n + cntL l) else none := by
      intro l
      induction l with
      | nil => intro _ n d hn hd; rw [allL, cntL, depL, oneL, if_pos ⟨by omega, by omega, rfl⟩]; rfl
      | cons k r ih2 =>
        intro hm n d hn hd
        rw [allL, ih k (hm k (List.mem_cons_self ..)) n d hn hd, cntL, depL, oneL]
        by_cases h1 : n + cntP k ≤ 16 ∧ d + depP k ≤ 7 ∧ oneP k = true
        · rw [if_pos h1, Option.bind_some, ih2 (fun x hx => hm x (List.mem_cons_of_mem _ hx)) _ d h1.1 hd, h1.2.2, Bool.true_and]
          by_cases h2 : n + cntP k + cntL r ≤ 16 ∧ d + depL r ≤ 7 ∧ oneL r = true
          · rw [if_pos h2, if_pos ⟨by omega, by omega, h2.2.2⟩, Nat.add_assoc]
          · rw [if_neg h2, if_neg (by rintro ⟨a, b, c⟩; exact h2 ⟨by omega, by omega, c⟩)]
        · rw [if_neg h1, Option.bind_none, if_neg]
          rintro ⟨a, b, c⟩
          rw [Bool.and_eq_true] at c
          exact h1 ⟨by omega, by omega, c.1⟩
    intro n d hn hd7
    rw [allP, cntP, depP, oneP]
    unfold stepM
    by_cases h1 : n + 1 ≤ 16 ∧ d ≤ 6 ∧ hdOk hd ks = true
    · rw [if_pos (show n + 1 ≤ 16 ∧ d ≤ 6 ∧ hdOk (Pd.mk hd ks).hd (Pd.mk hd ks).kids = true from h1), Option.bind_some]
      have e := hL ks (fun _ h => h) (n + 1) (d + 1) h1.1 (by omega)
      unfold stepM at e
      rw [e, h1.2.2, Bool.true_and]
      by_cases h2 : n + 1 + cntL ks ≤ 16 ∧ d + 1 + depL ks ≤ 7 ∧ oneL ks = true
      · rw [if_pos h2, if_pos ⟨by omega, by omega, h2.2.2⟩, Nat.add_assoc]
      · rw [if_neg h2, if_neg (by rintro ⟨a, b, c⟩; exact h2 ⟨by omega, by omega, c⟩)]
    · rw [if_neg (show ¬ (n + 1 ≤ 16 ∧ d ≤ 6 ∧ hdOk (Pd.mk hd ks).hd (Pd.mk hd ks).kids = true) from h1), Option.bind_none, if_neg]
      rintro ⟨a, b, c⟩
      rw [Bool.and_eq_true] at c
      exact h1 ⟨by omega, by omega, c.1⟩
theorem may_all (p : Pd) : (allP stepM p 0 1).isSome = mayP p := by
  rw [allM p 0 1 (by omega) (by omega)]
  unfold mayP
  by_cases h : cntP p ≤ 16 ∧ depP p ≤ 6
  · rw [decide_eq_true h, Bool.true_and]
    cases h2 : oneP p
    · rw [if_neg (by simp)]; rfl
    · rw [if_pos ⟨by omega, by omega, rfl⟩]; rfl
  · rw [decide_eq_false h, Bool.false_and, if_neg (by omega)]; rfl

/-! ### Counted, as the document does -/
mutual
def sizeP : Pd → Int → Nat → Int | .mk _ ks, m, d => if d < 1 ∨ m < 1 then 17 else sizeL ks m (d - 1) 1
def sizeL : List Pd → Int → Nat → Int → Int | [], _, _, n => n | k :: r, m, d, n => if 16 < n then n else sizeL r m d (n + sizeP k (m - n) d)
end
theorem sizeL_big (l : List Pd) (m : Int) (d : Nat) (n : Int) (h : 16 < n) : sizeL l m d n = n := by
  cases l with
  | nil => rw [sizeL]
  | cons k r => rw [sizeL, if_pos h]
theorem size_is (p : Pd) : ∀ (m : Int) (d : Nat), m ≤ 16 → ((cntP p : Int) ≤ m ∧ depP p ≤ d → sizeP p m d = cntP p) ∧ (¬ ((cntP p : Int) ≤ m ∧ depP p ≤ d) → 16 < sizeP p m d) ∧ 1 ≤ sizeP p m d ∧ sizeP p m d ≤ 17 + 17 * d := by
  induction p using Pd.ind with
  | h hd ks ih =>
    have hL : ∀ (l : List Pd), (∀ k ∈ l, k ∈ ks) → ∀ (m : Int) (d : Nat) (n : Int), 1 ≤ n → n ≤ m → m ≤ 16 → (n + (cntL l : Int) ≤ m ∧ depL l ≤ d → sizeL l m d n = n + cntL l) ∧ (¬ (n + (cntL l : Int) ≤ m ∧ depL l ≤ d) → 16 < sizeL l m d n) ∧ 1 ≤ sizeL l m d n ∧ sizeL l m d n ≤ 17 + 17 * (d + 1) := by
      intro l
      induction l with
      | nil => intro _ m d n h1 h2 h3; rw [sizeL, cntL, depL]; exact ⟨fun _ => by simp, fun h => absurd ⟨by simpa using h2, Nat.zero_le _⟩ h, h1, by omega⟩
      | cons k r ih2 =>
        intro hm m d n h1 h2 h3
        obtain ⟨k1, k2, k3, k4⟩ := ih k (hm k (List.mem_cons_self ..)) (m - n) d (by omega)
        rw [sizeL, if_neg (by omega), cntL, depL]
        by_cases hk : (cntP k : Int) ≤ m - n ∧ depP k ≤ d
        · have e := k1 hk
          obtain ⟨r1, r2, r3, r4⟩ := ih2 (fun x hx => hm x (List.mem_cons_of_mem _ hx)) m d (n + cntP k) (by omega) (by omega) h3
          rw [e]
          refine ⟨fun h => ?_, fun h => r2 ?_, r3, r4⟩
          · rw [r1 ⟨by omega, by omega⟩]; omega
          · rintro ⟨a, b⟩
            exact h ⟨by omega, by omega⟩
        · have hb := k2 hk
          rw [sizeL_big r m d _ (by omega)]
          refine ⟨fun h => absurd ⟨by omega, by omega⟩ hk, fun _ => by omega, by omega, by omega⟩
    intro m d hm
    rw [sizeP, cntP, depP]
    by_cases h : d < 1 ∨ m < 1
    · rw [if_pos h]
      refine ⟨fun ⟨a, b⟩ => by omega, fun _ => by omega, by omega, by omega⟩
    · rw [if_neg h]
      obtain ⟨r1, r2, r3, r4⟩ := hL ks (fun _ h => h) m (d - 1) 1 (by omega) (by omega) hm
      refine ⟨fun ⟨a, b⟩ => ?_, fun hn => r2 ?_, r3, by omega⟩
      · rw [r1 ⟨by omega, by omega⟩]; omega
      · rintro ⟨a, b⟩
        exact hn ⟨by omega, by omega⟩
theorem may_size (p : Pd) : (decide (sizeP p 16 6 ≤ 16) && oneP p) = mayP p := by
  obtain ⟨h1, h2, _, _⟩ := size_is p 16 6 (by omega)
  unfold mayP
  congr 1
  rw [decide_eq_decide]
  constructor
  · intro h
    exact Classical.byContradiction fun hn => by
      have := h2 (by rintro ⟨a, b⟩; exact hn ⟨by omega, b⟩)
      omega
  · rintro ⟨a, b⟩
    rw [h1 ⟨by omega, b⟩]; omega

/-! ### Which fit columns -/
def okT (cols : List Co) (h : Ph) : Bool :=
  if h.col = [] then true else match findC cols h.col with
  | none => false
  | some k => match cols[k]? with
    | none => true
    | some c => if h.op = 2 then c.ty == h.kind else if h.op = 4 then c.ty == 3 else true
mutual
def typP (cols : List Co) : Pd → Bool | .mk h ks => okT cols h && typL cols ks
def typL (cols : List Co) : List Pd → Bool | [] => true | k :: r => typP cols k && typL cols r
end
theorem typL_all (cols : List Co) (l : List Pd) : typL cols l = l.all (typP cols) := by
  induction l with
  | nil => rfl
  | cons k r ih => rw [typL, ih]; rfl
def stepT (cols : List Co) (_ : Unit) (p : Pd) (_ : Nat) : Option Unit := if okT cols p.hd = true then some () else none
theorem allT (cols : List Co) (p : Pd) : ∀ d, allP (stepT cols) p () d = if typP cols p = true then some () else none := by
  induction p using Pd.ind with
  | h hd ks ih =>
    have hL : ∀ (l : List Pd), (∀ k ∈ l, k ∈ ks) → ∀ d, allL (stepT cols) l () d = if typL cols l = true then some () else none := by
      intro l
      induction l with
      | nil => intro _ d; rw [allL, typL, if_pos rfl]
      | cons k r ih2 =>
        intro hm d
        rw [allL, ih k (hm k (List.mem_cons_self ..)) d, typL]
        cases h1 : typP cols k
        · simp
        · rw [if_pos rfl, Option.bind_some, ih2 (fun x hx => hm x (List.mem_cons_of_mem _ hx)) d]; simp
    intro d
    rw [allP, typP]
    have e := hL ks (fun _ h => h) (d + 1)
    unfold stepT at e ⊢
    show (if okT cols hd = true then some () else none).bind _ = _
    cases h1 : okT cols hd
    · simp
    · rw [if_pos rfl, Option.bind_some, e]; simp
def fitP (cols : List Co) (p : Pd) : Int := if mayP p = false ∨ ¬ chkC cols = 0 then 1 else if typP cols p = true then 0 else 10

/-! ### The same -/
/-! ### Columns -/
def addC (l : List Tx) (h : Ph) : List Tx := if h.col = [] ∨ h.col ∈ l then l else l ++ [h.col]
mutual
def colP : List Tx → Pd → List Tx | l, .mk h ks => colL (addC l h) ks
def colL : List Tx → List Pd → List Tx | l, [] => l | l, k :: r => colL (colP l k) r
end
def stepC (l : List Tx) (p : Pd) (_ : Nat) : Option (List Tx) := some (addC l p.hd)
theorem allC (p : Pd) : ∀ l d, allP stepC p l d = some (colP l p) := by
  induction p using Pd.ind with
  | h hd ks ih =>
    have hL : ∀ (m : List Pd), (∀ k ∈ m, k ∈ ks) → ∀ l d, allL stepC m l d = some (colL l m) := by
      intro m
      induction m with
      | nil => intro _ l d; rw [allL, colL]
      | cons k r ih2 =>
        intro hm l d
        rw [allL, ih k (hm k (List.mem_cons_self ..)) l d, Option.bind_some, ih2 (fun x hx => hm x (List.mem_cons_of_mem _ hx)), colL]
    intro l d
    rw [allP, colP]
    exact hL ks (fun _ h => h) _ _
/-- how many names there may be, behind l -/
theorem addC_len (l : List Tx) (h : Ph) : (addC l h).length ≤ l.length + 1 := by unfold addC; split <;> simp
theorem colP_len (p : Pd) : ∀ l, (colP l p).length ≤ l.length + cntP p := by
  induction p using Pd.ind with
  | h hd ks ih =>
    have hL : ∀ (m : List Pd), (∀ k ∈ m, k ∈ ks) → ∀ l, (colL l m).length ≤ l.length + cntL m := by
      intro m
      induction m with
      | nil => intro _ l; rw [colL, cntL]; omega
      | cons k r ih2 =>
        intro hm l
        rw [colL, cntL]
        have a := ih k (hm k (List.mem_cons_self ..)) l
        have b := ih2 (fun x hx => hm x (List.mem_cons_of_mem _ hx)) (colP l k)
        omega
    intro l
    rw [colP, cntP]
    have a := hL ks (fun _ h => h) (addC l hd)
    have b := addC_len l hd
    omega

/-! ### Texts -/
def markB (n : Int) : Tx := if n = 1 then [61] else if n = 2 then [60, 62] else if n = 3 then [60] else if n = 4 then [60, 61] else if n = 5 then [62] else if n = 6 then [62, 61] else []
def quoT (l : Tx) : Tx := 39 :: dblB l ++ [39]
def valT (ty : Int) (c : Cl) : Tx :=
  if c.null then [110, 117, 108, 108] else if ty = 1 then Lib.itoa c.num else if ty = 2 then (if c.num = 0 then [102, 97, 108, 115, 101] else [116, 114, 117, 101]) else if ty = 3 then quoT c.txt else []
/-- in brackets, if its op is one of these -/
def brk (ops : List Int) (x : Int × Tx) : Tx := if x.1 ∈ ops then 40 :: x.2 ++ [41] else x.2
def andT : Tx := [32, 97, 110, 100, 32]
def orT : Tx := [32, 111, 114, 32]
def textH (h : Ph) (ts : List (Int × Tx)) : Tx :=
  if h.op = 2 then h.col ++ [32] ++ markB h.cmp ++ [32] ++ valT h.kind h.val
  else if h.op = 3 then h.col ++ [32, 105, 115, 32, 110, 117, 108, 108]
  else if h.op = 4 then h.col ++ [32, 108, 105, 107, 101, 32] ++ quoT h.pat
  else if h.op = 5 then [110, 111, 116, 32] ++ brk [6, 7] (ts.headD (0, []))
  else if h.op = 6 then Lib.join (ts.map (brk [7])) andT
  else if h.op = 7 then Lib.join (ts.map (brk [])) orT
  else [97, 108, 108]
mutual
def textP : Pd → Tx | .mk h ks => textH h (textL ks)
def textL : List Pd → List (Int × Tx) | [] => [] | k :: r => (k.hd.op, textP k) :: textL r
end
theorem textL_map (l : List Pd) : textL l = l.map fun k => (k.hd.op, textP k) := by
  induction l with
  | nil => rfl
  | cons k r ih => rw [textL, ih]; rfl
def brkP (ops : List Int) (k : Pd) : Tx := brk ops (k.hd.op, textP k)
theorem textL_brk (ops : List Int) (l : List Pd) : (textL l).map (brk ops) = l.map (brkP ops) := by
  rw [textL_map, List.map_map]; rfl
end Go.Proofs.YtibopcceffncpaaGreatDoor


namespace Go.Proofs.YtibopcceffncpaaGreatDoor
set_option linter.unusedVariables false
set_option linter.unusedSimpArgs false
set_option maxRecDepth 100000
open Go.RowKit

mutual
/-- every number within int64 -/
def numP : Pd → Prop | .mk h ks => I64b h.val.num ∧ numL ks
def numL : List Pd → Prop | [] => True | k :: r => numP k ∧ numL r
end
theorem numL_all (l : List Pd) : numL l ↔ ∀ p ∈ l, numP p := by
  induction l with
  | nil => simp [numL]
  | cons k r ih => rw [numL, ih]; simp
theorem itoa_len (v : Int) (h : I64b v) : (Lib.itoa v).length ≤ 20 := by
  rcases itoa_shape h rfl with ⟨_, _, _, h4⟩ | ⟨d, h1, _, _, _, h5⟩
  · omega
  · rw [h1, List.length_cons]; omega
theorem quoT_len (l : Tx) : (quoT l).length ≤ 2 * l.length + 2 := by
  have := dbl_len l
  unfold quoT
  simp
  omega
theorem valT_len (ty : Int) (c : Cl) (h : I64b c.num) (ht : c.txt.length ≤ 100) : (valT ty c).length ≤ 202 := by
  have h1 := itoa_len c.num h
  have h2 := quoT_len c.txt
  unfold valT
  split
  · simp
  · split
    · omega
    · split
      · split <;> simp
      · split
        · omega
        · simp
theorem brk_len (ops : List Int) (x : Int × Tx) : (brk ops x).length ≤ x.2.length + 2 := by
  unfold brk
  split <;> simp
theorem inter_len (sep : Tx) (h5 : sep.length ≤ 5) (l : List Tx) : (Lib.join l sep).length ≤ (l.map fun x => x.length + 5).sum := by
  unfold Lib.join
  induction l with
  | nil => simp [List.intercalate]
  | cons x r ih =>
    cases r with
    | nil => simp [List.intercalate]
    | cons y r =>
      have e : List.intercalate sep (x :: y :: r) = x ++ sep ++ List.intercalate sep (y :: r) := by simp [List.intercalate]
      rw [e, List.map_cons, List.sum_cons, List.length_append, List.length_append]
      omega
theorem markB_len (n : Int) : (markB n).length ≤ 2 := by
  unfold markB
  repeat' split
  all_goals simp
theorem text_len (p : Pd) : numP p → lenP p = true → (textP p).length + 10 ≤ 400 * cntP p := by
  induction p using Pd.ind with
  | h hd ks ih =>
    intro hn hl
    rw [numP] at hn
    rw [lenP, Bool.and_eq_true, lenL_all] at hl
    have hl1 := of_decide_eq_true hl.1
    rw [cntP, textP]
    have hv := valT_len hd.kind hd.val hn.1 hl1.2.2.2
    have hq := quoT_len hd.pat
    have hm := markB_len hd.cmp
    have hL : ∀ (l : List Pd), (∀ k ∈ l, k ∈ ks) → ∀ ops, (((textL l).map (brk ops)).map fun x => x.length + 5).sum ≤ 400 * cntL l := by
      intro l
      induction l with
      | nil => intro _ _; simp [textL]
      | cons k r ih2 =>
        intro hm ops
        have hk := hm k (List.mem_cons_self ..)
        have a := ih k hk ((numL_all ks).1 hn.2 k hk) (List.all_eq_true.1 hl.2 k hk)
        have b := ih2 (fun x hx => hm x (List.mem_cons_of_mem _ hx)) ops
        have c := brk_len ops (k.hd.op, textP k)
        rw [textL, cntL, List.map_cons, List.map_cons, List.sum_cons]
        dsimp only at c ⊢
        omega
    have hc := hl1.2.1
    have hp := hl1.2.2.1
    unfold textH
    split
    · simp only [List.length_append, List.length_cons, List.length_nil]; omega
    · split
      · simp only [List.length_append, List.length_cons, List.length_nil]; omega
      · split
        · simp only [List.length_append, List.length_cons, List.length_nil]; omega
        · split
          · cases ks with
            | nil => simp [textL, brk, cntL]
            | cons k r =>
              have a := ih k (List.mem_cons_self ..) ((numL_all _).1 hn.2 k (List.mem_cons_self ..)) (List.all_eq_true.1 hl.2 k (List.mem_cons_self ..))
              have c := brk_len [6, 7] (k.hd.op, textP k)
              rw [textL, List.headD_cons, List.length_append, cntL]
              dsimp only at c ⊢
              simp only [List.length_cons, List.length_nil]
              omega
          · split
            · have a := inter_len andT (by decide) ((textL ks).map (brk [7]))
              have b := hL ks (fun _ h => h) [7]
              omega
            · split
              · have a := inter_len orT (by decide) ((textL ks).map (brk []))
                have b := hL ks (fun _ h => h) []
                omega
              · simp only [List.length_cons, List.length_nil]; omega
end Go.Proofs.YtibopcceffncpaaGreatDoor


namespace Go.Proofs.YtibopcceffncpaaGreatDoor
set_option linter.unusedVariables false
set_option linter.unusedSimpArgs false
set_option maxRecDepth 100000
open Go.RowKit

/-- an aggregate -/
structure Ag where
  op : Int
  col : List UInt8
  deriving DecidableEq
/-- a query -/
structure Qy where
  tab : Tx
  cols : List Tx
  whr : Pd
  aggs : List Ag
  by_ : Tx
def agB (a : Ag) : Bool := if a.op = 1 then decide (a.col = []) else decide (2 ≤ a.op ∧ a.op ≤ 5) && nameB a.col
theorem ag_is {a : Ag} (h : agB a = true) : (a.op = 1 ∧ a.col = []) ∨ (¬ a.op = 1 ∧ 2 ≤ a.op ∧ a.op ≤ 5 ∧ nameB a.col = true) := by
  unfold agB at h
  split at h
  · rename_i h1
    exact .inl ⟨h1, of_decide_eq_true h⟩
  · rename_i h1
    rw [Bool.and_eq_true, decide_eq_true_eq] at h
    exact .inr ⟨h1, h.1.1, h.1.2, h.2⟩
def unlB (l : List Tx) : Bool := l.all nameB && decide l.Nodup
def plainQ (q : Qy) : Bool := decide (q.aggs.length = 0) && (decide (q.by_ = []) && (decide (q.cols.length ≤ 6) && unlB q.cols))
def foldQ (q : Qy) : Bool := decide (0 < q.aggs.length) && (decide (q.aggs.length ≤ 4) && (q.aggs.all agB && (decide (q.cols.length = 0) && (decide (q.by_ = []) || nameB q.by_))))
/-- may there be a table of which q is asked? -/
def mayQ (q : Qy) : Bool := nameB q.tab && (mayP q.whr && (plainQ q || foldQ q))
/-- the document's way -/
def mayD (q : Qy) : Bool := decide (q.cols.length ≤ 6 ∧ q.aggs.length ≤ 4) && (unlB q.cols && (if q.aggs.length = 0 then decide (q.by_ = []) else q.aggs.all agB && (decide (q.cols.length = 0) && (decide (q.by_ = []) || nameB q.by_))))
theorem unl_nil {l : List Tx} (h : l.length = 0) : unlB l = true := by
  obtain rfl := List.eq_nil_of_length_eq_zero h
  rfl
theorem may_doc (q : Qy) : mayQ q = (nameB q.tab && (mayP q.whr && mayD q)) := by
  unfold mayQ
  congr 2
  unfold plainQ foldQ mayD
  by_cases h0 : q.aggs.length = 0
  · rw [if_pos h0, h0]
    simp only [Nat.lt_irrefl, decide_false, Bool.false_and, Bool.or_false, decide_true, Bool.true_and, Nat.zero_le, and_true]
    cases decide (q.by_ = []) <;> simp
  · rw [if_neg h0, decide_eq_false h0, decide_eq_true (show 0 < q.aggs.length by omega), Bool.false_and, Bool.false_or, Bool.true_and]
    by_cases hc : q.cols.length = 0
    · rw [unl_nil hc, hc]
      by_cases h4 : q.aggs.length ≤ 4 <;> simp [h4]
    · rw [decide_eq_false hc]
      simp

def hasC (cols : List Co) (n : Tx) : Bool := (findC cols n).isSome
/-- a sum of what is no number -/
def sumN (cols : List Co) (a : Ag) : Bool := decide (a.op = 3) && (match cols[(findC cols a.col).getD 0]? with | some c => decide (c.ty ≠ 1) | none => false)
def allQ (q : Qy) : Bool := decide (q.cols.length = 0) && decide (q.aggs.length = 0)
def agN (l : List Ag) : List Tx := (l.filter fun a => decide (a.op ≠ 1)).map Ag.col
def byN (b : Tx) : List Tx := if b = [] then [] else [b]
def namedQ (cols : List Co) (q : Qy) : List Tx := if allQ q = true then namesC cols else q.cols ++ agN q.aggs ++ byN q.by_
def suitQ (cols : List Co) (q : Qy) : Bool := (namedQ cols q).all (hasC cols) && !(q.aggs.any (sumN cols))
def fitQ (cols : List Co) (q : Qy) : Int := if mayQ q = false ∨ ¬ chkC cols = 0 then 1 else if typP cols q.whr = true ∧ suitQ cols q = true then 0 else 10
/-- the document's way -/
def agT (cols : List Co) (a : Ag) : Bool := decide (a.op = 1) || (match findC cols a.col with | some k => !decide (a.op = 3) || (match cols[k]? with | some c => decide (c.ty = 1) | none => false) | none => false)
def suitD (cols : List Co) (q : Qy) : Bool := (decide (q.by_ = []) || hasC cols q.by_) && (q.cols.all (hasC cols) && q.aggs.all (agT cols))
theorem agT_is (cols : List Co) (a : Ag) : agT cols a = ((decide (a.op = 1) || hasC cols a.col) && !sumN cols a) := by
  unfold agT hasC sumN
  by_cases h1 : a.op = 1
  · simp [h1]
  · cases hf : findC cols a.col with
    | none => simp [h1]
    | some k =>
      have hk := find_lt hf
      simp only [h1, decide_false, Bool.false_or, Option.isSome_some, Bool.true_and, Option.getD_some]
      rw [List.getElem?_eq_getElem hk]
      simp
theorem hasC_own {cols : List Co} {n : Tx} (h : n ∈ namesC cols) : hasC cols n = true := by
  unfold hasC
  cases hf : findC cols n with
  | some k => rfl
  | none =>
    unfold findC at hf
    rw [List.findIdx?_eq_none_iff] at hf
    unfold namesC at h
    obtain ⟨c, hc, rfl⟩ := List.mem_map.1 h
    have := hf c hc
    simp at this
theorem suit_doc (cols : List Co) (q : Qy) (h : mayQ q = true) : suitQ cols q = suitD cols q := by
  unfold suitQ suitD
  rw [Bool.eq_iff_iff]
  simp only [Bool.and_eq_true, Bool.or_eq_true, Bool.not_eq_true', List.all_eq_true, List.any_eq_false, agT_is, decide_eq_true_eq]
  by_cases ha : allQ q = true
  · have e : namedQ cols q = namesC cols := if_pos ha
    unfold allQ at ha
    rw [Bool.and_eq_true, decide_eq_true_eq, decide_eq_true_eq] at ha
    have e1 := List.eq_nil_of_length_eq_zero ha.1
    have e2 := List.eq_nil_of_length_eq_zero ha.2
    have hb : q.by_ = [] := by
      unfold mayQ plainQ foldQ at h
      simp [e1, e2] at h
      exact h.2.2.1
    rw [e, e1, e2, hb]
    simp
    exact fun x hx => hasC_own hx
  · have e : namedQ cols q = q.cols ++ agN q.aggs ++ byN q.by_ := if_neg ha
    rw [e]
    simp only [List.mem_append]
    constructor
    · rintro ⟨h1, h2⟩
      refine ⟨?_, fun x hx => h1 x (.inl (.inl hx)), fun x hx => ⟨?_, by simpa using h2 x hx⟩⟩
      · by_cases hb : q.by_ = []
        · exact .inl hb
        · exact .inr (h1 _ (.inr (by unfold byN; rw [if_neg hb]; simp)))
      · by_cases hx1 : x.op = 1
        · exact .inl hx1
        · exact .inr (h1 _ (.inl (.inr (by unfold agN; exact List.mem_map.2 ⟨x, List.mem_filter.2 ⟨hx, by simpa using hx1⟩, rfl⟩))))
    · rintro ⟨h1, h2, h3⟩
      refine ⟨?_, fun x hx => by simpa using (h3 x hx).2⟩
      rintro x ((hx | hx) | hx)
      · exact h2 x hx
      · unfold agN at hx
        obtain ⟨a, ha, rfl⟩ := List.mem_map.1 hx
        obtain ⟨ha, hb⟩ := List.mem_filter.1 ha
        rcases (h3 a ha).1 with h4 | h4
        · simp [h4] at hb
        · exact h4
      · unfold byN at hx
        split at hx
        · cases hx
        · rename_i hb
          obtain rfl := List.mem_singleton.1 hx
          rcases h1 with h1 | h1
          · exact absurd h1 hb
          · exact h1

/-! ### What stands above the answer -/
def wordA (op : Int) : Tx := if op = 2 then [104, 97, 115] else if op = 3 then [115, 117, 109] else if op = 4 then [109, 105, 110] else if op = 5 then [109, 97, 120] else []
def toldA (a : Ag) : Tx := if a.op = 1 then [99, 111, 117, 110, 116, 40, 42, 41] else wordA a.op ++ [40] ++ a.col ++ [41]
def askedQ (q : Qy) : List Tx := q.cols ++ q.aggs.map toldA
def namesQ (cols : List Co) (q : Qy) : List Tx := if fitQ cols q = 0 then (if allQ q = true then namesC cols else byN q.by_ ++ askedQ q) else []
def namesD (cols : List Co) (q : Qy) : List Tx := q.cols ++ (if allQ q = true then namesC cols else []) ++ byN q.by_ ++ q.aggs.map toldA
theorem fit_may {cols : List Co} {q : Qy} (h : fitQ cols q = 0) : mayQ q = true ∧ chkC cols = 0 := by
  unfold fitQ at h
  split at h
  · cases h
  · rename_i h1
    refine ⟨?_, Classical.byContradiction fun e => h1 (.inr e)⟩
    cases hm : mayQ q
    · exact absurd (.inl hm) h1
    · rfl
theorem may_kinds {q : Qy} (h : mayQ q = true) : (q.aggs = [] ∧ q.by_ = [] ∧ q.cols.length ≤ 6 ∧ unlB q.cols = true) ∨ (q.aggs ≠ [] ∧ q.aggs.length ≤ 4 ∧ (∀ a ∈ q.aggs, agB a = true) ∧ q.cols = [] ∧ (q.by_ = [] ∨ nameB q.by_ = true)) := by
  unfold mayQ plainQ foldQ at h
  simp only [Bool.and_eq_true, Bool.or_eq_true, decide_eq_true_eq, List.all_eq_true] at h
  rcases h.2.2 with h1 | h1
  · exact .inl ⟨List.eq_nil_of_length_eq_zero h1.1, h1.2⟩
  · refine .inr ⟨fun e => by rw [e] at h1; simp at h1, h1.2.1, h1.2.2.1, List.eq_nil_of_length_eq_zero h1.2.2.2.1, h1.2.2.2.2⟩
theorem may_parts {q : Qy} (h : mayQ q = true) : nameB q.tab = true ∧ mayP q.whr = true := by
  unfold mayQ at h
  simp only [Bool.and_eq_true] at h
  exact ⟨h.1, h.2.1⟩
theorem names_doc (cols : List Co) (q : Qy) : namesQ cols q = if fitQ cols q = 0 then namesD cols q else [] := by
  unfold namesQ
  split
  · rename_i h
    have hm := may_kinds (fit_may h).1
    unfold namesD askedQ allQ byN
    rcases hm with ⟨h1, h2, h3, h4⟩ | ⟨h1, h2, h3, h4, h5⟩
    · rw [h1, h2]
      by_cases hc : q.cols.length = 0
      · simp [hc, List.eq_nil_of_length_eq_zero hc]
      · simp [hc]
    · have : ¬ q.aggs.length = 0 := fun e => h1 (List.eq_nil_of_length_eq_zero e)
      rw [h4]
      simp [this]
  · rfl

/-! ### Which columns it needs -/
def needN (cols : List Co) (q : Qy) : List Tx := namedQ cols q ++ colP [] q.whr
def nmC (cols : List Co) (i : Nat) : Tx := match cols[i]? with | some c => c.name | none => []
def isN (cols : List Co) (q : Qy) (i : Nat) : Bool := decide (nmC cols i ∈ needN cols q)
def needL (cols : List Co) (q : Qy) (k : Nat) : List Int := ((List.range k).filter (isN cols q)).map Int.ofNat
def needsQ (cols : List Co) (q : Qy) : List Int := if fitQ cols q = 0 then needL cols q cols.length else []
/-- the document's way -/
def isD (q : Qy) (n : Tx) : Bool := decide (n = q.by_) || allQ q || decide (n ∈ colP [] q.whr) || decide (n ∈ q.cols) || decide (n ∈ q.aggs.map Ag.col)
theorem chk_name {cols : List Co} (h : chkC cols = 0) {k : Nat} (hk : k < cols.length) : cols[k].name ≠ [] := by
  have h1 := (chk_is h).2.1
  rw [List.any_eq_false] at h1
  have h2 := h1 _ (List.getElem_mem hk)
  unfold badC at h2
  simp only [Bool.not_eq_true', Bool.not_eq_false, Bool.and_eq_true, Bool.not_not] at h2
  intro e
  rw [e] at h2
  have := h2.1
  rw [name_nil rfl] at this
  cases this
theorem is_doc {cols : List Co} {q : Qy} (h : fitQ cols q = 0) {k : Nat} (hk : k < cols.length) : isN cols q k = isD q cols[k].name := by
  have ⟨hm, hc⟩ := fit_may h
  have hn := chk_name hc hk
  have e0 : nmC cols k = cols[k].name := by unfold nmC; rw [List.getElem?_eq_getElem hk]
  unfold isN isD needN
  rw [e0]
  by_cases ha : allQ q = true
  · rw [ha]
    have e : namedQ cols q = namesC cols := if_pos ha
    rw [e]
    simp only [Bool.or_true, Bool.true_or]
    rw [decide_eq_true_eq, List.mem_append]
    exact .inl (by unfold namesC; exact List.mem_map.2 ⟨_, List.getElem_mem hk, rfl⟩)
  · have e : namedQ cols q = q.cols ++ agN q.aggs ++ byN q.by_ := if_neg ha
    rw [e]
    rw [Bool.eq_iff_iff]
    simp only [Bool.or_eq_true, decide_eq_true_eq, List.mem_append]
    have hb : cols[k].name ∈ byN q.by_ ↔ cols[k].name = q.by_ := by
      unfold byN
      split
      · rename_i hb
        rw [hb]
        constructor
        · intro h; cases h
        · intro h; exact absurd h hn
      · rw [List.mem_singleton]
    have hg : cols[k].name ∈ agN q.aggs ↔ cols[k].name ∈ q.aggs.map Ag.col := by
      unfold agN
      rw [List.mem_map, List.mem_map]
      constructor
      · rintro ⟨a, ha, e⟩
        exact ⟨a, (List.mem_filter.1 ha).1, e⟩
      · rintro ⟨a, ha, e⟩
        refine ⟨a, List.mem_filter.2 ⟨ha, ?_⟩, e⟩
        rw [decide_eq_true_eq]
        intro h1
        rcases may_kinds hm with ⟨h5, _⟩ | ⟨_, _, h5, _⟩
        · rw [h5] at ha; cases ha
        · have := h5 a ha
          unfold agB at this
          rw [if_pos h1, decide_eq_true_eq] at this
          exact hn (e.symm.trans this)
    rw [hb, hg]
    constructor
    · rintro (((h | h) | h) | h)
      · exact .inl (.inr h)
      · exact .inr h
      · exact .inl (.inl (.inl (.inl h)))
      · exact .inl (.inl (.inr h))
    · rintro ((((h | h) | h) | h) | h)
      · exact .inl (.inr h)
      · exact absurd h ha
      · exact .inr h
      · exact .inl (.inl (.inl h))
      · exact .inl (.inl (.inr h))
theorem need_more {cols : List Co} {q : Qy} (k : Nat) : needL cols q (k + 1) = needL cols q k ++ (if isN cols q k = true then [(k : Int)] else []) := by
  unfold needL
  rw [List.range_succ, List.filter_append, List.map_append]
  congr 1
  cases h : isN cols q k <;> simp [h]
theorem need_len (cols : List Co) (q : Qy) (k : Nat) : (needL cols q k).length ≤ k := by
  unfold needL
  rw [List.length_map]
  exact Nat.le_trans (List.length_filter_le _ _) (by simp)

/-! ### Sorted lists -/
theorem sorted_same {l m : List Int} (h1 : l.Pairwise (· < ·)) (h2 : m.Pairwise (· < ·)) (h : ∀ x, x ∈ l ↔ x ∈ m) : l = m := by
  induction l generalizing m with
  | nil =>
    cases m with
    | nil => rfl
    | cons y m => have := (h y).2 (List.mem_cons_self ..); cases this
  | cons x l ih =>
    cases m with
    | nil => have := (h x).1 (List.mem_cons_self ..); cases this
    | cons y m =>
      rw [List.pairwise_cons] at h1 h2
      have exy : x = y := by
        rcases List.mem_cons.1 ((h x).1 (List.mem_cons_self ..)) with e | e
        · exact e
        · rcases List.mem_cons.1 ((h y).2 (List.mem_cons_self ..)) with e2 | e2
          · exact e2.symm
          · have a := h2.1 x e
            have b := h1.1 y e2
            omega
      subst exy
      congr 1
      refine ih h1.2 h2.2 fun z => ?_
      constructor
      · intro hz
        rcases List.mem_cons.1 ((h z).1 (List.mem_cons_of_mem _ hz)) with e | e
        · subst e; have := h1.1 z hz; omega
        · exact e
      · intro hz
        rcases List.mem_cons.1 ((h z).2 (List.mem_cons_of_mem _ hz)) with e | e
        · subst e; have := h2.1 z hz; omega
        · exact e
theorem need_sorted (cols : List Co) (q : Qy) (k : Nat) : (needL cols q k).Pairwise (· < ·) := by
  unfold needL
  rw [List.pairwise_map]
  exact (List.pairwise_lt_range.filter _).imp fun h => by simpa using h
/-- the places of the names of l -/
def plcC (cols : List Co) (n : Tx) : Int := ((findC cols n).getD 0 : Nat)
theorem find_name {cols : List Co} {n : Tx} {k : Nat} (h : findC cols n = some k) : nmC cols k = n := by
  have hk := find_lt h
  unfold findC at h
  have := (List.findIdx?_eq_some_iff_getElem.1 h).2.1
  unfold nmC
  rw [List.getElem?_eq_getElem hk]
  simpa using this
theorem find_self {cols : List Co} (hc : (namesC cols).Nodup) {k : Nat} (hk : k < cols.length) : findC cols cols[k].name = some k :=
  find_at hk rfl fun j hj hjk e => nodup_not hk hjk e hc
theorem need_mem {cols : List Co} {q : Qy} (hc : (namesC cols).Nodup) (hall : ∀ n ∈ needN cols q, hasC cols n = true) (x : Int) : x ∈ needL cols q cols.length ↔ x ∈ (needN cols q).map (plcC cols) := by
  unfold needL
  rw [List.mem_map, List.mem_map]
  constructor
  · rintro ⟨i, hi, rfl⟩
    obtain ⟨h1, h2⟩ := List.mem_filter.1 hi
    rw [List.mem_range] at h1
    unfold isN at h2
    rw [decide_eq_true_eq] at h2
    refine ⟨_, h2, ?_⟩
    unfold plcC
    have : nmC cols i = cols[i].name := by unfold nmC; rw [List.getElem?_eq_getElem h1]
    rw [this, find_self hc h1]
    rfl
  · rintro ⟨n, hn, rfl⟩
    have := hall n hn
    unfold hasC at this
    obtain ⟨k, hk⟩ := Option.isSome_iff_exists.1 this
    refine ⟨k, List.mem_filter.2 ⟨List.mem_range.2 (find_lt hk), ?_⟩, ?_⟩
    · unfold isN
      rw [decide_eq_true_eq, find_name hk]
      exact hn
    · unfold plcC
      rw [hk]; rfl
/-- the columns that a predicate that fits names are there -/
theorem colP_has (cols : List Co) (p : Pd) : typP cols p = true → ∀ l, (∀ n ∈ l, hasC cols n = true) → ∀ n ∈ colP l p, hasC cols n = true := by
  refine Pd.ind (M := fun p => typP cols p = true → ∀ l, (∀ n ∈ l, hasC cols n = true) → ∀ n ∈ colP l p, hasC cols n = true) ?_ p
  intro h ks IH ht l hl
  rw [typP, Bool.and_eq_true] at ht
  rw [colP]
  have hA : ∀ n ∈ addC l h, hasC cols n = true := by
    intro n hn
    unfold addC at hn
    split at hn
    · exact hl n hn
    · rename_i hne
      rcases List.mem_append.1 hn with hn | hn
      · exact hl n hn
      · obtain rfl := List.mem_singleton.1 hn
        have h1 := ht.1
        unfold okT at h1
        rw [if_neg (fun e => hne (.inl e))] at h1
        unfold hasC
        cases hf : findC cols h.col with
        | some k => rfl
        | none => rw [hf] at h1; simp at h1
  have h2 := ht.2
  clear ht hl
  generalize addC l h = m at *
  induction ks generalizing m with
  | nil => rw [colL]; exact hA
  | cons k r ih =>
    rw [typL, Bool.and_eq_true] at h2
    rw [colL]
    exact ih (fun x hx => IH x (List.mem_cons_of_mem _ hx)) h2.2 _ (IH k (List.mem_cons_self ..) h2.1 m hA)
theorem fit_all {cols : List Co} {q : Qy} (h : fitQ cols q = 0) : ∀ n ∈ needN cols q, hasC cols n = true := by
  unfold fitQ at h
  split at h
  · cases h
  · split at h
    · rename_i h1 h2
      intro n hn
      unfold needN at hn
      rcases List.mem_append.1 hn with hn | hn
      · have := h2.2
        unfold suitQ at this
        rw [Bool.and_eq_true, List.all_eq_true] at this
        exact this.1 n hn
      · exact colP_has cols q.whr h2.1 [] (by simp) n hn
    · cases h

/-! ### As it is written -/
def selT : Tx := [115, 101, 108, 101, 99, 116, 32]
def fromT : Tx := [32, 102, 114, 111, 109, 32]
def whereT : Tx := [32, 119, 104, 101, 114, 101, 32]
def groupT : Tx := [32, 103, 114, 111, 117, 112, 32, 98, 121, 32]
def comT : Tx := [44, 32]
def listQ (q : Qy) : Tx := if allQ q = true then [42] else Lib.join (askedQ q) comT
def whrT (p : Pd) : Tx := if p.hd.op = 1 then [] else whereT ++ textP p
def grpT (b : Tx) : Tx := if b = [] then [] else groupT ++ b
def textQ (q : Qy) : Tx := selT ++ listQ q ++ fromT ++ q.tab ++ whrT q.whr ++ grpT q.by_
def TextQ (q : Qy) : Tx := if mayQ q = true then textQ q else []
/-- not too great -/
structure SmQ (q : Qy) : Prop where
  cols : q.cols.length ≤ 15
  names : ∀ x ∈ q.cols, x.length ≤ 100
  aggs : q.aggs.length ≤ 15
  acol : ∀ a ∈ q.aggs, a.col.length ≤ 100
  tab : q.tab.length ≤ 100
  by_ : q.by_.length ≤ 100
  lens : lenP q.whr = true
  deep : depP q.whr ≤ 9
theorem told_len {a : Ag} (h : a.col.length ≤ 100) : (toldA a).length ≤ 200 := by
  unfold toldA wordA
  split
  · decide
  · split
    · simp; omega
    · split
      · simp; omega
      · split
        · simp; omega
        · split <;> (simp; omega)
theorem asked_len {q : Qy} (h : SmQ q) : (askedQ q).length ≤ 30 ∧ ∀ x ∈ askedQ q, x.length ≤ 200 := by
  unfold askedQ
  refine ⟨by rw [List.length_append, List.length_map]; have := h.cols; have := h.aggs; omega, fun x hx => ?_⟩
  rcases List.mem_append.1 hx with hx | hx
  · have := h.names x hx; omega
  · obtain ⟨a, ha, rfl⟩ := List.mem_map.1 hx
    exact told_len (h.acol a ha)
theorem sum_le (l : List Tx) (h : ∀ x ∈ l, x.length ≤ 200) : (l.map fun x => x.length + 5).sum ≤ 205 * l.length := by
  induction l with
  | nil => simp
  | cons x r ih =>
    rw [List.map_cons, List.sum_cons, List.length_cons]
    have a := h x (List.mem_cons_self ..)
    have b := ih fun y hy => h y (List.mem_cons_of_mem _ hy)
    omega
theorem joinQ_len (l : List Tx) (hn : l.length ≤ 30) (h : ∀ x ∈ l, x.length ≤ 200) : (Lib.join l comT).length ≤ 6150 := by
  have a := inter_len comT (by decide) l
  have b := sum_le l h
  omega
end Go.Proofs.YtibopcceffncpaaGreatDoor
