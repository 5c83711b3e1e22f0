/-
  Joined: Words of our own on memory, for all texts of this seat: what changed between two worlds (Fr), a known block (Blk), bytes that a slice reads as (Bs), bytes in a row of the call's own (Own), and the steps append and convert over them. · Texts as plain lists of bytes: Go's '<' on them, and an order in three ways. Nothing of the program. · Layer 9: a cell as a value; which cells there may be, both programs'. · Layer 9: the order of cells, both programs'. · Words on a cell in a block: read, stored whole, handed back. · Layer 11: a zone as a value; which zones there may be, and which cells they have, both programs'. · Layer 11: what a zone of cells is: how many, how many null, the least and the greatest of the others. Nothing of the program. · Layer 6 as plain functions on lists: the bytes of numbers as differences (putD), which numbers bytes are (gd), and that each is the other's back. Nothing of the program. · Cells gathered: how many, how many not null, the sum of the others' numbers, the least and the greatest of them. Nothing of the program. · A cell of an old block, in a world behind; an address and nothing more. · int64's wrap, as a walk spells it. · Layer 22: a state as a value and in a block; what the program joins, and that it is what is known of cells. · Layer 22: the program's small functions: New, of, lesser, greater, what is told, Value, Type.
-/
import Derived.Lib.Varint
import Derived.Lib.Zigzag
import Derived.Test.YtincapmagennmaaProg
import Derived.WalkKit
import Derived.WalkSpells
import Derived.Deep.AppendSrc
import Derived.Maps.AppendAt
import Derived.Lib.Hide
import Derived.Deep.Draws
import Derived.Lib.AppendStr
import Derived.Laws.StructEq
import Derived.Laws.Cover1
import Derived.Laws.Rows
import Derived.Laws.ResultCell

namespace Go.Proofs.Ytincapmagennmaa
set_option linter.unusedVariables false
set_option linter.unusedSimpArgs false
set_option maxRecDepth 100000
open Go.RowKit

/-! ### What changed: of the blocks that were there, at most those of S -/
structure Fr (S : Nat → Prop) (w w' : World) : Prop where
  os : w'.os = w.os
  tape : w'.tape = w.tape
  output : w'.output = w.output
  size : w.heap.size ≤ w'.heap.size
  block : ∀ k, k < w.heap.size → ¬ S k → w'.heap[k]? = w.heap[k]?

/-- nothing -/
def Non : Nat → Prop := fun _ => False
/-- one block -/
def One (g : Nat) : Nat → Prop := fun k => k = g

theorem Fr.refl (S : Nat → Prop) (w : World) : Fr S w w := ⟨rfl, rfl, rfl, Nat.le_refl _, fun _ _ _ => rfl⟩
theorem Fr.join {S S' : Nat → Prop} {w w1 w2 : World} (h : Fr S w w1) (h' : Fr S' w1 w2) (hs : ∀ k, k < w.heap.size → S' k → S k) : Fr S w w2 :=
  ⟨h'.os.trans h.os, h'.tape.trans h.tape, h'.output.trans h.output, Nat.le_trans h.size h'.size,
    fun k hk hn => (h'.block k (Nat.lt_of_lt_of_le hk h.size) (fun e => hn (hs k hk e))).trans (h.block k hk hn)⟩
theorem Fr.trans {S : Nat → Prop} {w w1 w2 : World} (h : Fr S w w1) (h' : Fr S w1 w2) : Fr S w w2 := h.join h' fun _ _ e => e
theorem Fr.then {S : Nat → Prop} {w w1 w2 : World} (h : Fr S w w1) (h' : Fr Non w1 w2) : Fr S w w2 := h.join h' fun _ _ e => e.elim
theorem Fr.mono {S S' : Nat → Prop} {w w' : World} (h : Fr S w w') (hs : ∀ k, k < w.heap.size → S k → S' k) : Fr S' w w' :=
  ⟨h.os, h.tape, h.output, h.size, fun k hk hn => h.block k hk fun e => hn (hs k hk e)⟩
theorem Fr.any {S : Nat → Prop} {w w' : World} (h : Fr Non w w') : Fr S w w' := h.mono fun _ _ e => e.elim
theorem Fr.fresh {S S' : Nat → Prop} {w w1 w2 : World} (h : Fr S w w1) (h' : Fr S' w1 w2) (hs : ∀ k, S' k → w.heap.size ≤ k) : Fr S w w2 :=
  h.join h' fun k hk e => absurd (hs k e) (by omega)
theorem Fr.drew {S : Nat → Prop} {w w' : World} (h : Fr S w w') : Fr S w w'.drew := ⟨h.os, h.tape, h.output, h.size, h.block⟩
theorem Fr.alloc {S : Nat → Prop} {w w' : World} (h : Fr S w w') (o : Obj) : Fr S w (w'.alloc o) :=
  h.then ⟨rfl, rfl, rfl, by simp, fun k hk _ => Below.heap_alloc _ _ _ hk⟩
theorem Fr.setCell {S : Nat → Prop} {w w' : World} (h : Fr S w w') {p : Addr} (hp : p.block < w.heap.size → S p.block) (u : Value) : Fr S w (w'.setCell p u) :=
  ⟨h.os, h.tape, h.output, by simpa [World.setCell] using h.size, fun k hk hn => (Below.heap_setCell w' p u k (fun e => hn (by subst e; exact hp hk))).trans (h.block k hk hn)⟩
theorem Fr.set1 {g : Nat} {w w' : World} (h : Fr (One g) w w') (i : Nat) (u : Value) : Fr (One g) w (w'.setCell ⟨g, i, none⟩ u) := h.setCell (p := ⟨g, i, none⟩) (fun _ => rfl) u
theorem Fr.below {w w' : World} (h : Fr Non w w') : Below w.heap.size w w' := ⟨h.os, h.tape, h.output, h.size, fun k hk => h.block k hk fun e => e⟩
theorem Fr.of_grown {w w' : World} {row : Option Nat} (h : w.grownBy w' row) : Fr (fun k => row = some k) w w' :=
  ⟨h.os, h.tape, h.output, h.size, fun k hk hn => h.block k hk (fun e => hn e.symm)⟩
theorem Fr.cell {S : Nat → Prop} {w w' : World} (h : Fr S w w') {p : Addr} (hp : p.block < w.heap.size) (hn : ¬ S p.block) : w'.cell? p = w.cell? p := World.cell?_of_block (h.block _ hp hn)

theorem ret_boolE {a b : Bool} (h : a = b) : Ending.returned (.bool a) = .returned (.bool b) := by rw [h]
theorem ret_int {k : IntKind} {a b : Int} (h : a = b) : Ending.returned (.int k a) = .returned (.int k b) := by rw [h]

/-! ### A block that is known whole -/
def Blk (w : World) (g : Nat) (t : TypeId) (cs : Array Value) : Prop := w.heap[g]? = some (.cells cs t (0, 0))
theorem Blk.lt {w : World} {g : Nat} {t : TypeId} {cs : Array Value} (h : Blk w g t cs) : g < w.heap.size := (Array.getElem?_eq_some_iff.1 h).1
theorem Blk.cell {w : World} {g : Nat} {t : TypeId} {cs : Array Value} (h : Blk w g t cs) (i : Nat) : w.cell? ⟨g, i, none⟩ = cs[i]? := cell_of_row w g i cs t (0, 0) h
theorem Blk.frozen {w : World} {g : Nat} {t : TypeId} {cs : Array Value} (h : Blk w g t cs) (i : Nat) : w.frozen? ⟨g, i, none⟩ = false := by
  unfold Blk at h; simp [World.frozen?, h]
theorem Blk.new (w : World) (t : TypeId) (cs : Array Value) : Blk (w.alloc (.cells cs t)) w.heap.size t cs := heap_alloc_new w _
theorem Blk.fr {S : Nat → Prop} {w w' : World} {g : Nat} {t : TypeId} {cs : Array Value} (h : Blk w g t cs) (hf : Fr S w w') (hn : ¬ S g) : Blk w' g t cs := (hf.block g h.lt hn).trans h
theorem Blk.set {w : World} {g : Nat} {t : TypeId} {cs : Array Value} (h : Blk w g t cs) (i : Nat) (u : Value) : Blk (w.setCell ⟨g, i, none⟩ u) g t (cs.setIfInBounds i u) := by
  unfold Blk at h ⊢; simp [World.setCell, Array.getElem?_modify, h]
theorem Blk.drew {w : World} {g : Nat} {t : TypeId} {cs : Array Value} (h : Blk w g t cs) : Blk w.drew g t cs := h
/-! ### Bytes -/
def bv (b : UInt8) : Value := .int .u8 b.toNat
theorem add_block (a : Addr) (n : Nat) : (a.add n).block = a.block := by unfold Addr.add; split <;> rfl
theorem add_add (a : Addr) (i j : Nat) : (a.add i).add j = a.add (i + j) := by
  unfold Addr.add
  by_cases hi : i = 0 <;> by_cases hj : j = 0 <;> simp [hi, hj, Nat.add_assoc]

/-- the slice v reads as the bytes l -/
def Bs (w : World) (v : Value) (l : List UInt8) : Prop :=
  ∃ A c, v = .slice A l.length c ∧ l.length ≤ c ∧ (A = none → c = 0) ∧ ∀ a, A = some a → ∀ j (h : j < l.length), w.cell? (a.add j) = some (bv l[j])

theorem Bs.nil_ (w : World) : Bs w (.slice none 0 0) [] := ⟨none, 0, rfl, Nat.le_refl _, fun _ => rfl, fun _ h => by cases h⟩
theorem Bs.keep {w w' : World} {v : Value} {l : List UInt8} (h : Bs w v l) (hk : ∀ k, v.ownBlock = some k → k < w.heap.size → w'.heap[k]? = w.heap[k]?) : Bs w' v l := by
  obtain ⟨A, c, rfl, h1, h2, h3⟩ := h
  refine ⟨A, c, rfl, h1, h2, fun a ha j hj => ?_⟩
  have := h3 a ha j hj
  subst ha
  have hb := World.block_lt_of_cell? w _ this
  rw [add_block] at hb
  rw [← this]
  exact World.cell?_of_block (by rw [add_block]; exact hk _ rfl hb)
theorem Bs.fr {S : Nat → Prop} {w w' : World} {v : Value} {l : List UInt8} (h : Bs w v l) (hf : Fr S w w') (hn : ∀ k, v.ownBlock = some k → ¬ S k) : Bs w' v l :=
  h.keep fun k hk hlt => hf.block k hlt (hn k hk)
theorem Bs.non {w w' : World} {v : Value} {l : List UInt8} (h : Bs w v l) (hf : Fr Non w w') : Bs w' v l := h.fr hf fun _ _ e => e
theorem Bs.drew {w : World} {v : Value} {l : List UInt8} (h : Bs w v l) : Bs w.drew v l := h
theorem Bs.shape {w : World} {v : Value} {l : List UInt8} (h : Bs w v l) : ∃ A c, v = .slice A l.length c := by
  obtain ⟨A, c, rfl, _⟩ := h; exact ⟨A, c, rfl⟩

/-- bytes that the call owns: a row of its own, from block B on -/
def Own (w : World) (B : Nat) (v : Value) (l : List UInt8) : Prop := w.ownsRow B 5 1 v l.length (l.map bv)
theorem Own.lt {w : World} {B : Nat} {v : Value} {l : List UInt8} (h : Own w B v l) : ∀ k, v.ownBlock = some k → B ≤ k ∧ k < w.heap.size := World.ownsRow.lt h
theorem Own.bs {w : World} {B : Nat} {v : Value} {l : List UInt8} (h : Own w B v l) : Bs w v l := by
  rcases h.2 with ⟨rfl, h0⟩ | ⟨g, cap, cur, rfl, _, _, hle, _, _, _⟩
  · have hl : l = [] := List.eq_nil_of_length_eq_zero h0
    subst hl; exact Bs.nil_ w
  · refine ⟨_, cap, rfl, hle, (fun h => by cases h), fun a ha j hj => ?_⟩
    cases ha
    exact World.ownsRow.cells h (g := g) rfl j _ (by simp [hj])
theorem Own.keep {w w' : World} {B : Nat} {v : Value} {l : List UInt8} (h : Own w B v l) (hk : ∀ k, v.ownBlock = some k → w'.heap[k]? = w.heap[k]?) : Own w' B v l := by
  refine ⟨h.1, ?_⟩
  rcases h.2 with h2 | ⟨g, cap, cur, hv, hb, hg, r⟩
  · exact .inl h2
  · exact .inr ⟨g, cap, cur, hv, hb, by rw [hk g (by rw [hv]; rfl)]; exact hg, r⟩
theorem Own.fr {S : Nat → Prop} {w w' : World} {B : Nat} {v : Value} {l : List UInt8} (h : Own w B v l) (hf : Fr S w w') (hn : ∀ k, v.ownBlock = some k → ¬ S k) : Own w' B v l :=
  h.keep fun k hk => hf.block k (h.lt k hk).2 (hn k hk)
theorem Own.non {w w' : World} {B : Nat} {v : Value} {l : List UInt8} (h : Own w B v l) (hf : Fr Non w w') : Own w' B v l := h.fr hf fun _ _ e => e
theorem Own.alloc {w : World} {B : Nat} {v : Value} {l : List UInt8} (h : Own w B v l) (o : Obj) : Own (w.alloc o) B v l := h.non ((Fr.refl _ _).alloc o)
theorem Own.mono {w : World} {B B' : Nat} {v : Value} {l : List UInt8} (h : Own w B v l) (hB : B' ≤ B) : Own w B' v l := by
  refine ⟨h.1, ?_⟩
  rcases h.2 with h2 | ⟨g, cap, cur, hv, hb, r⟩
  · exact .inl h2
  · exact .inr ⟨g, cap, cur, hv, by omega, r⟩

theorem Own.row {w : World} {B : Nat} {v : Value} {l : List UInt8} (h : Own w B v l) (hn : l ≠ []) : ∃ g cap, v = .slice (some ⟨g, 0, none⟩) l.length cap ∧ B ≤ g ∧ g < w.heap.size ∧ l.length ≤ cap ∧ cap ≤ maxLen := by
  rcases h.2 with ⟨rfl, h0⟩ | ⟨g, cap, cur, rfl, hb, hg, hle, hm, _⟩
  · exact absurd (List.eq_nil_of_length_eq_zero h0) hn
  · exact ⟨g, cap, rfl, hb, (Array.getElem?_eq_some_iff.1 hg).1, hle, hm⟩
theorem Own.cell {w : World} {B g n cap : Nat} {l : List UInt8} (h : Own w B (.slice (some ⟨g, 0, none⟩) n cap) l) (hn : n = l.length) (j : Nat) (b : UInt8) (hb : l[j]? = some b) : w.cell? ⟨g, j, none⟩ = some (.int .u8 b.toNat) := by
  subst hn
  have hj : j < l.length := (List.getElem?_eq_some_iff.1 hb).1
  rw [World.ownsRow.cellAt h j (by omega), List.getElem?_map, hb]; rfl
theorem Own.frozen {w : World} {B g n cap : Nat} {l : List UInt8} (h : Own w B (.slice (some ⟨g, 0, none⟩) n cap) l) (hn : n = l.length) (j : Nat) : w.frozen? ⟨g, j, none⟩ = false := by
  subst hn; exact World.ownsRow.frozenAt h j
theorem Own.drew {w : World} {B : Nat} {v : Value} {l : List UInt8} (h : Own w B v l) : Own w.drew B v l := h

/-! ### A slice of slices of bytes -/
def Bss (w : World) (v : Value) (ls : List (List UInt8)) : Prop :=
  ∃ A c, v = .slice A ls.length c ∧ ls.length ≤ c ∧ (A = none → c = 0) ∧ ∀ a, A = some a → ∀ j (h : j < ls.length), ∃ u, w.cell? (a.add j) = some u ∧ Bs w u ls[j]
theorem Bss.non {w w' : World} {v : Value} {ls : List (List UInt8)} (h : Bss w v ls) (hf : Fr Non w w') : Bss w' v ls := by
  obtain ⟨A, c, rfl, h1, h2, h3⟩ := h
  refine ⟨A, c, rfl, h1, h2, fun a ha j hj => ?_⟩
  obtain ⟨u, hu, hb⟩ := h3 a ha j hj
  exact ⟨u, by rw [← hu]; exact hf.cell (World.block_lt_of_cell? w _ hu) (fun e => e), hb.non hf⟩
/-! ### Pieces of a slice of bytes -/
end Go.Proofs.Ytincapmagennmaa


namespace Go.Proofs.Ytincapmagennmaa
set_option linter.unusedVariables false
set_option linter.unusedSimpArgs false
set_option maxRecDepth 100000

abbrev Tx := List UInt8

theorem bless : ∀ (x y : Tx), Op.bytesLess x y = decide (x < y)
  | x, [] => by cases x <;> simp [Op.bytesLess]
  | [], b :: y => by simp [Op.bytesLess]
  | a :: x, b :: y => by
    rw [Op.bytesLess, bless x y, Bool.eq_iff_iff]
    simp [List.cons_lt_cons_iff]

/-- ahead, the same, behind: of texts, and of numbers -/
def cmpT (x y : Tx) : Int := if x < y then -1 else if y < x then 1 else 0
def cmpI (x y : Int) : Int := if x < y then -1 else if y < x then 1 else 0
theorem tx_tri (x y : Tx) : x < y ∨ x = y ∨ y < x := by
  by_cases h1 : x < y
  · exact .inl h1
  · by_cases h2 : y < x
    · exact .inr (.inr h2)
    · exact .inr (.inl (List.le_antisymm (List.not_lt.1 h2) (List.not_lt.1 h1)))
theorem cmpT_lt {x y : Tx} (h : x < y) : cmpT x y = -1 := by unfold cmpT; rw [if_pos h]
theorem cmpT_gt {x y : Tx} (h : y < x) : cmpT x y = 1 := by
  unfold cmpT; rw [if_neg (fun e => List.lt_irrefl x (List.lt_trans e h)), if_pos h]
theorem cmpT_self (x : Tx) : cmpT x x = 0 := by unfold cmpT; rw [if_neg (List.lt_irrefl x), if_neg (List.lt_irrefl x)]
theorem cmpT_neg (x y : Tx) : cmpT y x = -cmpT x y := by
  rcases tx_tri x y with h | h | h
  · rw [cmpT_lt h, cmpT_gt h]; rfl
  · subst h; rw [cmpT_self]; rfl
  · rw [cmpT_lt h, cmpT_gt h]
theorem cmpT_zero {x y : Tx} : cmpT x y = 0 ↔ x = y := by
  rcases tx_tri x y with h | h | h
  · rw [cmpT_lt h]; exact ⟨fun e => by omega, fun e => absurd (e ▸ h) (List.lt_irrefl _)⟩
  · subst h; simp [cmpT_self]
  · rw [cmpT_gt h]; exact ⟨fun e => by omega, fun e => absurd (e ▸ h) (List.lt_irrefl _)⟩
theorem cmpT_le {x y : Tx} : cmpT x y ≤ 0 ↔ ¬ y < x := by
  rcases tx_tri x y with h | h | h
  · rw [cmpT_lt h]; exact ⟨fun _ e => List.lt_irrefl x (List.lt_trans h e), fun _ => by omega⟩
  · subst h; simp [cmpT_self, List.lt_irrefl]
  · rw [cmpT_gt h]; simp [h]
theorem cmpT_trans {x y z : Tx} (h1 : cmpT x y ≤ 0) (h2 : cmpT y z ≤ 0) : cmpT x z ≤ 0 := by
  rw [cmpT_le] at *
  exact fun h => h2 (by
    rcases tx_tri x y with h3 | h3 | h3
    · exact List.lt_trans h h3
    · subst h3; exact h
    · exact absurd h3 h1)
end Go.Proofs.Ytincapmagennmaa


namespace Go.Proofs.Ytincapmagennmaa
set_option linter.unusedVariables false
set_option linter.unusedSimpArgs false
set_option maxRecDepth 100000
open Go.RowKit

/-- a cell: null or not, its number, its text -/
structure Cl where
  null : Bool
  num : Int
  txt : List UInt8
  deriving DecidableEq
/-- its cells, and its value -/
def clC (c : Cl) : Array Value := #[.bool c.null, .int .i64 c.num, .string ⟨c.txt.toArray⟩]
def clV (c : Cl) : Value := .agg (clC c)
/-- are two the same? -/
def ceq (a b : Cl) : Bool := decide (a = b)
theorem ceq_self (a : Cl) : ceq a a = true := by simp [ceq]
theorem ceq_is {a b : Cl} (h : ceq a b = true) : a = b := by simpa [ceq] using h
theorem eq_parts (a b : Cl) : ceq a b = (a.null == b.null && (a.num == b.num && a.txt == b.txt)) := by
  obtain ⟨an, ai, at_⟩ := a
  obtain ⟨bn, bi, bt⟩ := b
  unfold ceq
  rw [Bool.eq_iff_iff]
  simp

theorem run_neq_cl (W : World) (a b : Cl) : (binOp .neq 26 (.agg #[.bool a.null, .int .i64 a.num, .string ⟨a.txt.toArray⟩]) (.agg #[.bool b.null, .int .i64 b.num, .string ⟨b.txt.toArray⟩])).run Try.prog W = .ok (.bool (!ceq a b)) W := by
  rw [eq_parts]
  obtain ⟨an, ai, at_⟩ := a
  obtain ⟨bn, bi, bt⟩ := b
  go_simp
  by_cases h1 : an = bn <;> by_cases h2 : ai = bi <;> by_cases h3 : at_ = bt <;> simp [h1, h2, h3]

theorem slen (l : List UInt8) : ByteArray.size ⟨l.toArray⟩ = l.length := by simp [ByteArray.size]
end Go.Proofs.Ytincapmagennmaa


namespace Go.Proofs.Ytincapmagennmaa
set_option linter.unusedVariables false
set_option linter.unusedSimpArgs false
set_option maxRecDepth 100000
open Go.RowKit

theorem nani_any (x : Int) (w : World) : Calls Try.prog 29 #[.int .i64 x] w fun e w' => e = .returned (.bool false) ∧ w = w' := by
  have h : (x != x) = false := by simp
  go_enter Try.func29, Try.ntmps29
  go_wp2
  go_ret
  exact ⟨ret_boolE (by simp), rfl⟩
theorem nant_any (x : Tx) (w : World) : Calls Try.prog 30 #[.string ⟨x.toArray⟩] w fun e w' => e = .returned (.bool false) ∧ w = w' := by
  go_enter Try.func30, Try.ntmps30
  go_wp2
  go_ret
  exact ⟨ret_boolE (by simp), rfl⟩

theorem cmpi_any (x y : Int) (w : World) : Calls Try.prog 27 #[.int .i64 x, .int .i64 y] w fun e w' => e = .returned (.int .i64 (cmpI x y)) ∧ w = w' := by
  go_enter Try.func27, Try.ntmps27
  go_wp2_with fail
  refine (nani_any x w).mono ?_
  rintro e w1 ⟨rfl, rfl⟩
  go_wp2_with fail
  refine (nani_any y w).mono ?_
  rintro e w1 ⟨rfl, rfl⟩
  go_wp2
  all_goals
    go_ret
    exact ⟨ret_int (by unfold cmpI; first | (rw [if_pos (by omega)]; done) | (rw [if_neg (by omega), if_pos (by omega)]; done) | (rw [if_neg (by omega), if_neg (by omega)]; done)), rfl⟩

/-- Go's '<' both ways, decided -/
theorem less_lt {x y : Tx} (h : x < y) : Op.bytesLess x y = true := by rw [bless]; simpa using h
theorem less_gt {x y : Tx} (h : y < x) : Op.bytesLess x y = false ∧ (x == y) = false := by
  refine ⟨by rw [bless]; simpa using fun e => List.lt_irrefl x (List.lt_trans e h), beq_eq_false_iff_ne.2 fun e => ?_⟩
  subst e; exact List.lt_irrefl x h
theorem less_self (x : Tx) : Op.bytesLess x x = false := by rw [bless]; simp

theorem cmpt_any (x y : Tx) (w : World) : Calls Try.prog 28 #[.string ⟨x.toArray⟩, .string ⟨y.toArray⟩] w fun e w' => e = .returned (.int .i64 (cmpT x y)) ∧ w = w' := by
  rcases tx_tri x y with hl | hl | hl
  · have h1 := less_lt hl
    have H := Lib.hid (cmpT_lt hl)
    clear hl
    go_enter Try.func28, Try.ntmps28
    go_wp2_with fail
    refine (nant_any x w).mono ?_
    rintro e w1 ⟨rfl, rfl⟩
    go_wp2_with fail
    refine (nant_any y w).mono ?_
    rintro e w1 ⟨rfl, rfl⟩
    go_wp2
    go_ret
    exact ⟨ret_int (by rw [H.out]), rfl⟩
  · subst hl
    have h1 := less_self x
    have H := Lib.hid (cmpT_self x)
    go_enter Try.func28, Try.ntmps28
    go_wp2_with fail
    refine (nant_any x w).mono ?_
    rintro e w1 ⟨rfl, rfl⟩
    go_wp2_with fail
    refine (nant_any x w).mono ?_
    rintro e w1 ⟨rfl, rfl⟩
    go_wp2
    go_ret
    exact ⟨ret_int (by rw [H.out]), rfl⟩
  · obtain ⟨h1, h2⟩ := less_gt hl
    have H := Lib.hid (cmpT_gt hl)
    clear hl
    go_enter Try.func28, Try.ntmps28
    go_wp2_with fail
    refine (nant_any x w).mono ?_
    rintro e w1 ⟨rfl, rfl⟩
    go_wp2_with fail
    refine (nant_any y w).mono ?_
    rintro e w1 ⟨rfl, rfl⟩
    go_wp2
    go_ret
    exact ⟨ret_int (by rw [H.out]), rfl⟩

/-! ### The order -/
def ordC (a b : Cl) : Int := if a.null && !b.null then -1 else if b.null && !a.null then 1 else if a.num = b.num then cmpT a.txt b.txt else cmpI a.num b.num
theorem cmpI_lt {x y : Int} (h : x < y) : cmpI x y = -1 := by unfold cmpI; rw [if_pos h]
theorem cmpI_gt {x y : Int} (h : y < x) : cmpI x y = 1 := by unfold cmpI; rw [if_neg (by omega), if_pos h]
theorem ordC_null {a b : Cl} (h : a.null = b.null) : ordC a b = if a.num = b.num then cmpT a.txt b.txt else cmpI a.num b.num := by
  unfold ordC
  cases ha : a.null <;> rw [ha] at h <;> simp [← h]
theorem ordC_mk (n : Bool) (i j : Int) (s t : Tx) : ordC ⟨n, i, s⟩ ⟨n, j, t⟩ = if i = j then cmpT s t else cmpI i j := ordC_null (a := ⟨n, i, s⟩) (b := ⟨n, j, t⟩) rfl
theorem ordC_tf {a b : Cl} (h : a.null = true) (h' : b.null = false) : ordC a b = -1 := by unfold ordC; rw [h, h']; rfl
theorem ordC_ft {a b : Cl} (h : a.null = false) (h' : b.null = true) : ordC a b = 1 := by unfold ordC; rw [h, h']; rfl
theorem ordC_neg (a b : Cl) : ordC b a = -ordC a b := by
  cases ha : a.null <;> cases hb : b.null
  · rw [ordC_null (ha.trans hb.symm), ordC_null (hb.trans ha.symm)]
    by_cases h : a.num = b.num
    · rw [if_pos h, if_pos h.symm, cmpT_neg]
    · rw [if_neg h, if_neg (fun e => h e.symm)]
      unfold cmpI
      split <;> split <;> first | rfl | omega | (split <;> first | rfl | omega)
  · rw [ordC_ft ha hb, ordC_tf hb ha]
  · rw [ordC_tf ha hb, ordC_ft hb ha]; rfl
  · rw [ordC_null (ha.trans hb.symm), ordC_null (hb.trans ha.symm)]
    by_cases h : a.num = b.num
    · rw [if_pos h, if_pos h.symm, cmpT_neg]
    · rw [if_neg h, if_neg (fun e => h e.symm)]
      unfold cmpI
      split <;> split <;> first | rfl | omega | (split <;> first | rfl | omega)
theorem cmpI_zero {x y : Int} (h : cmpI x y = 0) : x = y := by
  unfold cmpI at h
  split at h
  · omega
  · split at h <;> omega
theorem ordC_zero (a b : Cl) : (ordC a b == 0) = ceq a b := by
  rw [Bool.eq_iff_iff, beq_iff_eq]
  obtain ⟨an, ai, at_⟩ := a
  obtain ⟨bn, bi, bt⟩ := b
  simp only [ceq, decide_eq_true_eq, Cl.mk.injEq]
  cases an <;> cases bn
  · rw [ordC_mk]
    by_cases h : ai = bi
    · simp only [h, if_true]; rw [cmpT_zero]; simp
    · simp only [h, if_false]
      exact ⟨fun e => absurd (cmpI_zero e) h, fun e => absurd e.2.1 (by simp)⟩
  · rw [ordC_ft rfl rfl]; simp
  · rw [ordC_tf rfl rfl]; simp
  · rw [ordC_mk]
    by_cases h : ai = bi
    · simp only [h, if_true]; rw [cmpT_zero]; simp
    · simp only [h, if_false]
      exact ⟨fun e => absurd (cmpI_zero e) h, fun e => absurd e.2.1 (by simp)⟩
theorem cmpI_le {x y : Int} : cmpI x y ≤ 0 ↔ x ≤ y := by
  unfold cmpI
  split
  · omega
  · split <;> omega
theorem ordC_trans {a b c : Cl} (h1 : ordC a b ≤ 0) (h2 : ordC b c ≤ 0) : ordC a c ≤ 0 := by
  have step : ∀ {a b c : Cl}, a.null = b.null → b.null = c.null → ordC a b ≤ 0 → ordC b c ≤ 0 → ordC a c ≤ 0 := by
    intro a b c hab hbc h1 h2
    rw [ordC_null hab] at h1
    rw [ordC_null hbc] at h2
    rw [ordC_null (hab.trans hbc)]
    by_cases e1 : a.num = b.num <;> by_cases e2 : b.num = c.num
    · rw [if_pos e1] at h1; rw [if_pos e2] at h2; rw [if_pos (e1.trans e2)]; exact cmpT_trans h1 h2
    · rw [if_neg e2] at h2
      rw [if_neg (fun e => e2 (e1 ▸ e)), e1]; exact h2
    · rw [if_neg e1] at h1
      rw [if_neg (fun e => e1 (e.trans e2.symm)), ← e2]; exact h1
    · rw [if_neg e1, cmpI_le] at h1
      rw [if_neg e2, cmpI_le] at h2
      rw [if_neg (by omega), cmpI_le]; omega
  cases ha : a.null <;> cases hb : b.null <;> cases hc : c.null
  · exact step (ha.trans hb.symm) (hb.trans hc.symm) h1 h2
  · rw [ordC_ft hb hc] at h2; omega
  · rw [ordC_ft ha hb] at h1; omega
  · rw [ordC_ft ha hb] at h1; omega
  · rw [ordC_tf ha hc]; omega
  · rw [ordC_ft hb hc] at h2; omega
  · rw [ordC_tf ha hc]; omega
  · exact step (ha.trans hb.symm) (hb.trans hc.symm) h1 h2
set_option maxHeartbeats 1000000 in
theorem order_any (a b : Cl) (w : World) : Calls Try.prog 25 #[clV a, clV b] w fun e w' => e = .returned (.int .i64 (ordC a b)) ∧ Fr Non w w' := by
  obtain ⟨an, ai, at_⟩ := a
  obtain ⟨bn, bi, bt⟩ := b
  unfold clV clC
  cases an <;> cases bn
  case false.true =>
    go_enter Try.func25, Try.ntmps25
    go_wp2
    go_ret
    exact ⟨rfl, ((Fr.refl _ _).alloc _).alloc _⟩
  case true.false =>
    go_enter Try.func25, Try.ntmps25
    go_wp2
    go_ret
    exact ⟨rfl, ((Fr.refl _ _).alloc _).alloc _⟩
  all_goals
    by_cases h : ai = bi
    · have HI := Lib.hid h
      have hb : (ai != bi) = false := by rw [h]; simp
      clear h
      go_enter Try.func25, Try.ntmps25
      go_wp2_with fail
      refine (cmpt_any at_ bt _).mono ?_
      rintro e w1 ⟨rfl, rfl⟩
      go_wp2
      go_ret
      exact ⟨ret_int (by rw [ordC_mk]; exact (if_pos HI.out).symm), ((Fr.refl _ _).alloc _).alloc _⟩
    · have HI := Lib.hid h
      have hb : (ai != bi) = true := by simpa using h
      clear h
      go_enter Try.func25, Try.ntmps25
      go_wp2_with fail
      refine (cmpi_any ai bi _).mono ?_
      rintro e w1 ⟨rfl, rfl⟩
      go_wp2
      go_ret
      exact ⟨ret_int (by rw [ordC_mk]; exact (if_neg HI.out).symm), ((Fr.refl _ _).alloc _).alloc _⟩

theorem ordC_of_lt {n : Bool} {i j : Int} {s t : Tx} (h : i < j) : ordC ⟨n, i, s⟩ ⟨n, j, t⟩ = -1 := by
  rw [ordC_mk]; simp only [show ¬ i = j by omega, if_false]; exact cmpI_lt h
theorem ordC_of_gt {n : Bool} {i j : Int} {s t : Tx} (h : j < i) : ordC ⟨n, i, s⟩ ⟨n, j, t⟩ = 1 := by
  rw [ordC_mk]; simp only [show ¬ i = j by omega, if_false]; exact cmpI_gt h
theorem ordC_of_eq {n : Bool} {i : Int} {s t : Tx} : ordC ⟨n, i, s⟩ ⟨n, i, t⟩ = cmpT s t := by rw [ordC_mk]; simp

set_option maxHeartbeats 1000000 in
theorem rorder_any (a b : Cl) (w : World) : Calls Try.prog 16 #[clV a, clV b] w fun e w' => e = .returned (.int .i64 (ordC a b)) ∧ Fr Non w w' := by
  obtain ⟨an, ai, at_⟩ := a
  obtain ⟨bn, bi, bt⟩ := b
  unfold clV clC
  cases an <;> cases bn
  case false.true =>
    go_enter Try.func16, Try.ntmps16
    go_wp2
    go_ret
    exact ⟨rfl, ((Fr.refl _ _).alloc _).alloc _⟩
  case true.false =>
    go_enter Try.func16, Try.ntmps16
    go_wp2
    go_ret
    exact ⟨rfl, ((Fr.refl _ _).alloc _).alloc _⟩
  all_goals
    rcases Int.lt_trichotomy ai bi with h | h | h
    · go_enter Try.func16, Try.ntmps16
      go_wp2
      go_ret
      exact ⟨ret_int (ordC_of_lt h).symm, ((Fr.refl _ _).alloc _).alloc _⟩
    · subst h
      rcases tx_tri at_ bt with hl | hl | hl
      · have h1 := less_lt hl
        have H := Lib.hid (cmpT_lt hl)
        clear hl
        go_enter Try.func16, Try.ntmps16
        go_wp2
        go_ret
        exact ⟨ret_int (by rw [ordC_of_eq, H.out]), ((Fr.refl _ _).alloc _).alloc _⟩
      · subst hl
        have h1 := less_self at_
        have H := Lib.hid (cmpT_self at_)
        go_enter Try.func16, Try.ntmps16
        go_wp2
        go_ret
        exact ⟨ret_int (by rw [ordC_of_eq, H.out]), ((Fr.refl _ _).alloc _).alloc _⟩
      · obtain ⟨h1, h2⟩ := less_gt hl
        have H := Lib.hid (cmpT_gt hl)
        clear hl
        go_enter Try.func16, Try.ntmps16
        go_wp2
        go_ret
        exact ⟨ret_int (by rw [ordC_of_eq, H.out]), ((Fr.refl _ _).alloc _).alloc _⟩
    · go_enter Try.func16, Try.ntmps16
      go_wp2
      go_ret
      exact ⟨ret_int (ordC_of_gt h).symm, ((Fr.refl _ _).alloc _).alloc _⟩
end Go.Proofs.Ytincapmagennmaa


namespace Go.Proofs.Ytincapmagennmaa
set_option linter.unusedVariables false
set_option linter.unusedSimpArgs false
set_option maxRecDepth 100000
open Go.RowKit

/-- the cell c lies in block g -/
abbrev ClB (w : World) (g : Nat) (c : Cl) : Prop := Blk w g 26 #[.bool c.null, .int .i64 c.num, .string ⟨c.txt.toArray⟩]
/-- what a walk asks of it -/
theorem ClB.facts {w : World} {g : Nat} {c : Cl} (h : ClB w g c) :
    w.cell? ⟨g, 0, none⟩ = some (.bool c.null) ∧ w.cell? ⟨g, 1, none⟩ = some (.int .i64 c.num) ∧ w.cell? ⟨g, 2, none⟩ = some (.string ⟨c.txt.toArray⟩) ∧
    w.frozen? ⟨g, 0, none⟩ = false ∧ w.frozen? ⟨g, 1, none⟩ = false ∧ w.frozen? ⟨g, 2, none⟩ = false :=
  ⟨h.cell 0, h.cell 1, h.cell 2, h.frozen 0, h.frozen 1, h.frozen 2⟩
/-- a cell stored whole, as a walk spells it -/
def setCl (w : World) (g : Nat) (n : Bool) (i : Int) (t : List UInt8) : World := ((w.setCell ⟨g, 0, none⟩ (.bool n)).setCell ⟨g, 1, none⟩ (.int .i64 i)).setCell ⟨g, 2, none⟩ (.string ⟨t.toArray⟩)
theorem setCl_B {w : World} {g : Nat} {c : Cl} (h : ClB w g c) (n : Bool) (i : Int) (t : List UInt8) : ClB (setCl w g n i t) g ⟨n, i, t⟩ := ((h.set 0 _).set 1 _).set 2 _
theorem setCl_fr (w : World) (g : Nat) (n : Bool) (i : Int) (t : List UInt8) : Fr (One g) w (setCl w g n i t) := (((Fr.refl (One g) w).set1 0 _).set1 1 _).set1 2 _
/-- a call's end where its one result is a cell in a block -/
theorem ret_cl {fn : Func} {p : Tmp} (h : fn.results = #[.cell p 26]) (tmps : Array Value) (w : World) (g : Nat) (c : Cl)
    (hp : tmps.getD p undef = .pointer (some ⟨g, 0, none⟩)) (hg : ClB w g c) : (results fn tmps).run Try.prog w = .ok (clV c) w :=
  results_cell_row h tmps w g 26 _ (0, 0) _ hp hg Try.underlying26 rfl (by kernel_rfl)
theorem cl_new (w : World) (c : Cl) : ClB (w.alloc (.cells #[.bool c.null, .int .i64 c.num, .string ⟨c.txt.toArray⟩] 26)) w.heap.size c := Blk.new _ _ _
end Go.Proofs.Ytincapmagennmaa


namespace Go.Proofs.Ytincapmagennmaa
set_option linter.unusedVariables false
set_option linter.unusedSimpArgs false
set_option maxRecDepth 100000
open Go.RowKit

def noCl : Cl := ⟨false, 0, []⟩
/-! ### Which zones there may be -/
end Go.Proofs.Ytincapmagennmaa


namespace Go.Proofs.Ytincapmagennmaa
set_option linter.unusedVariables false
set_option linter.unusedSimpArgs false
set_option maxRecDepth 100000
open Go.RowKit

def liveC (l : List Cl) : List Cl := l.filter (fun c => !c.null)
theorem liveC_app (l m : List Cl) : liveC (l ++ m) = liveC l ++ liveC m := by simp [liveC]
theorem liveC_null {c : Cl} (h : c.null = true) : liveC [c] = [] := by simp [liveC, h]
theorem liveC_one {c : Cl} (h : c.null = false) : liveC [c] = [c] := by simp [liveC, h]
/-- lo and hi are the least and the greatest of l -/
def Bnds (l : List Cl) (lo hi : Cl) : Prop := (l = [] ∧ lo = noCl ∧ hi = noCl) ∨ (lo ∈ l ∧ hi ∈ l ∧ ∀ c ∈ l, ordC lo c ≤ 0 ∧ ordC c hi ≤ 0)
theorem ordC_self (a : Cl) : ordC a a = 0 := by
  have := ordC_zero a a
  rw [ceq_self] at this; simpa using this
theorem ordC_asym {a b : Cl} (h1 : ordC a b ≤ 0) (h2 : ordC b a ≤ 0) : a = b := by
  rw [ordC_neg a b] at h2
  have := ordC_zero a b
  rw [show ordC a b = 0 by omega] at this
  exact ceq_is this.symm
theorem bnds_uniq {l : List Cl} {lo hi lo' hi' : Cl} (h : Bnds l lo hi) (h' : Bnds l lo' hi') : lo = lo' ∧ hi = hi' := by
  rcases h with ⟨e, h1, h2⟩ | ⟨h1, h2, h3⟩
  · rcases h' with ⟨_, h1', h2'⟩ | ⟨h1', _, _⟩
    · exact ⟨h1.trans h1'.symm, h2.trans h2'.symm⟩
    · rw [e] at h1'; cases h1'
  · rcases h' with ⟨e, _, _⟩ | ⟨h1', h2', h3'⟩
    · rw [e] at h1; cases h1
    · exact ⟨ordC_asym (h3 _ h1').1 (h3' _ h1).1, ordC_asym (h3' _ h2).2 (h3 _ h2').2⟩
theorem bnds_step {l : List Cl} {lo hi : Cl} (h : Bnds l lo hi) (c : Cl) :
    Bnds (l ++ [c]) (if (l.isEmpty || decide (ordC c lo < 0)) = true then c else lo) (if (l.isEmpty || decide (0 < ordC c hi)) = true then c else hi) := by
  rcases h with ⟨rfl, _, _⟩ | ⟨h1, h2, h3⟩
  · right
    simp [ordC_self]
  · right
    have he : l.isEmpty = false := by cases l with
      | nil => cases h1
      | cons _ _ => rfl
    rw [he]
    simp only [Bool.false_or, decide_eq_true_eq]
    refine ⟨?_, ?_, ?_⟩
    · split <;> simp [h1]
    · split <;> simp [h2]
    · intro d hd
      rw [List.mem_append, List.mem_singleton] at hd
      have n1 := ordC_neg c lo
      have n2 := ordC_neg c hi
      rcases hd with hd | rfl
      · obtain ⟨q1, q2⟩ := h3 d hd
        constructor
        · split
          · exact ordC_trans (by omega) q1
          · exact q1
        · split
          · exact ordC_trans q2 (by omega)
          · exact q2
      · constructor
        · split
          · exact Int.le_of_eq (ordC_self _)
          · omega
        · split
          · exact Int.le_of_eq (ordC_self _)
          · omega

/-! ### What follows -/
end Go.Proofs.Ytincapmagennmaa


namespace Go.Proofs.Ytincapmagennmaa
set_option linter.unusedVariables false
set_option linter.unusedSimpArgs false
set_option maxRecDepth 100000

/-- int64's wrap -/
def w6 (n : Int) : Int := (n + 9223372036854775808) % 18446744073709551616 - 9223372036854775808
end Go.Proofs.Ytincapmagennmaa


namespace Go.Proofs.Ytincapmagennmaa
set_option linter.unusedVariables false
set_option linter.unusedSimpArgs false
set_option maxRecDepth 100000
open Go.RowKit

theorem w6_add (a b : Int) : w6 (w6 a + b) = w6 (a + b) := by unfold w6; omega
theorem w6_add2 (a b : Int) : w6 (a + w6 b) = w6 (a + b) := by unfold w6; omega
theorem w6_two (a b : Int) : w6 (w6 a + w6 b) = w6 (a + b) := by rw [w6_add, w6_add2]
/-- the sum of the numbers -/
def totC : List Cl → Int
  | [] => 0
  | c :: l => c.num + totC l
theorem totC_app (l m : List Cl) : totC (l ++ m) = totC l + totC m := by
  induction l with
  | nil => simp [totC]
  | cons c l ih => rw [List.cons_append, totC, totC, ih]; omega
theorem totC_one (c : Cl) : totC [c] = c.num := by simp [totC]
/-- what is known of cells -/
structure Fo where
  cnt : Int
  has : Int
  sum : Int
  low : Cl
  high : Cl
  deriving DecidableEq
def noFo : Fo := ⟨0, 0, 0, noCl, noCl⟩
/-- s is what is known of l -/
structure FoOf (l : List Cl) (s : Fo) : Prop where
  cnt : s.cnt = l.length
  has : s.has = (liveC l).length
  sum : s.sum = w6 (totC (liveC l))
  bnds : Bnds (liveC l) s.low s.high
theorem foOf_nil : FoOf [] noFo := ⟨rfl, rfl, rfl, .inl ⟨rfl, rfl, rfl⟩⟩
theorem foOf_uniq {l : List Cl} {s t : Fo} (h : FoOf l s) (h' : FoOf l t) : s = t := by
  obtain ⟨e1, e2⟩ := bnds_uniq h.bnds h'.bnds
  have e3 := h.cnt.trans h'.cnt.symm
  have e4 := h.has.trans h'.has.symm
  have e5 := h.sum.trans h'.sum.symm
  obtain ⟨_, _, _, _, _⟩ := s
  obtain ⟨_, _, _, _, _⟩ := t
  dsimp only at *
  rw [e1, e2, e3, e4, e5]
/-- one more -/
def addF (s : Fo) (c : Cl) : Fo :=
  if c.null then ⟨s.cnt + 1, s.has, s.sum, s.low, s.high⟩
  else ⟨s.cnt + 1, s.has + 1, w6 (s.sum + c.num), if (decide (s.has = 0) || decide (ordC c s.low < 0)) = true then c else s.low, if (decide (s.has = 0) || decide (0 < ordC c s.high)) = true then c else s.high⟩
theorem empty_has {l : List Cl} {s : Fo} (h : FoOf l s) : (liveC l).isEmpty = decide (s.has = 0) := by
  rw [h.has, Bool.eq_iff_iff, List.isEmpty_iff, decide_eq_true_eq, ← List.length_eq_zero_iff]; omega
theorem foOf_add {l : List Cl} {s : Fo} (h : FoOf l s) (c : Cl) : FoOf (l ++ [c]) (addF s c) := by
  unfold addF
  cases hn : c.null
  · rw [if_neg (by simp)]
    refine ⟨?_, ?_, ?_, ?_⟩
    · rw [List.length_append]; dsimp only; rw [h.cnt]; simp
    · rw [liveC_app, liveC_one hn, List.length_append]; dsimp only; rw [h.has]; simp
    · rw [liveC_app, liveC_one hn, totC_app, totC_one]; dsimp only; rw [h.sum, w6_add]
    · rw [liveC_app, liveC_one hn]
      dsimp only
      rw [← empty_has h]
      exact bnds_step h.bnds c
  · rw [if_pos rfl]
    refine ⟨?_, ?_, ?_, ?_⟩
    · rw [List.length_append]; dsimp only; rw [h.cnt]; simp
    · rw [liveC_app, liveC_null hn, List.append_nil]; exact h.has
    · rw [liveC_app, liveC_null hn, List.append_nil]; exact h.sum
    · rw [liveC_app, liveC_null hn, List.append_nil]; exact h.bnds
/-- what is known of a list -/
def foC (l : List Cl) : Fo := l.foldl addF noFo
theorem foC_app (l : List Cl) (c : Cl) : foC (l ++ [c]) = addF (foC l) c := by unfold foC; rw [List.foldl_append]; rfl
theorem foC_from {l m : List Cl} {s : Fo} (h : FoOf l s) : FoOf (l ++ m) (m.foldl addF s) := by
  induction m generalizing l s with
  | nil => rw [List.append_nil]; exact h
  | cons c m ih =>
    rw [List.foldl_cons, show l ++ c :: m = (l ++ [c]) ++ m by simp]
    exact ih (foOf_add h c)
theorem foC_is (l : List Cl) : FoOf l (foC l) := foC_from (l := []) foOf_nil

/-- both's -/
def joinF (a b : Fo) : Fo :=
  ⟨a.cnt + b.cnt, a.has + b.has, w6 (a.sum + b.sum),
    if a.has = 0 then b.low else if b.has = 0 then a.low else if ordC b.low a.low < 0 then b.low else a.low,
    if a.has = 0 then b.high else if b.has = 0 then a.high else if 0 < ordC b.high a.high then b.high else a.high⟩
theorem bnds_mem {l : List Cl} {lo hi : Cl} (h : Bnds l lo hi) (hl : l ≠ []) : lo ∈ l ∧ hi ∈ l ∧ ∀ c ∈ l, ordC lo c ≤ 0 ∧ ordC c hi ≤ 0 := by
  rcases h with ⟨e, _, _⟩ | h
  · exact absurd e hl
  · exact h
theorem bnds_join {l m : List Cl} {a b c d : Cl} (h : Bnds l a b) (h' : Bnds m c d) (hl : l ≠ []) (hm : m ≠ []) : Bnds (l ++ m) (if ordC c a < 0 then c else a) (if 0 < ordC d b then d else b) := by
  obtain ⟨h1, h2, h3⟩ := bnds_mem h hl
  obtain ⟨k1, k2, k3⟩ := bnds_mem h' hm
  refine .inr ⟨?_, ?_, fun x hx => ⟨?_, ?_⟩⟩
  · split <;> simp [h1, k1]
  · split <;> simp [h2, k2]
  · have n1 := ordC_neg c a
    split
    · rename_i hc
      rcases List.mem_append.1 hx with hx | hx
      · exact ordC_trans (show ordC c a ≤ 0 by omega) (h3 x hx).1
      · exact (k3 x hx).1
    · rename_i hc
      rcases List.mem_append.1 hx with hx | hx
      · exact (h3 x hx).1
      · exact ordC_trans (show ordC a c ≤ 0 by omega) (k3 x hx).1
  · have n1 := ordC_neg d b
    split
    · rename_i hd
      rcases List.mem_append.1 hx with hx | hx
      · exact ordC_trans (h3 x hx).2 (show ordC b d ≤ 0 by omega)
      · exact (k3 x hx).2
    · rename_i hd
      rcases List.mem_append.1 hx with hx | hx
      · exact (h3 x hx).2
      · exact ordC_trans (k3 x hx).2 (show ordC d b ≤ 0 by omega)
theorem has_zero {l : List Cl} {s : Fo} (h : FoOf l s) : s.has = 0 ↔ liveC l = [] := by
  rw [h.has, ← List.length_eq_zero_iff]; omega
theorem foOf_joins {l m : List Cl} {s t : Fo} (h : FoOf l s) (h' : FoOf m t) : FoOf (l ++ m) (joinF s t) := by
  unfold joinF
  refine ⟨?_, ?_, ?_, ?_⟩
  · rw [List.length_append]; dsimp only; rw [h.cnt, h'.cnt]; simp
  · rw [liveC_app, List.length_append]; dsimp only; rw [h.has, h'.has]; simp
  · rw [liveC_app, totC_app]; dsimp only; rw [h.sum, h'.sum, w6_two]
  · rw [liveC_app]
    dsimp only
    by_cases e1 : s.has = 0
    · rw [if_pos e1, if_pos e1, (has_zero h).1 e1, List.nil_append]; exact h'.bnds
    · rw [if_neg e1, if_neg e1]
      by_cases e2 : t.has = 0
      · rw [if_pos e2, if_pos e2, (has_zero h').1 e2, List.append_nil]; exact h.bnds
      · rw [if_neg e2, if_neg e2]
        exact bnds_join h.bnds h'.bnds (fun e => e1 ((has_zero h).2 e)) (fun e => e2 ((has_zero h').2 e))
theorem foC_join (l m : List Cl) : foC (l ++ m) = joinF (foC l) (foC m) := foOf_uniq (foC_is _) (foOf_joins (foC_is l) (foC_is m))
/-- an aggregate -/
def nulCl : Cl := ⟨true, 0, []⟩
def valF (op : Int) (s : Fo) : Cl :=
  if op = 1 then ⟨false, s.cnt, []⟩ else if op = 2 then ⟨false, s.has, []⟩ else if op < 1 ∨ 5 < op then noCl else if s.has = 0 then nulCl else if op = 3 then ⟨false, s.sum, []⟩ else if op = 4 then s.low else s.high
/-- its type -/
def typF (op ty : Int) : Int := if 1 ≤ op ∧ op ≤ 3 then 1 else if op = 4 ∨ op = 5 then ty else 0

/-! ### The document's loop -/
/-- the best of those so far, the first one among them; and their sum -/
def BestTo (op : Int) (L : List Cl) (j : Nat) (best : Cl) : Prop := best ∈ L ∧ (op = 4 → ∀ c ∈ L.take j, ordC best c ≤ 0) ∧ (op = 5 → ∀ c ∈ L.take j, ordC c best ≤ 0)
theorem best_start {op : Int} {L : List Cl} (h : 0 < L.length) : BestTo op L 0 L[0] := ⟨List.getElem_mem h, fun _ c hc => by simp at hc, fun _ c hc => by simp at hc⟩
theorem best_more {op : Int} {L : List Cl} {j : Nat} {best : Cl} (h : BestTo op L j best) (hj : j < L.length) :
    BestTo op L (j + 1) (if ((decide (op = 4) && decide (ordC L[j] best < 0)) || (decide (op = 5) && decide (0 < ordC L[j] best))) = true then L[j] else best) := by
  obtain ⟨h1, h2, h3⟩ := h
  have n := ordC_neg L[j] best
  refine ⟨?_, fun e c hc => ?_, fun e c hc => ?_⟩
  · split
    · exact List.getElem_mem hj
    · exact h1
  · subst e
    rw [List.take_succ_eq_append_getElem hj, List.mem_append, List.mem_singleton] at hc
    have hd : ¬ (4 : Int) = 5 := by decide
    simp only [decide_true, Bool.true_and, hd, decide_false, Bool.false_and, Bool.or_false, decide_eq_true_eq]
    split
    · rename_i hlt
      rcases hc with hc | rfl
      · exact ordC_trans (show ordC L[j] best ≤ 0 by omega) (h2 rfl c hc)
      · rw [ordC_self]; exact Int.le_refl _
    · rename_i hlt
      rcases hc with hc | rfl
      · exact h2 rfl c hc
      · omega
  · subst e
    rw [List.take_succ_eq_append_getElem hj, List.mem_append, List.mem_singleton] at hc
    have hd : ¬ (5 : Int) = 4 := by decide
    simp only [decide_true, Bool.true_and, hd, decide_false, Bool.false_and, Bool.false_or, decide_eq_true_eq]
    split
    · rename_i hlt
      rcases hc with hc | rfl
      · exact ordC_trans (h3 rfl c hc) (show ordC best L[j] ≤ 0 by omega)
      · rw [ordC_self]; exact Int.le_refl _
    · rename_i hlt
      rcases hc with hc | rfl
      · exact h3 rfl c hc
      · omega
theorem best_low {l : List Cl} {s : Fo} {best : Cl} (h : FoOf l s) (hb : BestTo 4 (liveC l) (liveC l).length best) : s.low = best := by
  obtain ⟨h1, h2, -⟩ := hb
  rw [List.take_length] at h2
  obtain ⟨k1, k2, k3⟩ := bnds_mem h.bnds (List.ne_nil_of_mem h1)
  exact ordC_asym (k3 _ h1).1 (h2 rfl _ k1)
theorem best_high {l : List Cl} {s : Fo} {best : Cl} (h : FoOf l s) (hb : BestTo 5 (liveC l) (liveC l).length best) : s.high = best := by
  obtain ⟨h1, -, h3⟩ := hb
  rw [List.take_length] at h3
  obtain ⟨k1, k2, k3⟩ := bnds_mem h.bnds (List.ne_nil_of_mem h1)
  exact ordC_asym (h3 rfl _ k2) (k3 _ h1).2
theorem sum_more {L : List Cl} {j : Nat} (hj : j < L.length) : w6 (w6 (totC (L.take j)) + L[j].num) = w6 (totC (L.take (j + 1))) := by
  rw [List.take_succ_eq_append_getElem hj, totC_app, totC_one, w6_add]
theorem live_more {l : List Cl} {j : Nat} (hj : j < l.length) : liveC (l.take (j + 1)) = if l[j].null = true then liveC (l.take j) else liveC (l.take j) ++ [l[j]] := by
  rw [List.take_succ_eq_append_getElem hj, liveC_app]
  cases h : l[j].null
  · rw [liveC_one h, if_neg (by simp)]
  · rw [liveC_null h, if_pos rfl, List.append_nil]

/-! ### In whichever order -/
end Go.Proofs.Ytincapmagennmaa


namespace Go.Proofs.Ytincapmagennmaa
set_option linter.unusedVariables false
set_option linter.unusedSimpArgs false
set_option maxRecDepth 100000
open Go.RowKit

/-- a cell of an old block, in a world behind -/
theorem Fr.at0 {w w' : World} (h : Fr Non w w') {p : Addr} {u : Value} (e : w.cell? p = some u) : w'.cell? p = some u := (h.cell (World.block_lt_of_cell? _ _ e) (fun e => e)).trans e
theorem add_none (a : Addr) : a.add 0 = a := by
  obtain ⟨B, o, e⟩ := a
  cases e <;> rfl
end Go.Proofs.Ytincapmagennmaa


namespace Go.Proofs.Ytincapmagennmaa
set_option linter.unusedVariables false
set_option linter.unusedSimpArgs false
set_option maxRecDepth 100000
open Go.RowKit

theorem w6_wrap64 (n : Int) : wrap64 n = w6 n := by unfold wrap64 w6; rfl
end Go.Proofs.Ytincapmagennmaa


namespace Go.Proofs.Ytincapmagennmaa
set_option linter.unusedVariables false
set_option linter.unusedSimpArgs false
set_option maxRecDepth 100000
open Go.RowKit

/-- a state of the program -/
structure Fs where
  cnt : Int
  has : Int
  sum : Int
  some : Bool
  low : Cl
  high : Cl
  deriving DecidableEq
def fsC (s : Fs) : Array Value := #[.int .i64 s.cnt, .int .i64 s.has, .int .i64 s.sum, .bool s.some, .bool s.low.null, .int .i64 s.low.num, .string ⟨s.low.txt.toArray⟩, .bool s.high.null, .int .i64 s.high.num, .string ⟨s.high.txt.toArray⟩]
def fsV (s : Fs) : Value := .agg (fsC s)
def noFs : Fs := ⟨0, 0, 0, false, noCl, noCl⟩
/-- the state s lies in block g -/
abbrev FsB (w : World) (g : Nat) (s : Fs) : Prop := Blk w g 28 (fsC s)
def FsCells (w : World) (g : Nat) (s : Fs) : Prop :=
  w.cell? ⟨g, 0, none⟩ = some (.int .i64 s.cnt) ∧ w.cell? ⟨g, 1, none⟩ = some (.int .i64 s.has) ∧ w.cell? ⟨g, 2, none⟩ = some (.int .i64 s.sum) ∧ w.cell? ⟨g, 3, none⟩ = some (.bool s.some) ∧
  w.cell? ⟨g, 4, none⟩ = some (.bool s.low.null) ∧ w.cell? ⟨g, 5, none⟩ = some (.int .i64 s.low.num) ∧ w.cell? ⟨g, 6, none⟩ = some (.string ⟨s.low.txt.toArray⟩) ∧
  w.cell? ⟨g, 7, none⟩ = some (.bool s.high.null) ∧ w.cell? ⟨g, 8, none⟩ = some (.int .i64 s.high.num) ∧ w.cell? ⟨g, 9, none⟩ = some (.string ⟨s.high.txt.toArray⟩)
def FsFroz (w : World) (g : Nat) : Prop :=
  w.frozen? ⟨g, 0, none⟩ = false ∧ w.frozen? ⟨g, 1, none⟩ = false ∧ w.frozen? ⟨g, 2, none⟩ = false ∧ w.frozen? ⟨g, 3, none⟩ = false ∧ w.frozen? ⟨g, 4, none⟩ = false ∧
  w.frozen? ⟨g, 5, none⟩ = false ∧ w.frozen? ⟨g, 6, none⟩ = false ∧ w.frozen? ⟨g, 7, none⟩ = false ∧ w.frozen? ⟨g, 8, none⟩ = false ∧ w.frozen? ⟨g, 9, none⟩ = false
theorem fsB_cells {w : World} {g : Nat} {s : Fs} (h : FsB w g s) : FsCells w g s :=
  ⟨h.cell 0, h.cell 1, h.cell 2, h.cell 3, h.cell 4, h.cell 5, h.cell 6, h.cell 7, h.cell 8, h.cell 9⟩
theorem fsB_froz {w : World} {g : Nat} {s : Fs} (h : FsB w g s) : FsFroz w g :=
  ⟨h.frozen 0, h.frozen 1, h.frozen 2, h.frozen 3, h.frozen 4, h.frozen 5, h.frozen 6, h.frozen 7, h.frozen 8, h.frozen 9⟩
/-- its numbers stored -/
def setFsN (w : World) (g : Nat) (c h m : Int) (b : Bool) : World := (((w.setCell ⟨g, 0, none⟩ (.int .i64 c)).setCell ⟨g, 1, none⟩ (.int .i64 h)).setCell ⟨g, 2, none⟩ (.int .i64 m)).setCell ⟨g, 3, none⟩ (.bool b)
theorem setFsN_B {w : World} {g : Nat} {s : Fs} (x : FsB w g s) (c h m : Int) (b : Bool) : FsB (setFsN w g c h m b) g ⟨c, h, m, b, s.low, s.high⟩ := (((Blk.set x 0 _).set 1 _).set 2 _).set 3 _
theorem setFsN_fr (w : World) (g : Nat) (c h m : Int) (b : Bool) : Fr (One g) w (setFsN w g c h m b) := ((((Fr.refl (One g) w).set1 0 _).set1 1 _).set1 2 _).set1 3 _
/-- its bounds stored -/
def setFsL (w : World) (g : Nat) (n : Bool) (i : Int) (t : List UInt8) : World := ((w.setCell ⟨g, 4, none⟩ (.bool n)).setCell ⟨g, 5, none⟩ (.int .i64 i)).setCell ⟨g, 6, none⟩ (.string ⟨t.toArray⟩)
def setFsH (w : World) (g : Nat) (n : Bool) (i : Int) (t : List UInt8) : World := ((w.setCell ⟨g, 7, none⟩ (.bool n)).setCell ⟨g, 8, none⟩ (.int .i64 i)).setCell ⟨g, 9, none⟩ (.string ⟨t.toArray⟩)
theorem setFsL_B {w : World} {g : Nat} {s : Fs} (h : FsB w g s) (c : Cl) : FsB (setFsL w g c.null c.num c.txt) g ⟨s.cnt, s.has, s.sum, s.some, c, s.high⟩ := ((Blk.set h 4 _).set 5 _).set 6 _
theorem setFsH_B {w : World} {g : Nat} {s : Fs} (h : FsB w g s) (c : Cl) : FsB (setFsH w g c.null c.num c.txt) g ⟨s.cnt, s.has, s.sum, s.some, s.low, c⟩ := ((Blk.set h 7 _).set 8 _).set 9 _
theorem setFsL_fr (w : World) (g : Nat) (n : Bool) (i : Int) (t : List UInt8) : Fr (One g) w (setFsL w g n i t) := (((Fr.refl (One g) w).set1 4 _).set1 5 _).set1 6 _
theorem setFsH_fr (w : World) (g : Nat) (n : Bool) (i : Int) (t : List UInt8) : Fr (One g) w (setFsH w g n i t) := (((Fr.refl (One g) w).set1 7 _).set1 8 _).set1 9 _
/-- a state stored whole, as a walk spells it -/
def setFs (w : World) (g : Nat) (s : Fs) : World := setFsH (setFsL (setFsN w g s.cnt s.has s.sum s.some) g s.low.null s.low.num s.low.txt) g s.high.null s.high.num s.high.txt
theorem setFs_B {w : World} {g : Nat} {y : Fs} (h : FsB w g y) (s : Fs) : FsB (setFs w g s) g s := setFsH_B (setFsL_B (setFsN_B h s.cnt s.has s.sum s.some) s.low) s.high
theorem setFs_fr (w : World) (g : Nat) (s : Fs) : Fr (One g) w (setFs w g s) := ((setFsN_fr _ _ _ _ _ _).trans (setFsL_fr _ _ _ _ _)).trans (setFsH_fr _ _ _ _ _)
/-- a cell of another block, where one was written to -/
theorem Fr.atO {w w' : World} {g k o : Nat} (h : Fr (One g) w w') (hk : k ≠ g) {u : Value} (e : w.cell? ⟨k, o, none⟩ = some u) : w'.cell? ⟨k, o, none⟩ = some u :=
  (h.cell (World.block_lt_of_cell? _ _ e) hk).trans e
/-- a call's end where its one result is a state in a block -/
theorem ret_fs {fn : Func} {p : Tmp} (h : fn.results = #[.cell p 28]) (tmps : Array Value) (w : World) (g : Nat) (s : Fs)
    (hp : tmps.getD p undef = .pointer (some ⟨g, 0, none⟩)) (hg : FsB w g s) : (results fn tmps).run Try.prog w = .ok (fsV s) w :=
  results_cell_row h tmps w g 28 _ (0, 0) _ hp hg Try.underlying28 rfl (by kernel_rfl)
theorem fs_new (w : World) (s : Fs) (g : Nat) (hg : w.heap.size = g) : FsB (w.alloc (.cells (fsC s) 28)) g s := by subst hg; exact Blk.new _ _ _
theorem cl_newG (w : World) (c : Cl) (g : Nat) (hg : w.heap.size = g) : ClB (w.alloc (.cells #[.bool c.null, .int .i64 c.num, .string ⟨c.txt.toArray⟩] 26)) g c := by subst hg; exact cl_new _ _

/-! ### What the program joins -/
def lesF (a b : Cl) : Cl := if 0 < ordC a b then b else a
def grtF (a b : Cl) : Cl := if ordC a b < 0 then b else a
def joinS (a b : Fs) : Fs :=
  ⟨w6 (a.cnt + b.cnt), w6 (a.has + b.has), w6 (a.sum + b.sum), a.some || b.some,
    if a.some = false then b.low else if b.some = false then a.low else lesF a.low b.low,
    if a.some = false then b.high else if b.some = false then a.high else grtF a.high b.high⟩
def oneS (c : Cl) : Fs := if c.null then ⟨1, 0, 0, false, noCl, noCl⟩ else ⟨1, 1, c.num, true, c, c⟩
def sumS (s : Fs) (c : Cl) : Cl := if s.some then c else nulCl
def valS (op : Int) (s : Fs) : Cl :=
  if op = 1 then ⟨false, s.cnt, []⟩ else if op = 2 then ⟨false, s.has, []⟩ else if op = 3 then sumS s ⟨false, s.sum, []⟩ else if op = 4 then sumS s s.low else if op = 5 then sumS s s.high else noCl
/-- the state of what is known of cells -/
def fsF (s : Fo) : Fs := ⟨s.cnt, s.has, s.sum, !decide (s.has = 0), s.low, s.high⟩
theorem valS_F (op : Int) (s : Fo) : valS op (fsF s) = valF op s := by
  unfold valS valF fsF sumS
  dsimp only
  by_cases h1 : op = 1
  · rw [if_pos h1, if_pos h1]
  rw [if_neg h1, if_neg h1]
  by_cases h2 : op = 2
  · rw [if_pos h2, if_pos h2]
  rw [if_neg h2, if_neg h2]
  by_cases h3 : op < 1 ∨ 5 < op
  · rw [if_pos h3, if_neg (by omega), if_neg (by omega), if_neg (by omega)]
  rw [if_neg h3]
  by_cases h : s.has = 0
  · simp only [h, decide_true, Bool.not_true, if_true, Bool.false_eq_true, if_false]
    by_cases h4 : op = 3
    · rw [if_pos h4]
    rw [if_neg h4]
    by_cases h5 : op = 4
    · rw [if_pos h5]
    rw [if_neg h5, if_pos (by omega)]
  · simp only [h, decide_false, Bool.not_false, if_true, if_false]
    by_cases h4 : op = 3
    · rw [if_pos h4, if_pos h4]
    rw [if_neg h4, if_neg h4]
    by_cases h5 : op = 4
    · rw [if_pos h5, if_pos h5]
    rw [if_neg h5, if_neg h5, if_pos (by omega)]
theorem w6_small {n : Int} (h : 0 ≤ n) (h' : n ≤ 1000000000000) : w6 n = n := by unfold w6; omega
theorem live_lenG (l : List Cl) : (liveC l).length ≤ l.length := List.length_filter_le _ _
theorem foOf_none {l : List Cl} {s : Fo} (h : FoOf l s) (h0 : s.has = 0) : s.low = noCl ∧ s.high = noCl ∧ s.sum = 0 := by
  have e := (has_zero h).1 h0
  have hb := h.bnds
  rw [e] at hb
  rcases hb with ⟨-, h1, h2⟩ | ⟨h1, -, -⟩
  · exact ⟨h1, h2, by rw [h.sum, e]; rfl⟩
  · cases h1
theorem lesF_is (a b : Cl) : lesF a b = if ordC b a < 0 then b else a := by
  have n := ordC_neg a b
  unfold lesF
  by_cases h : 0 < ordC a b
  · rw [if_pos h, if_pos (by omega)]
  · rw [if_neg h, if_neg (by omega)]
theorem grtF_is (a b : Cl) : grtF a b = if 0 < ordC b a then b else a := by
  have n := ordC_neg a b
  unfold grtF
  by_cases h : ordC a b < 0
  · rw [if_pos h, if_pos (by omega)]
  · rw [if_neg h, if_neg (by omega)]
theorem joinS_F {l m : List Cl} {a b : Fo} (h : FoOf l a) (h' : FoOf m b) (hl : l.length ≤ 1000000) (hm : m.length ≤ 1000000) : joinS (fsF a) (fsF b) = fsF (joinF a b) := by
  have c1 := h.cnt
  have c2 := h'.cnt
  have d1 := h.has
  have d2 := h'.has
  have e1 := live_lenG l
  have e2 := live_lenG m
  have hA : 0 ≤ a.has := by omega
  have hB : 0 ≤ b.has := by omega
  have t1 : w6 (a.cnt + b.cnt) = a.cnt + b.cnt := w6_small (by omega) (by omega)
  have t2 : w6 (a.has + b.has) = a.has + b.has := w6_small (by omega) (by omega)
  have t3 : decide (a.has + b.has = 0) = (decide (a.has = 0) && decide (b.has = 0)) := by
    rw [Bool.eq_iff_iff]; simp; omega
  unfold joinS joinF fsF
  dsimp only
  rw [t1, t2, t3, lesF_is, grtF_is]
  by_cases x : a.has = 0 <;> by_cases y : b.has = 0 <;> simp [x, y]
/-- one cell -/
theorem oneS_F {l : List Cl} {s : Fo} (h : FoOf l s) (c : Cl) (hl : l.length ≤ 1000000) : joinS (fsF s) (oneS c) = fsF (addF s c) := by
  have c1 := h.cnt
  have d1 := h.has
  have e1 := live_lenG l
  have t1 : w6 (s.cnt + 1) = s.cnt + 1 := w6_small (by omega) (by omega)
  have t2 : w6 (s.has + 1) = s.has + 1 := w6_small (by omega) (by omega)
  have t3 : w6 (s.has + 0) = s.has := by rw [Int.add_zero]; exact w6_small (by omega) (by omega)
  have t4 : w6 (s.sum + 0) = s.sum := by rw [Int.add_zero, h.sum]; unfold w6; omega
  have t5 : decide (s.has + 1 = 0) = false := by simp; omega
  unfold joinS oneS addF fsF
  cases hn : c.null
  · simp only [Bool.false_eq_true, if_false]
    rw [t1, t2, t5, lesF_is, grtF_is]
    by_cases x : s.has = 0 <;> simp [x]
  · simp only [if_true]
    rw [t1, t3, t4]
    by_cases x : s.has = 0
    · obtain ⟨q1, q2, -⟩ := foOf_none h x
      simp [x, q1, q2]
    · simp [x]
theorem fsF_snoc (l : List Cl) (c : Cl) (hl : l.length ≤ 1000000) : joinS (fsF (foC l)) (oneS c) = fsF (foC (l ++ [c])) := by
  rw [foC_app]; exact oneS_F (foC_is l) c hl
theorem fsF_app (l m : List Cl) (hl : l.length ≤ 1000000) (hm : m.length ≤ 1000000) : joinS (fsF (foC l)) (fsF (foC m)) = fsF (foC (l ++ m)) := by
  rw [foC_join]; exact joinS_F (foC_is l) (foC_is m) hl hm
end Go.Proofs.Ytincapmagennmaa


namespace Go.Proofs.Ytincapmagennmaa
set_option linter.unusedVariables false
set_option linter.unusedSimpArgs false
set_option maxRecDepth 100000
open Go.RowKit

theorem fnew_any (w : World) : Calls Try.prog 13 #[] w fun e w' => e = .returned (fsV noFs) ∧ Fr Non w w' := by
  have hB := Lib.hid (fs_new w noFs w.heap.size rfl)
  have F := Lib.hid ((Fr.refl Non w).alloc (.cells (fsC noFs) 28))
  unfold fsC noFs noCl at hB F
  dsimp only at hB F
  go_enter Try.func13, Try.ntmps13
  go_wp2
  exact bodyPost_ret (v := fsV noFs) (ret_fs (p := 0) rfl _ _ _ noFs (by rfl) hB.out) rfl ⟨rfl, F.out⟩

theorem fof_any (c : Cl) (w : World) : Calls Try.prog 19 #[clV c] w fun e w' => e = .returned (fsV (oneS c)) ∧ Fr Non w w' := by
  obtain ⟨n, i, t⟩ := c
  obtain ⟨W, hW⟩ : ∃ W, W = w.alloc (.cells #[.bool n, .int .i64 i, .string ⟨t.toArray⟩] 26) := ⟨_, rfl⟩
  have hC : ClB W w.heap.size ⟨n, i, t⟩ := by rw [hW]; exact cl_newG w ⟨n, i, t⟩ _ rfl
  have hs : W.heap.size = w.heap.size + 1 := by rw [hW]; simp
  have F0 : Fr Non w W := by rw [hW]; exact (Fr.refl Non w).alloc _
  have hB := Lib.hid (fs_new W (oneS ⟨n, i, t⟩) (w.heap.size + 1) hs)
  have F := Lib.hid (F0.alloc (.cells (fsC (oneS ⟨n, i, t⟩)) 28))
  obtain ⟨a0, a1, a2, -, -, -⟩ := hC.facts
  dsimp only at a0 a1 a2
  clear hC F0 hs
  unfold fsC oneS noCl at hB F
  unfold clV clC
  dsimp only at hB F ⊢
  cases n
  · simp only [Bool.false_eq_true, if_false] at hB F
    subst hW
    go_enter Try.func19, Try.ntmps19
    go_wp2
    exact bodyPost_ret (v := fsV (oneS ⟨false, i, t⟩)) (ret_fs (p := 2) rfl _ _ _ (oneS ⟨false, i, t⟩) (by rfl) hB.out) rfl ⟨rfl, F.out⟩
  · simp only [if_true] at hB F
    subst hW
    go_enter Try.func19, Try.ntmps19
    go_wp2
    exact bodyPost_ret (v := fsV (oneS ⟨true, i, t⟩)) (ret_fs (p := 2) rfl _ _ _ (oneS ⟨true, i, t⟩) (by rfl) hB.out) rfl ⟨rfl, F.out⟩

set_option maxHeartbeats 1000000 in
theorem fles_any (a b : Cl) (w : World) : Calls Try.prog 17 #[clV a, clV b] w fun e w' => e = .returned (clV (lesF a b)) ∧ Fr Non w w' := by
  have O := Lib.hid (fun W => order_any a b W)
  obtain ⟨o, ho⟩ : ∃ o, ordC a b = o := ⟨_, rfl⟩
  obtain ⟨an, ai, at_⟩ := a
  obtain ⟨bn, bi, bt⟩ := b
  rw [ho] at O
  obtain ⟨g, hg⟩ : ∃ g, w.heap.size = g := ⟨_, rfl⟩
  have hA0 := cl_newG w ⟨an, ai, at_⟩ g hg
  have F1 := (Fr.refl Non w).alloc (.cells #[.bool an, .int .i64 ai, .string ⟨at_.toArray⟩] 26)
  have s1 : (w.alloc (.cells #[.bool an, .int .i64 ai, .string ⟨at_.toArray⟩] 26)).heap.size = g + 1 := by simp [hg]
  have hB0 := cl_newG _ ⟨bn, bi, bt⟩ _ s1
  have F2 := (Fr.refl Non (w.alloc (.cells #[.bool an, .int .i64 ai, .string ⟨at_.toArray⟩] 26))).alloc (.cells #[.bool bn, .int .i64 bi, .string ⟨bt.toArray⟩] 26)
  have s2 : ((w.alloc (.cells #[.bool an, .int .i64 ai, .string ⟨at_.toArray⟩] 26)).alloc (.cells #[.bool bn, .int .i64 bi, .string ⟨bt.toArray⟩] 26)).heap.size = g + 2 := by simp [hg]
  have hR0 := cl_newG _ ⟨false, 0, []⟩ _ s2
  have F3 := (Fr.refl Non ((w.alloc (.cells #[.bool an, .int .i64 ai, .string ⟨at_.toArray⟩] 26)).alloc (.cells #[.bool bn, .int .i64 bi, .string ⟨bt.toArray⟩] 26))).alloc (.cells #[.bool false, .int .i64 0, .string ⟨([] : List UInt8).toArray⟩] 26)
  have hA := Lib.hid ((hA0.fr F2 (fun e => e)).fr F3 (fun e => e))
  have hB := Lib.hid (hB0.fr F3 (fun e => e))
  have hR := Lib.hid hR0
  have F := Lib.hid ((F1.trans F2).trans F3)
  clear hA0 hB0 hR0 F1 F2 F3 s1 s2
  dsimp only at hA hB hR
  unfold clV clC at *
  dsimp only at *
  by_cases hc : 0 < o
  · have hE : lesF ⟨an, ai, at_⟩ ⟨bn, bi, bt⟩ = ⟨bn, bi, bt⟩ := by unfold lesF; exact if_pos (show 0 < ordC _ _ from by rw [ho]; exact hc)
    replace hE := Lib.hid hE
    go_enter Try.func17, Try.ntmps17
    go_wp2_with fail
    refine (O.out _).mono ?_
    rintro e w4 ⟨rfl, f4⟩
    obtain ⟨a0, a1, a2, -, -, -⟩ := ClB.facts (c := ⟨an, ai, at_⟩) (hA.out.fr f4 (fun e => e))
    obtain ⟨b0, b1, b2, -, -, -⟩ := ClB.facts (c := ⟨bn, bi, bt⟩) (hB.out.fr f4 (fun e => e))
    have hR4 : ClB w4 (g + 2) ⟨false, 0, []⟩ := hR.out.fr f4 (fun e => e)
    obtain ⟨p0, p1, p2, z0, z1, z2⟩ := hR4.facts
    dsimp only at a0 a1 a2 b0 b1 b2 p0 p1 p2
    have HE := Lib.hid (setCl_B hR4 bn bi bt)
    have FE := Lib.hid ((F.out.trans f4).fresh (setCl_fr w4 (g + 2) bn bi bt) (fun k e => by have : k = g + 2 := e; omega))
    clear hR4 f4
    go_wp2
    exact bodyPost_ret (v := clV ⟨bn, bi, bt⟩) (ret_cl (p := 4) rfl _ _ (g + 2) ⟨bn, bi, bt⟩ (by rfl) HE.out) rfl ⟨by rw [hE.out]; rfl, FE.out⟩
  · have hE : lesF ⟨an, ai, at_⟩ ⟨bn, bi, bt⟩ = ⟨an, ai, at_⟩ := by unfold lesF; exact if_neg (show ¬ 0 < ordC _ _ from by rw [ho]; exact hc)
    replace hE := Lib.hid hE
    go_enter Try.func17, Try.ntmps17
    go_wp2_with fail
    refine (O.out _).mono ?_
    rintro e w4 ⟨rfl, f4⟩
    obtain ⟨a0, a1, a2, -, -, -⟩ := ClB.facts (c := ⟨an, ai, at_⟩) (hA.out.fr f4 (fun e => e))
    obtain ⟨b0, b1, b2, -, -, -⟩ := ClB.facts (c := ⟨bn, bi, bt⟩) (hB.out.fr f4 (fun e => e))
    have hR4 : ClB w4 (g + 2) ⟨false, 0, []⟩ := hR.out.fr f4 (fun e => e)
    obtain ⟨p0, p1, p2, z0, z1, z2⟩ := hR4.facts
    dsimp only at a0 a1 a2 b0 b1 b2 p0 p1 p2
    have HE := Lib.hid (setCl_B hR4 an ai at_)
    have FE := Lib.hid ((F.out.trans f4).fresh (setCl_fr w4 (g + 2) an ai at_) (fun k e => by have : k = g + 2 := e; omega))
    clear hR4 f4
    go_wp2
    exact bodyPost_ret (v := clV ⟨an, ai, at_⟩) (ret_cl (p := 4) rfl _ _ (g + 2) ⟨an, ai, at_⟩ (by rfl) HE.out) rfl ⟨by rw [hE.out]; rfl, FE.out⟩

set_option maxHeartbeats 1000000 in
theorem fgrt_any (a b : Cl) (w : World) : Calls Try.prog 18 #[clV a, clV b] w fun e w' => e = .returned (clV (grtF a b)) ∧ Fr Non w w' := by
  have O := Lib.hid (fun W => order_any a b W)
  obtain ⟨o, ho⟩ : ∃ o, ordC a b = o := ⟨_, rfl⟩
  obtain ⟨an, ai, at_⟩ := a
  obtain ⟨bn, bi, bt⟩ := b
  rw [ho] at O
  obtain ⟨g, hg⟩ : ∃ g, w.heap.size = g := ⟨_, rfl⟩
  have hA0 := cl_newG w ⟨an, ai, at_⟩ g hg
  have F1 := (Fr.refl Non w).alloc (.cells #[.bool an, .int .i64 ai, .string ⟨at_.toArray⟩] 26)
  have s1 : (w.alloc (.cells #[.bool an, .int .i64 ai, .string ⟨at_.toArray⟩] 26)).heap.size = g + 1 := by simp [hg]
  have hB0 := cl_newG _ ⟨bn, bi, bt⟩ _ s1
  have F2 := (Fr.refl Non (w.alloc (.cells #[.bool an, .int .i64 ai, .string ⟨at_.toArray⟩] 26))).alloc (.cells #[.bool bn, .int .i64 bi, .string ⟨bt.toArray⟩] 26)
  have s2 : ((w.alloc (.cells #[.bool an, .int .i64 ai, .string ⟨at_.toArray⟩] 26)).alloc (.cells #[.bool bn, .int .i64 bi, .string ⟨bt.toArray⟩] 26)).heap.size = g + 2 := by simp [hg]
  have hR0 := cl_newG _ ⟨false, 0, []⟩ _ s2
  have F3 := (Fr.refl Non ((w.alloc (.cells #[.bool an, .int .i64 ai, .string ⟨at_.toArray⟩] 26)).alloc (.cells #[.bool bn, .int .i64 bi, .string ⟨bt.toArray⟩] 26))).alloc (.cells #[.bool false, .int .i64 0, .string ⟨([] : List UInt8).toArray⟩] 26)
  have hA := Lib.hid ((hA0.fr F2 (fun e => e)).fr F3 (fun e => e))
  have hB := Lib.hid (hB0.fr F3 (fun e => e))
  have hR := Lib.hid hR0
  have F := Lib.hid ((F1.trans F2).trans F3)
  clear hA0 hB0 hR0 F1 F2 F3 s1 s2
  dsimp only at hA hB hR
  unfold clV clC at *
  dsimp only at *
  by_cases hc : o < 0
  · have hE : grtF ⟨an, ai, at_⟩ ⟨bn, bi, bt⟩ = ⟨bn, bi, bt⟩ := by unfold grtF; exact if_pos (show ordC _ _ < 0 from by rw [ho]; exact hc)
    replace hE := Lib.hid hE
    go_enter Try.func18, Try.ntmps18
    go_wp2_with fail
    refine (O.out _).mono ?_
    rintro e w4 ⟨rfl, f4⟩
    obtain ⟨a0, a1, a2, -, -, -⟩ := ClB.facts (c := ⟨an, ai, at_⟩) (hA.out.fr f4 (fun e => e))
    obtain ⟨b0, b1, b2, -, -, -⟩ := ClB.facts (c := ⟨bn, bi, bt⟩) (hB.out.fr f4 (fun e => e))
    have hR4 : ClB w4 (g + 2) ⟨false, 0, []⟩ := hR.out.fr f4 (fun e => e)
    obtain ⟨p0, p1, p2, z0, z1, z2⟩ := hR4.facts
    dsimp only at a0 a1 a2 b0 b1 b2 p0 p1 p2
    have HE := Lib.hid (setCl_B hR4 bn bi bt)
    have FE := Lib.hid ((F.out.trans f4).fresh (setCl_fr w4 (g + 2) bn bi bt) (fun k e => by have : k = g + 2 := e; omega))
    clear hR4 f4
    go_wp2
    exact bodyPost_ret (v := clV ⟨bn, bi, bt⟩) (ret_cl (p := 4) rfl _ _ (g + 2) ⟨bn, bi, bt⟩ (by rfl) HE.out) rfl ⟨by rw [hE.out]; rfl, FE.out⟩
  · have hE : grtF ⟨an, ai, at_⟩ ⟨bn, bi, bt⟩ = ⟨an, ai, at_⟩ := by unfold grtF; exact if_neg (show ¬ ordC _ _ < 0 from by rw [ho]; exact hc)
    replace hE := Lib.hid hE
    go_enter Try.func18, Try.ntmps18
    go_wp2_with fail
    refine (O.out _).mono ?_
    rintro e w4 ⟨rfl, f4⟩
    obtain ⟨a0, a1, a2, -, -, -⟩ := ClB.facts (c := ⟨an, ai, at_⟩) (hA.out.fr f4 (fun e => e))
    obtain ⟨b0, b1, b2, -, -, -⟩ := ClB.facts (c := ⟨bn, bi, bt⟩) (hB.out.fr f4 (fun e => e))
    have hR4 : ClB w4 (g + 2) ⟨false, 0, []⟩ := hR.out.fr f4 (fun e => e)
    obtain ⟨p0, p1, p2, z0, z1, z2⟩ := hR4.facts
    dsimp only at a0 a1 a2 b0 b1 b2 p0 p1 p2
    have HE := Lib.hid (setCl_B hR4 an ai at_)
    have FE := Lib.hid ((F.out.trans f4).fresh (setCl_fr w4 (g + 2) an ai at_) (fun k e => by have : k = g + 2 := e; omega))
    clear hR4 f4
    go_wp2
    exact bodyPost_ret (v := clV ⟨an, ai, at_⟩) (ret_cl (p := 4) rfl _ _ (g + 2) ⟨an, ai, at_⟩ (by rfl) HE.out) rfl ⟨by rw [hE.out]; rfl, FE.out⟩

theorem ftcnt_any (s : Fs) (w : World) : Calls Try.prog 20 #[fsV s] w fun e w' => e = .returned (clV ⟨false, s.cnt, []⟩) ∧ Fr Non w w' := by
  obtain ⟨a, b, c, d, ⟨ln, li, lt⟩, ⟨hn, hi, ht⟩⟩ := s
  obtain ⟨g, hg⟩ : ∃ g, w.heap.size = g := ⟨_, rfl⟩
  obtain ⟨W, hW⟩ : ∃ W, W = w.alloc (.cells #[.int .i64 a, .int .i64 b, .int .i64 c, .bool d, .bool ln, .int .i64 li, .string ⟨lt.toArray⟩, .bool hn, .int .i64 hi, .string ⟨ht.toArray⟩] 28) := ⟨_, rfl⟩
  have hS : FsB W g ⟨a, b, c, d, ⟨ln, li, lt⟩, ⟨hn, hi, ht⟩⟩ := by rw [hW]; exact fs_new w ⟨a, b, c, d, ⟨ln, li, lt⟩, ⟨hn, hi, ht⟩⟩ g hg
  have hs : W.heap.size = g + 1 := by rw [hW]; simp [hg]
  have F0 : Fr Non w W := by rw [hW]; exact (Fr.refl Non w).alloc _
  have hB := Lib.hid (cl_newG W ⟨false, a, []⟩ (g + 1) hs)
  have F := Lib.hid (F0.alloc (.cells #[.bool false, .int .i64 a, .string ⟨([] : List UInt8).toArray⟩] 26))
  obtain ⟨c0, c1, c2, c3, c4, c5, c6, c7, c8, c9⟩ := fsB_cells hS
  dsimp only at c0 c1 c2 c3 c4 c5 c6 c7 c8 c9
  clear hS F0 hs
  unfold fsV fsC
  dsimp only at hB F ⊢
  subst hW
  go_enter Try.func20, Try.ntmps20
  go_wp2
  exact bodyPost_ret (v := clV ⟨false, a, []⟩) (ret_cl (p := 2) rfl _ _ (g + 1) ⟨false, a, []⟩ (by simp [hg]) hB.out) rfl ⟨rfl, F.out⟩

theorem fthas_any (s : Fs) (w : World) : Calls Try.prog 21 #[fsV s] w fun e w' => e = .returned (clV ⟨false, s.has, []⟩) ∧ Fr Non w w' := by
  obtain ⟨a, b, c, d, ⟨ln, li, lt⟩, ⟨hn, hi, ht⟩⟩ := s
  obtain ⟨g, hg⟩ : ∃ g, w.heap.size = g := ⟨_, rfl⟩
  obtain ⟨W, hW⟩ : ∃ W, W = w.alloc (.cells #[.int .i64 a, .int .i64 b, .int .i64 c, .bool d, .bool ln, .int .i64 li, .string ⟨lt.toArray⟩, .bool hn, .int .i64 hi, .string ⟨ht.toArray⟩] 28) := ⟨_, rfl⟩
  have hS : FsB W g ⟨a, b, c, d, ⟨ln, li, lt⟩, ⟨hn, hi, ht⟩⟩ := by rw [hW]; exact fs_new w ⟨a, b, c, d, ⟨ln, li, lt⟩, ⟨hn, hi, ht⟩⟩ g hg
  have hs : W.heap.size = g + 1 := by rw [hW]; simp [hg]
  have F0 : Fr Non w W := by rw [hW]; exact (Fr.refl Non w).alloc _
  have hB := Lib.hid (cl_newG W ⟨false, b, []⟩ (g + 1) hs)
  have F := Lib.hid (F0.alloc (.cells #[.bool false, .int .i64 b, .string ⟨([] : List UInt8).toArray⟩] 26))
  obtain ⟨c0, c1, c2, c3, c4, c5, c6, c7, c8, c9⟩ := fsB_cells hS
  dsimp only at c0 c1 c2 c3 c4 c5 c6 c7 c8 c9
  clear hS F0 hs
  unfold fsV fsC
  dsimp only at hB F ⊢
  subst hW
  go_enter Try.func21, Try.ntmps21
  go_wp2
  exact bodyPost_ret (v := clV ⟨false, b, []⟩) (ret_cl (p := 2) rfl _ _ (g + 1) ⟨false, b, []⟩ (by simp [hg]) hB.out) rfl ⟨rfl, F.out⟩

set_option maxHeartbeats 1000000 in
theorem fifs_any (s : Fs) (x : Cl) (w : World) : Calls Try.prog 26 #[fsV s, clV x] w fun e w' => e = .returned (clV (sumS s x)) ∧ Fr Non w w' := by
  obtain ⟨cn, ci, ct⟩ := x
  obtain ⟨a, b, c, d, ⟨ln, li, lt⟩, ⟨hn, hi, ht⟩⟩ := s
  obtain ⟨g, hg⟩ : ∃ g, w.heap.size = g := ⟨_, rfl⟩
  obtain ⟨W, hW⟩ : ∃ W, W = w.alloc (.cells #[.int .i64 a, .int .i64 b, .int .i64 c, .bool d, .bool ln, .int .i64 li, .string ⟨lt.toArray⟩, .bool hn, .int .i64 hi, .string ⟨ht.toArray⟩] 28) := ⟨_, rfl⟩
  have hS : FsB W g ⟨a, b, c, d, ⟨ln, li, lt⟩, ⟨hn, hi, ht⟩⟩ := by rw [hW]; exact fs_new w ⟨a, b, c, d, ⟨ln, li, lt⟩, ⟨hn, hi, ht⟩⟩ g hg
  have hs : W.heap.size = g + 1 := by rw [hW]; simp [hg]
  have F0 : Fr Non w W := by rw [hW]; exact (Fr.refl Non w).alloc _
  obtain ⟨W2, hW2⟩ : ∃ W2, W2 = W.alloc (.cells #[.bool cn, .int .i64 ci, .string ⟨ct.toArray⟩] 26) := ⟨_, rfl⟩
  have hC : ClB W2 (g + 1) ⟨cn, ci, ct⟩ := by rw [hW2]; exact cl_newG W ⟨cn, ci, ct⟩ _ hs
  have hs2 : W2.heap.size = g + 2 := by rw [hW2]; simp [hs]
  have F1 : Fr Non W W2 := by rw [hW2]; exact (Fr.refl Non W).alloc _
  have F2 := F0.trans F1
  obtain ⟨c0, c1, c2, c3, c4, c5, c6, c7, c8, c9⟩ := fsB_cells (show FsB W2 g ⟨a, b, c, d, ⟨ln, li, lt⟩, ⟨hn, hi, ht⟩⟩ from hS.fr F1 (fun e => e))
  obtain ⟨a0, a1, a2, -, -, -⟩ := hC.facts
  dsimp only at c0 c1 c2 c3 c4 c5 c6 c7 c8 c9 a0 a1 a2
  clear hS hC F0 F1 hs
  unfold fsV fsC clV clC
  dsimp only
  cases d
  · have hB := Lib.hid (cl_newG W2 ⟨true, 0, []⟩ (g + 2) hs2)
    have F := Lib.hid (F2.alloc (.cells #[.bool true, .int .i64 0, .string ⟨([] : List UInt8).toArray⟩] 26))
    dsimp only at hB F
    subst hW2
    subst hW
    go_enter Try.func26, Try.ntmps26
    go_wp2
    exact bodyPost_ret (v := clV ⟨true, 0, []⟩) (ret_cl (p := 4) rfl _ _ (g + 2) ⟨true, 0, []⟩ (by simp [hg]) hB.out) rfl ⟨rfl, F.out⟩
  · have hB := Lib.hid (cl_newG W2 ⟨cn, ci, ct⟩ (g + 2) hs2)
    have F := Lib.hid (F2.alloc (.cells #[.bool cn, .int .i64 ci, .string ⟨ct.toArray⟩] 26))
    dsimp only at hB F
    subst hW2
    subst hW
    go_enter Try.func26, Try.ntmps26
    go_wp2
    exact bodyPost_ret (v := clV ⟨cn, ci, ct⟩) (ret_cl (p := 4) rfl _ _ (g + 2) ⟨cn, ci, ct⟩ (by simp [hg]) hB.out) rfl ⟨rfl, F.out⟩

set_option maxHeartbeats 1000000 in
theorem ftsum_any (s : Fs) (w : World) : Calls Try.prog 22 #[fsV s] w fun e w' => e = .returned (clV (sumS s ⟨false, s.sum, []⟩)) ∧ Fr Non w w' := by
  obtain ⟨a, b, c, d, ⟨ln, li, lt⟩, ⟨hn, hi, ht⟩⟩ := s
  obtain ⟨g, hg⟩ : ∃ g, w.heap.size = g := ⟨_, rfl⟩
  obtain ⟨W, hW⟩ : ∃ W, W = w.alloc (.cells #[.int .i64 a, .int .i64 b, .int .i64 c, .bool d, .bool ln, .int .i64 li, .string ⟨lt.toArray⟩, .bool hn, .int .i64 hi, .string ⟨ht.toArray⟩] 28) := ⟨_, rfl⟩
  have hS : FsB W g ⟨a, b, c, d, ⟨ln, li, lt⟩, ⟨hn, hi, ht⟩⟩ := by rw [hW]; exact fs_new w ⟨a, b, c, d, ⟨ln, li, lt⟩, ⟨hn, hi, ht⟩⟩ g hg
  have hs : W.heap.size = g + 1 := by rw [hW]; simp [hg]
  have F0 : Fr Non w W := by rw [hW]; exact (Fr.refl Non w).alloc _
  obtain ⟨c0, c1, c2, c3, c4, c5, c6, c7, c8, c9⟩ := fsB_cells hS
  dsimp only at c0 c1 c2 c3 c4 c5 c6 c7 c8 c9
  have hB0 := cl_newG W ⟨false, 0, []⟩ (g + 1) hs
  have FR := F0.alloc (.cells #[.bool false, .int .i64 0, .string ⟨([] : List UInt8).toArray⟩] 26)
  replace hB0 := Lib.hid hB0
  replace FR := Lib.hid FR
  have O := Lib.hid (fun W' => fifs_any ⟨a, b, c, d, ⟨ln, li, lt⟩, ⟨hn, hi, ht⟩⟩ ⟨false, c, []⟩ W')
  obtain ⟨r, hr⟩ : ∃ r, sumS ⟨a, b, c, d, ⟨ln, li, lt⟩, ⟨hn, hi, ht⟩⟩ ⟨false, c, []⟩ = r := ⟨_, rfl⟩
  rw [hr] at O
  dsimp only
  rw [hr]
  clear hr hS F0 hs
  obtain ⟨rn, ri, rt⟩ := r
  unfold clV clC at O ⊢
  unfold fsV fsC at O ⊢
  dsimp only at O hB0 FR ⊢
  subst hW
  go_enter Try.func22, Try.ntmps22
  go_wp2_with fail
  refine (O.out _).mono ?_
  rintro e w4 ⟨rfl, f4⟩
  have hB4 : ClB w4 (g + 1) ⟨false, 0, []⟩ := hB0.out.fr f4 (fun e => e)
  obtain ⟨p0, p1, p2, z0, z1, z2⟩ := hB4.facts
  dsimp only at p0 p1 p2
  have HE := Lib.hid (setCl_B hB4 rn ri rt)
  have FE := Lib.hid ((FR.out.trans f4).fresh (setCl_fr w4 (g + 1) rn ri rt) (fun k e => by have : k = g + 1 := e; omega))
  clear hB4 f4
  go_wp2
  exact bodyPost_ret (v := clV ⟨rn, ri, rt⟩) (ret_cl (p := 2) rfl _ _ (g + 1) ⟨rn, ri, rt⟩ (by simp [hg]) HE.out) rfl ⟨rfl, FE.out⟩

set_option maxHeartbeats 1000000 in
theorem ftlow_any (s : Fs) (w : World) : Calls Try.prog 23 #[fsV s] w fun e w' => e = .returned (clV (sumS s s.low)) ∧ Fr Non w w' := by
  obtain ⟨a, b, c, d, ⟨ln, li, lt⟩, ⟨hn, hi, ht⟩⟩ := s
  obtain ⟨g, hg⟩ : ∃ g, w.heap.size = g := ⟨_, rfl⟩
  obtain ⟨W, hW⟩ : ∃ W, W = w.alloc (.cells #[.int .i64 a, .int .i64 b, .int .i64 c, .bool d, .bool ln, .int .i64 li, .string ⟨lt.toArray⟩, .bool hn, .int .i64 hi, .string ⟨ht.toArray⟩] 28) := ⟨_, rfl⟩
  have hS : FsB W g ⟨a, b, c, d, ⟨ln, li, lt⟩, ⟨hn, hi, ht⟩⟩ := by rw [hW]; exact fs_new w ⟨a, b, c, d, ⟨ln, li, lt⟩, ⟨hn, hi, ht⟩⟩ g hg
  have hs : W.heap.size = g + 1 := by rw [hW]; simp [hg]
  have F0 : Fr Non w W := by rw [hW]; exact (Fr.refl Non w).alloc _
  obtain ⟨c0, c1, c2, c3, c4, c5, c6, c7, c8, c9⟩ := fsB_cells hS
  dsimp only at c0 c1 c2 c3 c4 c5 c6 c7 c8 c9
  have hB0 := cl_newG W ⟨false, 0, []⟩ (g + 1) hs
  have FR := F0.alloc (.cells #[.bool false, .int .i64 0, .string ⟨([] : List UInt8).toArray⟩] 26)
  replace hB0 := Lib.hid hB0
  replace FR := Lib.hid FR
  have O := Lib.hid (fun W' => fifs_any ⟨a, b, c, d, ⟨ln, li, lt⟩, ⟨hn, hi, ht⟩⟩ ⟨ln, li, lt⟩ W')
  obtain ⟨r, hr⟩ : ∃ r, sumS ⟨a, b, c, d, ⟨ln, li, lt⟩, ⟨hn, hi, ht⟩⟩ ⟨ln, li, lt⟩ = r := ⟨_, rfl⟩
  rw [hr] at O
  dsimp only
  rw [hr]
  clear hr hS F0 hs
  obtain ⟨rn, ri, rt⟩ := r
  unfold clV clC at O ⊢
  unfold fsV fsC at O ⊢
  dsimp only at O hB0 FR ⊢
  subst hW
  go_enter Try.func23, Try.ntmps23
  go_wp2_with fail
  refine (O.out _).mono ?_
  rintro e w4 ⟨rfl, f4⟩
  have hB4 : ClB w4 (g + 1) ⟨false, 0, []⟩ := hB0.out.fr f4 (fun e => e)
  obtain ⟨p0, p1, p2, z0, z1, z2⟩ := hB4.facts
  dsimp only at p0 p1 p2
  have HE := Lib.hid (setCl_B hB4 rn ri rt)
  have FE := Lib.hid ((FR.out.trans f4).fresh (setCl_fr w4 (g + 1) rn ri rt) (fun k e => by have : k = g + 1 := e; omega))
  clear hB4 f4
  go_wp2
  exact bodyPost_ret (v := clV ⟨rn, ri, rt⟩) (ret_cl (p := 2) rfl _ _ (g + 1) ⟨rn, ri, rt⟩ (by simp [hg]) HE.out) rfl ⟨rfl, FE.out⟩

set_option maxHeartbeats 1000000 in
theorem fthigh_any (s : Fs) (w : World) : Calls Try.prog 24 #[fsV s] w fun e w' => e = .returned (clV (sumS s s.high)) ∧ Fr Non w w' := by
  obtain ⟨a, b, c, d, ⟨ln, li, lt⟩, ⟨hn, hi, ht⟩⟩ := s
  obtain ⟨g, hg⟩ : ∃ g, w.heap.size = g := ⟨_, rfl⟩
  obtain ⟨W, hW⟩ : ∃ W, W = w.alloc (.cells #[.int .i64 a, .int .i64 b, .int .i64 c, .bool d, .bool ln, .int .i64 li, .string ⟨lt.toArray⟩, .bool hn, .int .i64 hi, .string ⟨ht.toArray⟩] 28) := ⟨_, rfl⟩
  have hS : FsB W g ⟨a, b, c, d, ⟨ln, li, lt⟩, ⟨hn, hi, ht⟩⟩ := by rw [hW]; exact fs_new w ⟨a, b, c, d, ⟨ln, li, lt⟩, ⟨hn, hi, ht⟩⟩ g hg
  have hs : W.heap.size = g + 1 := by rw [hW]; simp [hg]
  have F0 : Fr Non w W := by rw [hW]; exact (Fr.refl Non w).alloc _
  obtain ⟨c0, c1, c2, c3, c4, c5, c6, c7, c8, c9⟩ := fsB_cells hS
  dsimp only at c0 c1 c2 c3 c4 c5 c6 c7 c8 c9
  have hB0 := cl_newG W ⟨false, 0, []⟩ (g + 1) hs
  have FR := F0.alloc (.cells #[.bool false, .int .i64 0, .string ⟨([] : List UInt8).toArray⟩] 26)
  replace hB0 := Lib.hid hB0
  replace FR := Lib.hid FR
  have O := Lib.hid (fun W' => fifs_any ⟨a, b, c, d, ⟨ln, li, lt⟩, ⟨hn, hi, ht⟩⟩ ⟨hn, hi, ht⟩ W')
  obtain ⟨r, hr⟩ : ∃ r, sumS ⟨a, b, c, d, ⟨ln, li, lt⟩, ⟨hn, hi, ht⟩⟩ ⟨hn, hi, ht⟩ = r := ⟨_, rfl⟩
  rw [hr] at O
  dsimp only
  rw [hr]
  clear hr hS F0 hs
  obtain ⟨rn, ri, rt⟩ := r
  unfold clV clC at O ⊢
  unfold fsV fsC at O ⊢
  dsimp only at O hB0 FR ⊢
  subst hW
  go_enter Try.func24, Try.ntmps24
  go_wp2_with fail
  refine (O.out _).mono ?_
  rintro e w4 ⟨rfl, f4⟩
  have hB4 : ClB w4 (g + 1) ⟨false, 0, []⟩ := hB0.out.fr f4 (fun e => e)
  obtain ⟨p0, p1, p2, z0, z1, z2⟩ := hB4.facts
  dsimp only at p0 p1 p2
  have HE := Lib.hid (setCl_B hB4 rn ri rt)
  have FE := Lib.hid ((FR.out.trans f4).fresh (setCl_fr w4 (g + 1) rn ri rt) (fun k e => by have : k = g + 1 := e; omega))
  clear hB4 f4
  go_wp2
  exact bodyPost_ret (v := clV ⟨rn, ri, rt⟩) (ret_cl (p := 2) rfl _ _ (g + 1) ⟨rn, ri, rt⟩ (by simp [hg]) HE.out) rfl ⟨rfl, FE.out⟩

theorem ftype_any (op ty : Int) (w : World) : Calls Try.prog 11 #[.int .i64 op, .int .i64 ty] w fun e w' => e = .returned (.int .i64 (typF op ty)) ∧ w = w' := by
  go_enter Try.func11, Try.ntmps11
  go_wp2
  all_goals
    go_ret
    exact ⟨ret_int (by simp only [beq_iff_eq, beq_eq_false_iff_ne, ne_eq] at *; unfold typF; repeat' split; all_goals first | rfl | omega), rfl⟩

theorem fn_not_nil (W : World) (f : Nat) : (binOp .eql 40 (.func (.func f) #[] #[]) .nilFunc).run Try.prog W = .ok (.bool false) W := by kernel_rfl
theorem fn_nil_nil (W : World) : (binOp .eql 40 .nilFunc .nilFunc).run Try.prog W = .ok (.bool true) W := by kernel_rfl
/-- which way the aggregate is told -/
def telFn (op : Int) : Value := if op = 1 then .func (.func 20) #[] #[] else if op = 2 then .func (.func 21) #[] #[] else if op = 3 then .func (.func 22) #[] #[] else if op = 4 then .func (.func 23) #[] #[] else if op = 5 then .func (.func 24) #[] #[] else .nilFunc
theorem ftel_any (op : Int) (w : World) : Calls Try.prog 15 #[.int .i64 op] w fun e w' => e = .returned (telFn op) ∧ w = w' := by
  go_enter Try.func15, Try.ntmps15
  go_wp2
  all_goals
    go_ret
    exact ⟨by simp only [beq_iff_eq, beq_eq_false_iff_ne, ne_eq] at *; unfold telFn; simp_all, rfl⟩

set_option maxHeartbeats 2000000 in
theorem fval_any (op : Int) (s : Fs) (w : World) : Calls Try.prog 9 #[fsV s, .int .i64 op] w fun e w' => e = .returned (clV (valS op s)) ∧ Fr Non w w' := by
  have hnn := fn_not_nil
  have hn0 := fn_nil_nil
  by_cases h : 1 ≤ op ∧ op ≤ 5
  · obtain rfl | rfl | rfl | rfl | rfl : op = 1 ∨ op = 2 ∨ op = 3 ∨ op = 4 ∨ op = 5 := by omega
    · rw [show valS 1 s = ⟨false, s.cnt, []⟩ from rfl]
      have O := Lib.hid (fun W' => ftcnt_any s W')
      have HT : Hid (∀ W', Calls Try.prog 15 #[.int .i64 1] W' fun e w' => e = .returned (.func (.func 20) #[] #[]) ∧ W' = w') := Lib.hid (fun W' => ftel_any 1 W')
      obtain ⟨r, hr⟩ : ∃ r : Cl, (⟨false, s.cnt, []⟩ : Cl) = r := ⟨_, rfl⟩
      rw [hr] at O ⊢
      clear hr
      obtain ⟨rn, ri, rt⟩ := r
      obtain ⟨a, b, c, d, ⟨ln, li, lt⟩, ⟨hn, hi, ht⟩⟩ := s
      obtain ⟨g, hg⟩ : ∃ g, w.heap.size = g := ⟨_, rfl⟩
      obtain ⟨W, hW⟩ : ∃ W, W = w.alloc (.cells #[.int .i64 a, .int .i64 b, .int .i64 c, .bool d, .bool ln, .int .i64 li, .string ⟨lt.toArray⟩, .bool hn, .int .i64 hi, .string ⟨ht.toArray⟩] 28) := ⟨_, rfl⟩
      have hS : FsB W g ⟨a, b, c, d, ⟨ln, li, lt⟩, ⟨hn, hi, ht⟩⟩ := by rw [hW]; exact fs_new w ⟨a, b, c, d, ⟨ln, li, lt⟩, ⟨hn, hi, ht⟩⟩ g hg
      have hs : W.heap.size = g + 1 := by rw [hW]; simp [hg]
      have F0 : Fr Non w W := by rw [hW]; exact (Fr.refl Non w).alloc _
      obtain ⟨c0, c1, c2, c3, c4, c5, c6, c7, c8, c9⟩ := fsB_cells hS
      dsimp only at c0 c1 c2 c3 c4 c5 c6 c7 c8 c9
      have hB0 := cl_newG W ⟨false, 0, []⟩ (g + 1) hs
      have FR := F0.alloc (.cells #[.bool false, .int .i64 0, .string ⟨([] : List UInt8).toArray⟩] 26)
      replace hB0 := Lib.hid hB0
      replace FR := Lib.hid FR
      clear hS F0 hs
      unfold clV clC at O ⊢
      unfold fsV fsC at O ⊢
      dsimp only at O hB0 FR ⊢
      subst hW
      go_enter Try.func9, Try.ntmps9
      go_wp2_with fail
      refine (HT.out _).mono ?_
      rintro e w1 ⟨rfl, rfl⟩
      go_wp2_with fail
      refine (O.out _).mono ?_
      rintro e w4 ⟨rfl, f4⟩
      have hB4 : ClB w4 (g + 1) ⟨false, 0, []⟩ := hB0.out.fr f4 (fun e => e)
      obtain ⟨p0, p1, p2, z0, z1, z2⟩ := hB4.facts
      dsimp only at p0 p1 p2
      have HE := Lib.hid (setCl_B hB4 rn ri rt)
      have FE := Lib.hid ((FR.out.trans f4).fresh (setCl_fr w4 (g + 1) rn ri rt) (fun k e => by have : k = g + 1 := e; omega))
      clear hB4 f4
      go_wp2
      exact bodyPost_ret (v := clV ⟨rn, ri, rt⟩) (ret_cl (p := 4) rfl _ _ (g + 1) ⟨rn, ri, rt⟩ (by simp [hg]) HE.out) rfl ⟨rfl, FE.out⟩
    · rw [show valS 2 s = ⟨false, s.has, []⟩ from rfl]
      have O := Lib.hid (fun W' => fthas_any s W')
      have HT : Hid (∀ W', Calls Try.prog 15 #[.int .i64 2] W' fun e w' => e = .returned (.func (.func 21) #[] #[]) ∧ W' = w') := Lib.hid (fun W' => ftel_any 2 W')
      obtain ⟨r, hr⟩ : ∃ r : Cl, (⟨false, s.has, []⟩ : Cl) = r := ⟨_, rfl⟩
      rw [hr] at O ⊢
      clear hr
      obtain ⟨rn, ri, rt⟩ := r
      obtain ⟨a, b, c, d, ⟨ln, li, lt⟩, ⟨hn, hi, ht⟩⟩ := s
      obtain ⟨g, hg⟩ : ∃ g, w.heap.size = g := ⟨_, rfl⟩
      obtain ⟨W, hW⟩ : ∃ W, W = w.alloc (.cells #[.int .i64 a, .int .i64 b, .int .i64 c, .bool d, .bool ln, .int .i64 li, .string ⟨lt.toArray⟩, .bool hn, .int .i64 hi, .string ⟨ht.toArray⟩] 28) := ⟨_, rfl⟩
      have hS : FsB W g ⟨a, b, c, d, ⟨ln, li, lt⟩, ⟨hn, hi, ht⟩⟩ := by rw [hW]; exact fs_new w ⟨a, b, c, d, ⟨ln, li, lt⟩, ⟨hn, hi, ht⟩⟩ g hg
      have hs : W.heap.size = g + 1 := by rw [hW]; simp [hg]
      have F0 : Fr Non w W := by rw [hW]; exact (Fr.refl Non w).alloc _
      obtain ⟨c0, c1, c2, c3, c4, c5, c6, c7, c8, c9⟩ := fsB_cells hS
      dsimp only at c0 c1 c2 c3 c4 c5 c6 c7 c8 c9
      have hB0 := cl_newG W ⟨false, 0, []⟩ (g + 1) hs
      have FR := F0.alloc (.cells #[.bool false, .int .i64 0, .string ⟨([] : List UInt8).toArray⟩] 26)
      replace hB0 := Lib.hid hB0
      replace FR := Lib.hid FR
      clear hS F0 hs
      unfold clV clC at O ⊢
      unfold fsV fsC at O ⊢
      dsimp only at O hB0 FR ⊢
      subst hW
      go_enter Try.func9, Try.ntmps9
      go_wp2_with fail
      refine (HT.out _).mono ?_
      rintro e w1 ⟨rfl, rfl⟩
      go_wp2_with fail
      refine (O.out _).mono ?_
      rintro e w4 ⟨rfl, f4⟩
      have hB4 : ClB w4 (g + 1) ⟨false, 0, []⟩ := hB0.out.fr f4 (fun e => e)
      obtain ⟨p0, p1, p2, z0, z1, z2⟩ := hB4.facts
      dsimp only at p0 p1 p2
      have HE := Lib.hid (setCl_B hB4 rn ri rt)
      have FE := Lib.hid ((FR.out.trans f4).fresh (setCl_fr w4 (g + 1) rn ri rt) (fun k e => by have : k = g + 1 := e; omega))
      clear hB4 f4
      go_wp2
      exact bodyPost_ret (v := clV ⟨rn, ri, rt⟩) (ret_cl (p := 4) rfl _ _ (g + 1) ⟨rn, ri, rt⟩ (by simp [hg]) HE.out) rfl ⟨rfl, FE.out⟩
    · rw [show valS 3 s = sumS s ⟨false, s.sum, []⟩ from rfl]
      have O := Lib.hid (fun W' => ftsum_any s W')
      have HT : Hid (∀ W', Calls Try.prog 15 #[.int .i64 3] W' fun e w' => e = .returned (.func (.func 22) #[] #[]) ∧ W' = w') := Lib.hid (fun W' => ftel_any 3 W')
      obtain ⟨r, hr⟩ : ∃ r : Cl, (sumS s ⟨false, s.sum, []⟩ : Cl) = r := ⟨_, rfl⟩
      rw [hr] at O ⊢
      clear hr
      obtain ⟨rn, ri, rt⟩ := r
      obtain ⟨a, b, c, d, ⟨ln, li, lt⟩, ⟨hn, hi, ht⟩⟩ := s
      obtain ⟨g, hg⟩ : ∃ g, w.heap.size = g := ⟨_, rfl⟩
      obtain ⟨W, hW⟩ : ∃ W, W = w.alloc (.cells #[.int .i64 a, .int .i64 b, .int .i64 c, .bool d, .bool ln, .int .i64 li, .string ⟨lt.toArray⟩, .bool hn, .int .i64 hi, .string ⟨ht.toArray⟩] 28) := ⟨_, rfl⟩
      have hS : FsB W g ⟨a, b, c, d, ⟨ln, li, lt⟩, ⟨hn, hi, ht⟩⟩ := by rw [hW]; exact fs_new w ⟨a, b, c, d, ⟨ln, li, lt⟩, ⟨hn, hi, ht⟩⟩ g hg
      have hs : W.heap.size = g + 1 := by rw [hW]; simp [hg]
      have F0 : Fr Non w W := by rw [hW]; exact (Fr.refl Non w).alloc _
      obtain ⟨c0, c1, c2, c3, c4, c5, c6, c7, c8, c9⟩ := fsB_cells hS
      dsimp only at c0 c1 c2 c3 c4 c5 c6 c7 c8 c9
      have hB0 := cl_newG W ⟨false, 0, []⟩ (g + 1) hs
      have FR := F0.alloc (.cells #[.bool false, .int .i64 0, .string ⟨([] : List UInt8).toArray⟩] 26)
      replace hB0 := Lib.hid hB0
      replace FR := Lib.hid FR
      clear hS F0 hs
      unfold clV clC at O ⊢
      unfold fsV fsC at O ⊢
      dsimp only at O hB0 FR ⊢
      subst hW
      go_enter Try.func9, Try.ntmps9
      go_wp2_with fail
      refine (HT.out _).mono ?_
      rintro e w1 ⟨rfl, rfl⟩
      go_wp2_with fail
      refine (O.out _).mono ?_
      rintro e w4 ⟨rfl, f4⟩
      have hB4 : ClB w4 (g + 1) ⟨false, 0, []⟩ := hB0.out.fr f4 (fun e => e)
      obtain ⟨p0, p1, p2, z0, z1, z2⟩ := hB4.facts
      dsimp only at p0 p1 p2
      have HE := Lib.hid (setCl_B hB4 rn ri rt)
      have FE := Lib.hid ((FR.out.trans f4).fresh (setCl_fr w4 (g + 1) rn ri rt) (fun k e => by have : k = g + 1 := e; omega))
      clear hB4 f4
      go_wp2
      exact bodyPost_ret (v := clV ⟨rn, ri, rt⟩) (ret_cl (p := 4) rfl _ _ (g + 1) ⟨rn, ri, rt⟩ (by simp [hg]) HE.out) rfl ⟨rfl, FE.out⟩
    · rw [show valS 4 s = sumS s s.low from rfl]
      have O := Lib.hid (fun W' => ftlow_any s W')
      have HT : Hid (∀ W', Calls Try.prog 15 #[.int .i64 4] W' fun e w' => e = .returned (.func (.func 23) #[] #[]) ∧ W' = w') := Lib.hid (fun W' => ftel_any 4 W')
      obtain ⟨r, hr⟩ : ∃ r : Cl, (sumS s s.low : Cl) = r := ⟨_, rfl⟩
      rw [hr] at O ⊢
      clear hr
      obtain ⟨rn, ri, rt⟩ := r
      obtain ⟨a, b, c, d, ⟨ln, li, lt⟩, ⟨hn, hi, ht⟩⟩ := s
      obtain ⟨g, hg⟩ : ∃ g, w.heap.size = g := ⟨_, rfl⟩
      obtain ⟨W, hW⟩ : ∃ W, W = w.alloc (.cells #[.int .i64 a, .int .i64 b, .int .i64 c, .bool d, .bool ln, .int .i64 li, .string ⟨lt.toArray⟩, .bool hn, .int .i64 hi, .string ⟨ht.toArray⟩] 28) := ⟨_, rfl⟩
      have hS : FsB W g ⟨a, b, c, d, ⟨ln, li, lt⟩, ⟨hn, hi, ht⟩⟩ := by rw [hW]; exact fs_new w ⟨a, b, c, d, ⟨ln, li, lt⟩, ⟨hn, hi, ht⟩⟩ g hg
      have hs : W.heap.size = g + 1 := by rw [hW]; simp [hg]
      have F0 : Fr Non w W := by rw [hW]; exact (Fr.refl Non w).alloc _
      obtain ⟨c0, c1, c2, c3, c4, c5, c6, c7, c8, c9⟩ := fsB_cells hS
      dsimp only at c0 c1 c2 c3 c4 c5 c6 c7 c8 c9
      have hB0 := cl_newG W ⟨false, 0, []⟩ (g + 1) hs
      have FR := F0.alloc (.cells #[.bool false, .int .i64 0, .string ⟨([] : List UInt8).toArray⟩] 26)
      replace hB0 := Lib.hid hB0
      replace FR := Lib.hid FR
      clear hS F0 hs
      unfold clV clC at O ⊢
      unfold fsV fsC at O ⊢
      dsimp only at O hB0 FR ⊢
      subst hW
      go_enter Try.func9, Try.ntmps9
      go_wp2_with fail
      refine (HT.out _).mono ?_
      rintro e w1 ⟨rfl, rfl⟩
      go_wp2_with fail
      refine (O.out _).mono ?_
      rintro e w4 ⟨rfl, f4⟩
      have hB4 : ClB w4 (g + 1) ⟨false, 0, []⟩ := hB0.out.fr f4 (fun e => e)
      obtain ⟨p0, p1, p2, z0, z1, z2⟩ := hB4.facts
      dsimp only at p0 p1 p2
      have HE := Lib.hid (setCl_B hB4 rn ri rt)
      have FE := Lib.hid ((FR.out.trans f4).fresh (setCl_fr w4 (g + 1) rn ri rt) (fun k e => by have : k = g + 1 := e; omega))
      clear hB4 f4
      go_wp2
      exact bodyPost_ret (v := clV ⟨rn, ri, rt⟩) (ret_cl (p := 4) rfl _ _ (g + 1) ⟨rn, ri, rt⟩ (by simp [hg]) HE.out) rfl ⟨rfl, FE.out⟩
    · rw [show valS 5 s = sumS s s.high from rfl]
      have O := Lib.hid (fun W' => fthigh_any s W')
      have HT : Hid (∀ W', Calls Try.prog 15 #[.int .i64 5] W' fun e w' => e = .returned (.func (.func 24) #[] #[]) ∧ W' = w') := Lib.hid (fun W' => ftel_any 5 W')
      obtain ⟨r, hr⟩ : ∃ r : Cl, (sumS s s.high : Cl) = r := ⟨_, rfl⟩
      rw [hr] at O ⊢
      clear hr
      obtain ⟨rn, ri, rt⟩ := r
      obtain ⟨a, b, c, d, ⟨ln, li, lt⟩, ⟨hn, hi, ht⟩⟩ := s
      obtain ⟨g, hg⟩ : ∃ g, w.heap.size = g := ⟨_, rfl⟩
      obtain ⟨W, hW⟩ : ∃ W, W = w.alloc (.cells #[.int .i64 a, .int .i64 b, .int .i64 c, .bool d, .bool ln, .int .i64 li, .string ⟨lt.toArray⟩, .bool hn, .int .i64 hi, .string ⟨ht.toArray⟩] 28) := ⟨_, rfl⟩
      have hS : FsB W g ⟨a, b, c, d, ⟨ln, li, lt⟩, ⟨hn, hi, ht⟩⟩ := by rw [hW]; exact fs_new w ⟨a, b, c, d, ⟨ln, li, lt⟩, ⟨hn, hi, ht⟩⟩ g hg
      have hs : W.heap.size = g + 1 := by rw [hW]; simp [hg]
      have F0 : Fr Non w W := by rw [hW]; exact (Fr.refl Non w).alloc _
      obtain ⟨c0, c1, c2, c3, c4, c5, c6, c7, c8, c9⟩ := fsB_cells hS
      dsimp only at c0 c1 c2 c3 c4 c5 c6 c7 c8 c9
      have hB0 := cl_newG W ⟨false, 0, []⟩ (g + 1) hs
      have FR := F0.alloc (.cells #[.bool false, .int .i64 0, .string ⟨([] : List UInt8).toArray⟩] 26)
      replace hB0 := Lib.hid hB0
      replace FR := Lib.hid FR
      clear hS F0 hs
      unfold clV clC at O ⊢
      unfold fsV fsC at O ⊢
      dsimp only at O hB0 FR ⊢
      subst hW
      go_enter Try.func9, Try.ntmps9
      go_wp2_with fail
      refine (HT.out _).mono ?_
      rintro e w1 ⟨rfl, rfl⟩
      go_wp2_with fail
      refine (O.out _).mono ?_
      rintro e w4 ⟨rfl, f4⟩
      have hB4 : ClB w4 (g + 1) ⟨false, 0, []⟩ := hB0.out.fr f4 (fun e => e)
      obtain ⟨p0, p1, p2, z0, z1, z2⟩ := hB4.facts
      dsimp only at p0 p1 p2
      have HE := Lib.hid (setCl_B hB4 rn ri rt)
      have FE := Lib.hid ((FR.out.trans f4).fresh (setCl_fr w4 (g + 1) rn ri rt) (fun k e => by have : k = g + 1 := e; omega))
      clear hB4 f4
      go_wp2
      exact bodyPost_ret (v := clV ⟨rn, ri, rt⟩) (ret_cl (p := 4) rfl _ _ (g + 1) ⟨rn, ri, rt⟩ (by simp [hg]) HE.out) rfl ⟨rfl, FE.out⟩
  · have ht : telFn op = .nilFunc := by unfold telFn; rw [if_neg (by omega), if_neg (by omega), if_neg (by omega), if_neg (by omega), if_neg (by omega)]
    have hv : valS op s = noCl := by unfold valS; rw [if_neg (by omega), if_neg (by omega), if_neg (by omega), if_neg (by omega), if_neg (by omega)]
    have hT := Lib.hid (fun W' => ftel_any op W')
    rw [ht] at hT
    rw [hv]
    clear ht hv h
    obtain ⟨a, b, c, d, ⟨ln, li, lt⟩, ⟨hn, hi, ht⟩⟩ := s
    obtain ⟨g, hg⟩ : ∃ g, w.heap.size = g := ⟨_, rfl⟩
    obtain ⟨W, hW⟩ : ∃ W, W = w.alloc (.cells #[.int .i64 a, .int .i64 b, .int .i64 c, .bool d, .bool ln, .int .i64 li, .string ⟨lt.toArray⟩, .bool hn, .int .i64 hi, .string ⟨ht.toArray⟩] 28) := ⟨_, rfl⟩
    have hS : FsB W g ⟨a, b, c, d, ⟨ln, li, lt⟩, ⟨hn, hi, ht⟩⟩ := by rw [hW]; exact fs_new w ⟨a, b, c, d, ⟨ln, li, lt⟩, ⟨hn, hi, ht⟩⟩ g hg
    have hs : W.heap.size = g + 1 := by rw [hW]; simp [hg]
    have F0 : Fr Non w W := by rw [hW]; exact (Fr.refl Non w).alloc _
    have hB0 := cl_newG W ⟨false, 0, []⟩ (g + 1) hs
    have FR := F0.alloc (.cells #[.bool false, .int .i64 0, .string ⟨([] : List UInt8).toArray⟩] 26)
    replace hB0 := Lib.hid hB0
    replace FR := Lib.hid FR
    clear hS F0 hs
    unfold clV clC noCl
    unfold fsV fsC
    dsimp only at hB0 FR ⊢
    subst hW
    go_enter Try.func9, Try.ntmps9
    go_wp2_with fail
    refine (hT.out _).mono ?_
    rintro e w1 ⟨rfl, rfl⟩
    go_wp2
    exact bodyPost_ret (v := clV ⟨false, 0, []⟩) (ret_cl (p := 4) rfl _ _ (g + 1) ⟨false, 0, []⟩ (by simp [hg]) hB0.out) rfl ⟨rfl, FR.out⟩
end Go.Proofs.Ytincapmagennmaa
