/-
  Joined: Words of our own on memory, for all texts of this seat: what changed between two worlds (Fr), a known block (Blk), bytes that a slice reads as (Bs), bytes in a row of the call's own (Own), and the steps append and convert over them. · Layer 1 as plain functions on lists of bytes: what a number's bytes are (the library's 'uvarint'), which number bytes begin with (rd), and that each is the other's back. Nothing of the program. · Texts as plain lists of bytes: Go's '<' on them, and an order in three ways. Nothing of the program. · Layer 9: a cell as a value; which cells there may be, both programs'. · Layer 9: the order of cells, both programs'. · Words on a cell in a block: read, stored whole, handed back. · Layer 11: a zone as a value; which zones there may be, and which cells they have, both programs'. · Layer 11: what a zone of cells is: how many, how many null, the least and the greatest of the others. Nothing of the program. · Layer 1, what is written, texts: contracts of join and Text, the program's own and the document's. · Layer 1, what is read: contracts of Source's methods. · Layer 11: the closure that notes a cell in a zone. · Slices of slices of bytes that the call owns (Owns), and the steps that append one slice, or one value of one cell, to a row of the call's own. · Slices of one-celled elements of any type: what one reads as (Vs), a row of the call's own (Ow), and the steps over them: append of one, append of many, make, copy, cuts. · Slices of cells: what one reads as (Cs), a row of the call's own (Oc), and the steps over them. · Layer 11: the zone of a list's cells, the program's. · Layer 11: which cells a zone has, which zones there may be, both programs'. · Layer 11: the example; which lists are small, and may be; two zones compared. · Layer 11: which zones there may be, both programs'.
-/
import Derived.Lib.Zigzag
import Derived.Test.YtihofmmbdedhbaaProg
import Derived.WalkKit
import Derived.WalkSpells
import Derived.Deep.AppendSrc
import Derived.Maps.AppendAt
import Derived.Lib.Hide
import Derived.Deep.Draws
import Derived.Lib.AppendStr
import Derived.Lib.Varint
import Derived.Laws.StructEq
import Derived.Laws.Cover1
import Derived.Laws.Rows
import Derived.Laws.ResultCell
import Derived.Deep.RegionHeld3
import Derived.Laws.CopyOwn
import Derived.Laws.OwnMore
import Derived.WalkMore

namespace Go.Proofs.Ytihofmmbdedhbaa
set_option linter.unusedVariables false
set_option linter.unusedSimpArgs false
set_option maxRecDepth 100000
open Go.RowKit

/-! ### What changed: of the blocks that were there, at most those of S -/
structure Fr (S : Nat → Prop) (w w' : World) : Prop where
  os : w'.os = w.os
  tape : w'.tape = w.tape
  output : w'.output = w.output
  size : w.heap.size ≤ w'.heap.size
  block : ∀ k, k < w.heap.size → ¬ S k → w'.heap[k]? = w.heap[k]?

/-- nothing -/
def Non : Nat → Prop := fun _ => False
/-- one block -/
def One (g : Nat) : Nat → Prop := fun k => k = g

theorem Fr.refl (S : Nat → Prop) (w : World) : Fr S w w := ⟨rfl, rfl, rfl, Nat.le_refl _, fun _ _ _ => rfl⟩
theorem Fr.join {S S' : Nat → Prop} {w w1 w2 : World} (h : Fr S w w1) (h' : Fr S' w1 w2) (hs : ∀ k, k < w.heap.size → S' k → S k) : Fr S w w2 :=
  ⟨h'.os.trans h.os, h'.tape.trans h.tape, h'.output.trans h.output, Nat.le_trans h.size h'.size,
    fun k hk hn => (h'.block k (Nat.lt_of_lt_of_le hk h.size) (fun e => hn (hs k hk e))).trans (h.block k hk hn)⟩
theorem Fr.trans {S : Nat → Prop} {w w1 w2 : World} (h : Fr S w w1) (h' : Fr S w1 w2) : Fr S w w2 := h.join h' fun _ _ e => e
theorem Fr.then {S : Nat → Prop} {w w1 w2 : World} (h : Fr S w w1) (h' : Fr Non w1 w2) : Fr S w w2 := h.join h' fun _ _ e => e.elim
theorem Fr.mono {S S' : Nat → Prop} {w w' : World} (h : Fr S w w') (hs : ∀ k, k < w.heap.size → S k → S' k) : Fr S' w w' :=
  ⟨h.os, h.tape, h.output, h.size, fun k hk hn => h.block k hk fun e => hn (hs k hk e)⟩
theorem Fr.any {S : Nat → Prop} {w w' : World} (h : Fr Non w w') : Fr S w w' := h.mono fun _ _ e => e.elim
theorem Fr.fresh {S S' : Nat → Prop} {w w1 w2 : World} (h : Fr S w w1) (h' : Fr S' w1 w2) (hs : ∀ k, S' k → w.heap.size ≤ k) : Fr S w w2 :=
  h.join h' fun k hk e => absurd (hs k e) (by omega)
theorem Fr.drew {S : Nat → Prop} {w w' : World} (h : Fr S w w') : Fr S w w'.drew := ⟨h.os, h.tape, h.output, h.size, h.block⟩
theorem Fr.alloc {S : Nat → Prop} {w w' : World} (h : Fr S w w') (o : Obj) : Fr S w (w'.alloc o) :=
  h.then ⟨rfl, rfl, rfl, by simp, fun k hk _ => Below.heap_alloc _ _ _ hk⟩
theorem Fr.setCell {S : Nat → Prop} {w w' : World} (h : Fr S w w') {p : Addr} (hp : p.block < w.heap.size → S p.block) (u : Value) : Fr S w (w'.setCell p u) :=
  ⟨h.os, h.tape, h.output, by simpa [World.setCell] using h.size, fun k hk hn => (Below.heap_setCell w' p u k (fun e => hn (by subst e; exact hp hk))).trans (h.block k hk hn)⟩
theorem Fr.set1 {g : Nat} {w w' : World} (h : Fr (One g) w w') (i : Nat) (u : Value) : Fr (One g) w (w'.setCell ⟨g, i, none⟩ u) := h.setCell (p := ⟨g, i, none⟩) (fun _ => rfl) u
theorem Fr.below {w w' : World} (h : Fr Non w w') : Below w.heap.size w w' := ⟨h.os, h.tape, h.output, h.size, fun k hk => h.block k hk fun e => e⟩
theorem Fr.of_grown {w w' : World} {row : Option Nat} (h : w.grownBy w' row) : Fr (fun k => row = some k) w w' :=
  ⟨h.os, h.tape, h.output, h.size, fun k hk hn => h.block k hk (fun e => hn e.symm)⟩
theorem Fr.cell {S : Nat → Prop} {w w' : World} (h : Fr S w w') {p : Addr} (hp : p.block < w.heap.size) (hn : ¬ S p.block) : w'.cell? p = w.cell? p := World.cell?_of_block (h.block _ hp hn)

theorem ret_boolE {a b : Bool} (h : a = b) : Ending.returned (.bool a) = .returned (.bool b) := by rw [h]
theorem ret_int {k : IntKind} {a b : Int} (h : a = b) : Ending.returned (.int k a) = .returned (.int k b) := by rw [h]

/-! ### A block that is known whole -/
def Blk (w : World) (g : Nat) (t : TypeId) (cs : Array Value) : Prop := w.heap[g]? = some (.cells cs t (0, 0))
theorem Blk.lt {w : World} {g : Nat} {t : TypeId} {cs : Array Value} (h : Blk w g t cs) : g < w.heap.size := (Array.getElem?_eq_some_iff.1 h).1
theorem Blk.cell {w : World} {g : Nat} {t : TypeId} {cs : Array Value} (h : Blk w g t cs) (i : Nat) : w.cell? ⟨g, i, none⟩ = cs[i]? := cell_of_row w g i cs t (0, 0) h
theorem Blk.frozen {w : World} {g : Nat} {t : TypeId} {cs : Array Value} (h : Blk w g t cs) (i : Nat) : w.frozen? ⟨g, i, none⟩ = false := by
  unfold Blk at h; simp [World.frozen?, h]
theorem Blk.new (w : World) (t : TypeId) (cs : Array Value) : Blk (w.alloc (.cells cs t)) w.heap.size t cs := heap_alloc_new w _
theorem Blk.fr {S : Nat → Prop} {w w' : World} {g : Nat} {t : TypeId} {cs : Array Value} (h : Blk w g t cs) (hf : Fr S w w') (hn : ¬ S g) : Blk w' g t cs := (hf.block g h.lt hn).trans h
theorem Blk.set {w : World} {g : Nat} {t : TypeId} {cs : Array Value} (h : Blk w g t cs) (i : Nat) (u : Value) : Blk (w.setCell ⟨g, i, none⟩ u) g t (cs.setIfInBounds i u) := by
  unfold Blk at h ⊢; simp [World.setCell, Array.getElem?_modify, h]
theorem Blk.drew {w : World} {g : Nat} {t : TypeId} {cs : Array Value} (h : Blk w g t cs) : Blk w.drew g t cs := h
/-! ### Bytes -/
def bv (b : UInt8) : Value := .int .u8 b.toNat
theorem add_block (a : Addr) (n : Nat) : (a.add n).block = a.block := by unfold Addr.add; split <;> rfl
theorem add_add (a : Addr) (i j : Nat) : (a.add i).add j = a.add (i + j) := by
  unfold Addr.add
  by_cases hi : i = 0 <;> by_cases hj : j = 0 <;> simp [hi, hj, Nat.add_assoc]

/-- the slice v reads as the bytes l -/
def Bs (w : World) (v : Value) (l : List UInt8) : Prop :=
  ∃ A c, v = .slice A l.length c ∧ l.length ≤ c ∧ (A = none → c = 0) ∧ ∀ a, A = some a → ∀ j (h : j < l.length), w.cell? (a.add j) = some (bv l[j])

theorem Bs.nil_ (w : World) : Bs w (.slice none 0 0) [] := ⟨none, 0, rfl, Nat.le_refl _, fun _ => rfl, fun _ h => by cases h⟩
theorem Bs.keep {w w' : World} {v : Value} {l : List UInt8} (h : Bs w v l) (hk : ∀ k, v.ownBlock = some k → k < w.heap.size → w'.heap[k]? = w.heap[k]?) : Bs w' v l := by
  obtain ⟨A, c, rfl, h1, h2, h3⟩ := h
  refine ⟨A, c, rfl, h1, h2, fun a ha j hj => ?_⟩
  have := h3 a ha j hj
  subst ha
  have hb := World.block_lt_of_cell? w _ this
  rw [add_block] at hb
  rw [← this]
  exact World.cell?_of_block (by rw [add_block]; exact hk _ rfl hb)
theorem Bs.fr {S : Nat → Prop} {w w' : World} {v : Value} {l : List UInt8} (h : Bs w v l) (hf : Fr S w w') (hn : ∀ k, v.ownBlock = some k → ¬ S k) : Bs w' v l :=
  h.keep fun k hk hlt => hf.block k hlt (hn k hk)
theorem Bs.non {w w' : World} {v : Value} {l : List UInt8} (h : Bs w v l) (hf : Fr Non w w') : Bs w' v l := h.fr hf fun _ _ e => e
theorem Bs.drew {w : World} {v : Value} {l : List UInt8} (h : Bs w v l) : Bs w.drew v l := h
theorem Bs.shape {w : World} {v : Value} {l : List UInt8} (h : Bs w v l) : ∃ A c, v = .slice A l.length c := by
  obtain ⟨A, c, rfl, _⟩ := h; exact ⟨A, c, rfl⟩

/-- bytes that the call owns: a row of its own, from block B on -/
def Own (w : World) (B : Nat) (v : Value) (l : List UInt8) : Prop := w.ownsRow B 5 1 v l.length (l.map bv)
theorem Own.lt {w : World} {B : Nat} {v : Value} {l : List UInt8} (h : Own w B v l) : ∀ k, v.ownBlock = some k → B ≤ k ∧ k < w.heap.size := World.ownsRow.lt h
theorem Own.bs {w : World} {B : Nat} {v : Value} {l : List UInt8} (h : Own w B v l) : Bs w v l := by
  rcases h.2 with ⟨rfl, h0⟩ | ⟨g, cap, cur, rfl, _, _, hle, _, _, _⟩
  · have hl : l = [] := List.eq_nil_of_length_eq_zero h0
    subst hl; exact Bs.nil_ w
  · refine ⟨_, cap, rfl, hle, (fun h => by cases h), fun a ha j hj => ?_⟩
    cases ha
    exact World.ownsRow.cells h (g := g) rfl j _ (by simp [hj])
theorem Own.keep {w w' : World} {B : Nat} {v : Value} {l : List UInt8} (h : Own w B v l) (hk : ∀ k, v.ownBlock = some k → w'.heap[k]? = w.heap[k]?) : Own w' B v l := by
  refine ⟨h.1, ?_⟩
  rcases h.2 with h2 | ⟨g, cap, cur, hv, hb, hg, r⟩
  · exact .inl h2
  · exact .inr ⟨g, cap, cur, hv, hb, by rw [hk g (by rw [hv]; rfl)]; exact hg, r⟩
theorem Own.fr {S : Nat → Prop} {w w' : World} {B : Nat} {v : Value} {l : List UInt8} (h : Own w B v l) (hf : Fr S w w') (hn : ∀ k, v.ownBlock = some k → ¬ S k) : Own w' B v l :=
  h.keep fun k hk => hf.block k (h.lt k hk).2 (hn k hk)
theorem Own.non {w w' : World} {B : Nat} {v : Value} {l : List UInt8} (h : Own w B v l) (hf : Fr Non w w') : Own w' B v l := h.fr hf fun _ _ e => e
theorem Own.alloc {w : World} {B : Nat} {v : Value} {l : List UInt8} (h : Own w B v l) (o : Obj) : Own (w.alloc o) B v l := h.non ((Fr.refl _ _).alloc o)
theorem Own.mono {w : World} {B B' : Nat} {v : Value} {l : List UInt8} (h : Own w B v l) (hB : B' ≤ B) : Own w B' v l := by
  refine ⟨h.1, ?_⟩
  rcases h.2 with h2 | ⟨g, cap, cur, hv, hb, r⟩
  · exact .inl h2
  · exact .inr ⟨g, cap, cur, hv, by omega, r⟩

theorem Own.row {w : World} {B : Nat} {v : Value} {l : List UInt8} (h : Own w B v l) (hn : l ≠ []) : ∃ g cap, v = .slice (some ⟨g, 0, none⟩) l.length cap ∧ B ≤ g ∧ g < w.heap.size ∧ l.length ≤ cap ∧ cap ≤ maxLen := by
  rcases h.2 with ⟨rfl, h0⟩ | ⟨g, cap, cur, rfl, hb, hg, hle, hm, _⟩
  · exact absurd (List.eq_nil_of_length_eq_zero h0) hn
  · exact ⟨g, cap, rfl, hb, (Array.getElem?_eq_some_iff.1 hg).1, hle, hm⟩
theorem Own.cell {w : World} {B g n cap : Nat} {l : List UInt8} (h : Own w B (.slice (some ⟨g, 0, none⟩) n cap) l) (hn : n = l.length) (j : Nat) (b : UInt8) (hb : l[j]? = some b) : w.cell? ⟨g, j, none⟩ = some (.int .u8 b.toNat) := by
  subst hn
  have hj : j < l.length := (List.getElem?_eq_some_iff.1 hb).1
  rw [World.ownsRow.cellAt h j (by omega), List.getElem?_map, hb]; rfl
theorem Own.frozen {w : World} {B g n cap : Nat} {l : List UInt8} (h : Own w B (.slice (some ⟨g, 0, none⟩) n cap) l) (hn : n = l.length) (j : Nat) : w.frozen? ⟨g, j, none⟩ = false := by
  subst hn; exact World.ownsRow.frozenAt h j
theorem Own.drew {w : World} {B : Nat} {v : Value} {l : List UInt8} (h : Own w B v l) : Own w.drew B v l := h

/-! ### A slice of slices of bytes -/
def Bss (w : World) (v : Value) (ls : List (List UInt8)) : Prop :=
  ∃ A c, v = .slice A ls.length c ∧ ls.length ≤ c ∧ (A = none → c = 0) ∧ ∀ a, A = some a → ∀ j (h : j < ls.length), ∃ u, w.cell? (a.add j) = some u ∧ Bs w u ls[j]
theorem Bss.non {w w' : World} {v : Value} {ls : List (List UInt8)} (h : Bss w v ls) (hf : Fr Non w w') : Bss w' v ls := by
  obtain ⟨A, c, rfl, h1, h2, h3⟩ := h
  refine ⟨A, c, rfl, h1, h2, fun a ha j hj => ?_⟩
  obtain ⟨u, hu, hb⟩ := h3 a ha j hj
  exact ⟨u, by rw [← hu]; exact hf.cell (World.block_lt_of_cell? w _ hu) (fun e => e), hb.non hf⟩
/-! ### Pieces of a slice of bytes -/
end Go.Proofs.Ytihofmmbdedhbaa


namespace Go.Proofs.Ytihofmmbdedhbaa
set_option linter.unusedVariables false
set_option linter.unusedSimpArgs false
set_option maxRecDepth 100000

/-- the number that bytes begin with, from its i-th byte on, acc being what the bytes ahead of it make -/
def rd (i acc : Nat) : List UInt8 → Option (Nat × List UInt8)
  | [] => none
  | c :: r => if (i = 9 ∧ 1 < c.toNat) ∨ (0 < i ∧ c.toNat = 0) then none else if c.toNat < 128 then some (acc + c.toNat * 128 ^ i, r) else rd (i + 1) (acc + (c.toNat - 128) * 128 ^ i) r

end Go.Proofs.Ytihofmmbdedhbaa


namespace Go.Proofs.Ytihofmmbdedhbaa
set_option linter.unusedVariables false
set_option linter.unusedSimpArgs false
set_option maxRecDepth 100000

abbrev Tx := List UInt8

theorem bless : ∀ (x y : Tx), Op.bytesLess x y = decide (x < y)
  | x, [] => by cases x <;> simp [Op.bytesLess]
  | [], b :: y => by simp [Op.bytesLess]
  | a :: x, b :: y => by
    rw [Op.bytesLess, bless x y, Bool.eq_iff_iff]
    simp [List.cons_lt_cons_iff]

/-- ahead, the same, behind: of texts, and of numbers -/
def cmpT (x y : Tx) : Int := if x < y then -1 else if y < x then 1 else 0
def cmpI (x y : Int) : Int := if x < y then -1 else if y < x then 1 else 0
theorem tx_tri (x y : Tx) : x < y ∨ x = y ∨ y < x := by
  by_cases h1 : x < y
  · exact .inl h1
  · by_cases h2 : y < x
    · exact .inr (.inr h2)
    · exact .inr (.inl (List.le_antisymm (List.not_lt.1 h2) (List.not_lt.1 h1)))
theorem cmpT_lt {x y : Tx} (h : x < y) : cmpT x y = -1 := by unfold cmpT; rw [if_pos h]
theorem cmpT_gt {x y : Tx} (h : y < x) : cmpT x y = 1 := by
  unfold cmpT; rw [if_neg (fun e => List.lt_irrefl x (List.lt_trans e h)), if_pos h]
theorem cmpT_self (x : Tx) : cmpT x x = 0 := by unfold cmpT; rw [if_neg (List.lt_irrefl x), if_neg (List.lt_irrefl x)]
theorem cmpT_neg (x y : Tx) : cmpT y x = -cmpT x y := by
  rcases tx_tri x y with h | h | h
  · rw [cmpT_lt h, cmpT_gt h]; rfl
  · subst h; rw [cmpT_self]; rfl
  · rw [cmpT_lt h, cmpT_gt h]
theorem cmpT_zero {x y : Tx} : cmpT x y = 0 ↔ x = y := by
  rcases tx_tri x y with h | h | h
  · rw [cmpT_lt h]; exact ⟨fun e => by omega, fun e => absurd (e ▸ h) (List.lt_irrefl _)⟩
  · subst h; simp [cmpT_self]
  · rw [cmpT_gt h]; exact ⟨fun e => by omega, fun e => absurd (e ▸ h) (List.lt_irrefl _)⟩
theorem cmpT_le {x y : Tx} : cmpT x y ≤ 0 ↔ ¬ y < x := by
  rcases tx_tri x y with h | h | h
  · rw [cmpT_lt h]; exact ⟨fun _ e => List.lt_irrefl x (List.lt_trans h e), fun _ => by omega⟩
  · subst h; simp [cmpT_self, List.lt_irrefl]
  · rw [cmpT_gt h]; simp [h]
theorem cmpT_trans {x y z : Tx} (h1 : cmpT x y ≤ 0) (h2 : cmpT y z ≤ 0) : cmpT x z ≤ 0 := by
  rw [cmpT_le] at *
  exact fun h => h2 (by
    rcases tx_tri x y with h3 | h3 | h3
    · exact List.lt_trans h h3
    · subst h3; exact h
    · exact absurd h3 h1)
end Go.Proofs.Ytihofmmbdedhbaa


namespace Go.Proofs.Ytihofmmbdedhbaa
set_option linter.unusedVariables false
set_option linter.unusedSimpArgs false
set_option maxRecDepth 100000
open Go.RowKit

/-- a cell: null or not, its number, its text -/
structure Cl where
  null : Bool
  num : Int
  txt : List UInt8
  deriving DecidableEq
/-- its cells, and its value -/
def clC (c : Cl) : Array Value := #[.bool c.null, .int .i64 c.num, .string ⟨c.txt.toArray⟩]
def clV (c : Cl) : Value := .agg (clC c)
/-- are two the same? -/
def ceq (a b : Cl) : Bool := decide (a = b)
theorem ceq_self (a : Cl) : ceq a a = true := by simp [ceq]
theorem ceq_is {a b : Cl} (h : ceq a b = true) : a = b := by simpa [ceq] using h
theorem eq_parts (a b : Cl) : ceq a b = (a.null == b.null && (a.num == b.num && a.txt == b.txt)) := by
  obtain ⟨an, ai, at_⟩ := a
  obtain ⟨bn, bi, bt⟩ := b
  unfold ceq
  rw [Bool.eq_iff_iff]
  simp

theorem run_eql_cl (W : World) (a b : Cl) : (binOp .eql 26 (.agg #[.bool a.null, .int .i64 a.num, .string ⟨a.txt.toArray⟩]) (.agg #[.bool b.null, .int .i64 b.num, .string ⟨b.txt.toArray⟩])).run Try.prog W = .ok (.bool (ceq a b)) W := by
  rw [eq_parts]
  obtain ⟨an, ai, at_⟩ := a
  obtain ⟨bn, bi, bt⟩ := b
  go_simp
  by_cases h1 : an = bn <;> by_cases h2 : ai = bi <;> by_cases h3 : at_ = bt <;> simp [h1, h2, h3]
theorem csame_any (a b : Cl) (w : World) : Calls Try.prog 32 #[clV a, clV b] w fun e w' => e = .returned (.bool (ceq a b)) ∧ Fr Non w w' := by
  have h := fun W => run_eql_cl W a b
  unfold clV clC
  go_enter Try.func32, Try.ntmps32
  go_wp2
  go_ret
  exact ⟨rfl, ((Fr.refl _ _).alloc _).alloc _⟩

/-- is there such a type? -/
def isTy (ty : Int) : Bool := ty == 1 || ty == 2 || ty == 3
/-- which cells there may be -/
def mayC (ty : Int) (nl : Bool) (c : Cl) : Bool :=
  isTy ty && (if c.null then nl && (c.num == 0 && c.txt.isEmpty) else if ty = 3 then c.num == 0 && decide (c.txt.length ≤ 40) else c.txt.isEmpty && (ty == 1 || (c.num == 0 || c.num == 1)))

theorem istype_any (ty : Int) (w : World) : Calls Try.prog 46 #[.int .i64 ty] w fun e w' => e = .returned (.bool (isTy ty)) ∧ w = w' := by
  go_enter Try.func46, Try.ntmps46
  go_wp2
  all_goals
    go_ret
    exact ⟨ret_boolE (by simp_all [isTy]), rfl⟩

theorem slen (l : List UInt8) : ByteArray.size ⟨l.toArray⟩ = l.length := by simp [ByteArray.size]
theorem mayC_no {ty : Int} (h1 : ¬ ty = 1) (h2 : ¬ ty = 2) (h3 : ¬ ty = 3) (nl : Bool) (c : Cl) : mayC ty nl c = false := by
  simp [mayC, isTy, h1, h2, h3]
theorem mayC_null (ty : Int) (nl : Bool) (i : Int) (t : Tx) : mayC ty nl ⟨true, i, t⟩ = (nl && (isTy ty && ceq ⟨true, i, t⟩ ⟨true, 0, []⟩)) := by
  rw [eq_parts]
  unfold mayC
  cases isTy ty <;> cases nl <;> cases t <;> simp

set_option maxHeartbeats 1000000 in
theorem may_any (ty : Int) (nl : Bool) (c : Cl) (w : World) : Calls Try.prog 33 #[.int .i64 ty, .bool nl, clV c] w fun e w' => e = .returned (.bool (mayC ty nl c)) ∧ Fr Non w w' := by
  obtain ⟨n, i, t⟩ := c
  unfold clV clC
  cases n
  · have hs := slen t
    by_cases h1 : ty = 1
    · subst h1
      go_enter Try.func33, Try.ntmps33
      go_wp2
      all_goals
        go_ret
        exact ⟨ret_boolE (by first | rfl | (simp [mayC, isTy]; done) | (simp_all [mayC, isTy]; done) | (simp_all [mayC, isTy] <;> omega)), (Fr.refl _ _).alloc _⟩
    · by_cases h2 : ty = 2
      · subst h2
        go_enter Try.func33, Try.ntmps33
        go_wp2
        all_goals
          go_ret
          exact ⟨ret_boolE (by first | rfl | (simp [mayC, isTy]; done) | (simp_all [mayC, isTy]; done) | (simp_all [mayC, isTy] <;> omega)), (Fr.refl _ _).alloc _⟩
      · by_cases h3 : ty = 3
        · subst h3
          go_enter Try.func33, Try.ntmps33
          go_wp2
          all_goals
            go_ret
            exact ⟨ret_boolE (by first | rfl | (simp [mayC, isTy]; done) | (simp_all [mayC, isTy]; done) | (simp_all [mayC, isTy] <;> omega)), (Fr.refl _ _).alloc _⟩
        · have H := Lib.hid (mayC_no h1 h2 h3 nl ⟨false, i, t⟩)
          go_enter Try.func33, Try.ntmps33
          go_wp2
          go_ret
          exact ⟨ret_boolE H.out.symm, (Fr.refl _ _).alloc _⟩
  · have H := Lib.hid (mayC_null ty nl i t)
    cases nl
    · go_enter Try.func33, Try.ntmps33
      go_wp2
      go_ret
      exact ⟨ret_boolE (by rw [H.out]; rfl), (Fr.refl _ _).alloc _⟩
    · cases hT : isTy ty with
      | false =>
        have h0 := fun W => istype_any ty W
        simp only [hT] at h0
        have HT := Lib.hid hT
        clear hT
        go_enter Try.func33, Try.ntmps33
        go_wp2_with fail
        refine (h0 _).mono ?_
        rintro e w1 ⟨rfl, rfl⟩
        go_wp2
        go_ret
        exact ⟨ret_boolE (by rw [H.out, HT.out]; rfl), (Fr.refl _ _).alloc _⟩
      | true =>
        have h0 := fun W => istype_any ty W
        simp only [hT] at h0
        have HT := Lib.hid hT
        clear hT
        go_enter Try.func33, Try.ntmps33
        go_wp2_with fail
        refine (h0 _).mono ?_
        rintro e w1 ⟨rfl, rfl⟩
        go_wp2_with fail
        refine (csame_any ⟨true, i, t⟩ ⟨true, 0, []⟩ _).mono ?_
        rintro e w1 ⟨rfl, hf1⟩
        go_wp2
        go_ret
        exact ⟨ret_boolE (by rw [H.out, HT.out]; rfl), ((Fr.refl _ _).alloc _).trans hf1⟩

set_option maxHeartbeats 1000000 in
theorem rmay_any (ty : Int) (nl : Bool) (c : Cl) (w : World) : Calls Try.prog 27 #[.int .i64 ty, .bool nl, clV c] w fun e w' => e = .returned (.bool (mayC ty nl c)) ∧ Fr Non w w' := by
  obtain ⟨n, i, t⟩ := c
  unfold clV clC
  by_cases h0 : ty < 1
  · have H := Lib.hid (mayC_no (ty := ty) (by omega) (by omega) (by omega) nl ⟨n, i, t⟩)
    go_enter Try.func27, Try.ntmps27
    go_wp2
    go_ret
    exact ⟨ret_boolE H.out.symm, (Fr.refl _ _).alloc _⟩
  · by_cases h4 : 3 < ty
    · have H := Lib.hid (mayC_no (ty := ty) (by omega) (by omega) (by omega) nl ⟨n, i, t⟩)
      go_enter Try.func27, Try.ntmps27
      go_wp2
      go_ret
      exact ⟨ret_boolE H.out.symm, (Fr.refl _ _).alloc _⟩
    · have hs := slen t
      have h3 : ty = 1 ∨ ty = 2 ∨ ty = 3 := by omega
      clear h0 h4
      cases n
      · rcases h3 with h | h | h
        · subst h
          go_enter Try.func27, Try.ntmps27
          go_wp2
          all_goals
            go_ret
            exact ⟨ret_boolE (by first | rfl | (simp [mayC, isTy]; done) | (simp_all [mayC, isTy]; done) | (simp_all [mayC, isTy] <;> omega)), (Fr.refl _ _).alloc _⟩
        · subst h
          go_enter Try.func27, Try.ntmps27
          go_wp2
          all_goals
            go_ret
            exact ⟨ret_boolE (by first | rfl | (simp [mayC, isTy]; done) | (simp_all [mayC, isTy]; done) | (simp_all [mayC, isTy] <;> omega)), (Fr.refl _ _).alloc _⟩
        · subst h
          go_enter Try.func27, Try.ntmps27
          go_wp2
          all_goals
            go_ret
            exact ⟨ret_boolE (by first | rfl | (simp [mayC, isTy]; done) | (simp_all [mayC, isTy]; done) | (simp_all [mayC, isTy] <;> omega)), (Fr.refl _ _).alloc _⟩
      · have hT : isTy ty = true := by rcases h3 with rfl | rfl | rfl <;> rfl
        have hl : ¬ ty < 1 := by omega
        have hg : ¬ 3 < ty := by omega
        clear h3
        cases nl
        · go_enter Try.func27, Try.ntmps27
          go_wp2
          all_goals
            go_ret
            exact ⟨ret_boolE (by first | (simp [mayC, hT]; done) | (simp_all [mayC]; done)), (Fr.refl _ _).alloc _⟩
        · go_enter Try.func27, Try.ntmps27
          go_wp2
          all_goals
            go_ret
            exact ⟨ret_boolE (by first | (simp [mayC, hT]; done) | (simp_all [mayC]; done)), (Fr.refl _ _).alloc _⟩
end Go.Proofs.Ytihofmmbdedhbaa


namespace Go.Proofs.Ytihofmmbdedhbaa
set_option linter.unusedVariables false
set_option linter.unusedSimpArgs false
set_option maxRecDepth 100000
open Go.RowKit

theorem nani_any (x : Int) (w : World) : Calls Try.prog 56 #[.int .i64 x] w fun e w' => e = .returned (.bool false) ∧ w = w' := by
  have h : (x != x) = false := by simp
  go_enter Try.func56, Try.ntmps56
  go_wp2
  go_ret
  exact ⟨ret_boolE (by simp), rfl⟩
theorem nant_any (x : Tx) (w : World) : Calls Try.prog 57 #[.string ⟨x.toArray⟩] w fun e w' => e = .returned (.bool false) ∧ w = w' := by
  go_enter Try.func57, Try.ntmps57
  go_wp2
  go_ret
  exact ⟨ret_boolE (by simp), rfl⟩

theorem cmpi_any (x y : Int) (w : World) : Calls Try.prog 44 #[.int .i64 x, .int .i64 y] w fun e w' => e = .returned (.int .i64 (cmpI x y)) ∧ w = w' := by
  go_enter Try.func44, Try.ntmps44
  go_wp2_with fail
  refine (nani_any x w).mono ?_
  rintro e w1 ⟨rfl, rfl⟩
  go_wp2_with fail
  refine (nani_any y w).mono ?_
  rintro e w1 ⟨rfl, rfl⟩
  go_wp2
  all_goals
    go_ret
    exact ⟨ret_int (by unfold cmpI; first | (rw [if_pos (by omega)]; done) | (rw [if_neg (by omega), if_pos (by omega)]; done) | (rw [if_neg (by omega), if_neg (by omega)]; done)), rfl⟩

/-- Go's '<' both ways, decided -/
theorem less_lt {x y : Tx} (h : x < y) : Op.bytesLess x y = true := by rw [bless]; simpa using h
theorem less_gt {x y : Tx} (h : y < x) : Op.bytesLess x y = false ∧ (x == y) = false := by
  refine ⟨by rw [bless]; simpa using fun e => List.lt_irrefl x (List.lt_trans e h), beq_eq_false_iff_ne.2 fun e => ?_⟩
  subst e; exact List.lt_irrefl x h
theorem less_self (x : Tx) : Op.bytesLess x x = false := by rw [bless]; simp

theorem cmpt_any (x y : Tx) (w : World) : Calls Try.prog 45 #[.string ⟨x.toArray⟩, .string ⟨y.toArray⟩] w fun e w' => e = .returned (.int .i64 (cmpT x y)) ∧ w = w' := by
  rcases tx_tri x y with hl | hl | hl
  · have h1 := less_lt hl
    have H := Lib.hid (cmpT_lt hl)
    clear hl
    go_enter Try.func45, Try.ntmps45
    go_wp2_with fail
    refine (nant_any x w).mono ?_
    rintro e w1 ⟨rfl, rfl⟩
    go_wp2_with fail
    refine (nant_any y w).mono ?_
    rintro e w1 ⟨rfl, rfl⟩
    go_wp2
    go_ret
    exact ⟨ret_int (by rw [H.out]), rfl⟩
  · subst hl
    have h1 := less_self x
    have H := Lib.hid (cmpT_self x)
    go_enter Try.func45, Try.ntmps45
    go_wp2_with fail
    refine (nant_any x w).mono ?_
    rintro e w1 ⟨rfl, rfl⟩
    go_wp2_with fail
    refine (nant_any x w).mono ?_
    rintro e w1 ⟨rfl, rfl⟩
    go_wp2
    go_ret
    exact ⟨ret_int (by rw [H.out]), rfl⟩
  · obtain ⟨h1, h2⟩ := less_gt hl
    have H := Lib.hid (cmpT_gt hl)
    clear hl
    go_enter Try.func45, Try.ntmps45
    go_wp2_with fail
    refine (nant_any x w).mono ?_
    rintro e w1 ⟨rfl, rfl⟩
    go_wp2_with fail
    refine (nant_any y w).mono ?_
    rintro e w1 ⟨rfl, rfl⟩
    go_wp2
    go_ret
    exact ⟨ret_int (by rw [H.out]), rfl⟩

/-! ### The order -/
def ordC (a b : Cl) : Int := if a.null && !b.null then -1 else if b.null && !a.null then 1 else if a.num = b.num then cmpT a.txt b.txt else cmpI a.num b.num
theorem cmpI_lt {x y : Int} (h : x < y) : cmpI x y = -1 := by unfold cmpI; rw [if_pos h]
theorem cmpI_gt {x y : Int} (h : y < x) : cmpI x y = 1 := by unfold cmpI; rw [if_neg (by omega), if_pos h]
theorem ordC_null {a b : Cl} (h : a.null = b.null) : ordC a b = if a.num = b.num then cmpT a.txt b.txt else cmpI a.num b.num := by
  unfold ordC
  cases ha : a.null <;> rw [ha] at h <;> simp [← h]
theorem ordC_mk (n : Bool) (i j : Int) (s t : Tx) : ordC ⟨n, i, s⟩ ⟨n, j, t⟩ = if i = j then cmpT s t else cmpI i j := ordC_null (a := ⟨n, i, s⟩) (b := ⟨n, j, t⟩) rfl
theorem ordC_tf {a b : Cl} (h : a.null = true) (h' : b.null = false) : ordC a b = -1 := by unfold ordC; rw [h, h']; rfl
theorem ordC_ft {a b : Cl} (h : a.null = false) (h' : b.null = true) : ordC a b = 1 := by unfold ordC; rw [h, h']; rfl
theorem ordC_neg (a b : Cl) : ordC b a = -ordC a b := by
  cases ha : a.null <;> cases hb : b.null
  · rw [ordC_null (ha.trans hb.symm), ordC_null (hb.trans ha.symm)]
    by_cases h : a.num = b.num
    · rw [if_pos h, if_pos h.symm, cmpT_neg]
    · rw [if_neg h, if_neg (fun e => h e.symm)]
      unfold cmpI
      split <;> split <;> first | rfl | omega | (split <;> first | rfl | omega)
  · rw [ordC_ft ha hb, ordC_tf hb ha]
  · rw [ordC_tf ha hb, ordC_ft hb ha]; rfl
  · rw [ordC_null (ha.trans hb.symm), ordC_null (hb.trans ha.symm)]
    by_cases h : a.num = b.num
    · rw [if_pos h, if_pos h.symm, cmpT_neg]
    · rw [if_neg h, if_neg (fun e => h e.symm)]
      unfold cmpI
      split <;> split <;> first | rfl | omega | (split <;> first | rfl | omega)
theorem cmpI_zero {x y : Int} (h : cmpI x y = 0) : x = y := by
  unfold cmpI at h
  split at h
  · omega
  · split at h <;> omega
theorem ordC_zero (a b : Cl) : (ordC a b == 0) = ceq a b := by
  rw [Bool.eq_iff_iff, beq_iff_eq]
  obtain ⟨an, ai, at_⟩ := a
  obtain ⟨bn, bi, bt⟩ := b
  simp only [ceq, decide_eq_true_eq, Cl.mk.injEq]
  cases an <;> cases bn
  · rw [ordC_mk]
    by_cases h : ai = bi
    · simp only [h, if_true]; rw [cmpT_zero]; simp
    · simp only [h, if_false]
      exact ⟨fun e => absurd (cmpI_zero e) h, fun e => absurd e.2.1 (by simp)⟩
  · rw [ordC_ft rfl rfl]; simp
  · rw [ordC_tf rfl rfl]; simp
  · rw [ordC_mk]
    by_cases h : ai = bi
    · simp only [h, if_true]; rw [cmpT_zero]; simp
    · simp only [h, if_false]
      exact ⟨fun e => absurd (cmpI_zero e) h, fun e => absurd e.2.1 (by simp)⟩
theorem cmpI_le {x y : Int} : cmpI x y ≤ 0 ↔ x ≤ y := by
  unfold cmpI
  split
  · omega
  · split <;> omega
theorem ordC_trans {a b c : Cl} (h1 : ordC a b ≤ 0) (h2 : ordC b c ≤ 0) : ordC a c ≤ 0 := by
  have step : ∀ {a b c : Cl}, a.null = b.null → b.null = c.null → ordC a b ≤ 0 → ordC b c ≤ 0 → ordC a c ≤ 0 := by
    intro a b c hab hbc h1 h2
    rw [ordC_null hab] at h1
    rw [ordC_null hbc] at h2
    rw [ordC_null (hab.trans hbc)]
    by_cases e1 : a.num = b.num <;> by_cases e2 : b.num = c.num
    · rw [if_pos e1] at h1; rw [if_pos e2] at h2; rw [if_pos (e1.trans e2)]; exact cmpT_trans h1 h2
    · rw [if_neg e2] at h2
      rw [if_neg (fun e => e2 (e1 ▸ e)), e1]; exact h2
    · rw [if_neg e1] at h1
      rw [if_neg (fun e => e1 (e.trans e2.symm)), ← e2]; exact h1
    · rw [if_neg e1, cmpI_le] at h1
      rw [if_neg e2, cmpI_le] at h2
      rw [if_neg (by omega), cmpI_le]; omega
  cases ha : a.null <;> cases hb : b.null <;> cases hc : c.null
  · exact step (ha.trans hb.symm) (hb.trans hc.symm) h1 h2
  · rw [ordC_ft hb hc] at h2; omega
  · rw [ordC_ft ha hb] at h1; omega
  · rw [ordC_ft ha hb] at h1; omega
  · rw [ordC_tf ha hc]; omega
  · rw [ordC_ft hb hc] at h2; omega
  · rw [ordC_tf ha hc]; omega
  · exact step (ha.trans hb.symm) (hb.trans hc.symm) h1 h2
set_option maxHeartbeats 1000000 in
theorem order_any (a b : Cl) (w : World) : Calls Try.prog 29 #[clV a, clV b] w fun e w' => e = .returned (.int .i64 (ordC a b)) ∧ Fr Non w w' := by
  obtain ⟨an, ai, at_⟩ := a
  obtain ⟨bn, bi, bt⟩ := b
  unfold clV clC
  cases an <;> cases bn
  case false.true =>
    go_enter Try.func29, Try.ntmps29
    go_wp2
    go_ret
    exact ⟨rfl, ((Fr.refl _ _).alloc _).alloc _⟩
  case true.false =>
    go_enter Try.func29, Try.ntmps29
    go_wp2
    go_ret
    exact ⟨rfl, ((Fr.refl _ _).alloc _).alloc _⟩
  all_goals
    by_cases h : ai = bi
    · have HI := Lib.hid h
      have hb : (ai != bi) = false := by rw [h]; simp
      clear h
      go_enter Try.func29, Try.ntmps29
      go_wp2_with fail
      refine (cmpt_any at_ bt _).mono ?_
      rintro e w1 ⟨rfl, rfl⟩
      go_wp2
      go_ret
      exact ⟨ret_int (by rw [ordC_mk]; exact (if_pos HI.out).symm), ((Fr.refl _ _).alloc _).alloc _⟩
    · have HI := Lib.hid h
      have hb : (ai != bi) = true := by simpa using h
      clear h
      go_enter Try.func29, Try.ntmps29
      go_wp2_with fail
      refine (cmpi_any ai bi _).mono ?_
      rintro e w1 ⟨rfl, rfl⟩
      go_wp2
      go_ret
      exact ⟨ret_int (by rw [ordC_mk]; exact (if_neg HI.out).symm), ((Fr.refl _ _).alloc _).alloc _⟩

theorem ordC_of_lt {n : Bool} {i j : Int} {s t : Tx} (h : i < j) : ordC ⟨n, i, s⟩ ⟨n, j, t⟩ = -1 := by
  rw [ordC_mk]; simp only [show ¬ i = j by omega, if_false]; exact cmpI_lt h
theorem ordC_of_gt {n : Bool} {i j : Int} {s t : Tx} (h : j < i) : ordC ⟨n, i, s⟩ ⟨n, j, t⟩ = 1 := by
  rw [ordC_mk]; simp only [show ¬ i = j by omega, if_false]; exact cmpI_gt h
theorem ordC_of_eq {n : Bool} {i : Int} {s t : Tx} : ordC ⟨n, i, s⟩ ⟨n, i, t⟩ = cmpT s t := by rw [ordC_mk]; simp

set_option maxHeartbeats 1000000 in
theorem rorder_any (a b : Cl) (w : World) : Calls Try.prog 26 #[clV a, clV b] w fun e w' => e = .returned (.int .i64 (ordC a b)) ∧ Fr Non w w' := by
  obtain ⟨an, ai, at_⟩ := a
  obtain ⟨bn, bi, bt⟩ := b
  unfold clV clC
  cases an <;> cases bn
  case false.true =>
    go_enter Try.func26, Try.ntmps26
    go_wp2
    go_ret
    exact ⟨rfl, ((Fr.refl _ _).alloc _).alloc _⟩
  case true.false =>
    go_enter Try.func26, Try.ntmps26
    go_wp2
    go_ret
    exact ⟨rfl, ((Fr.refl _ _).alloc _).alloc _⟩
  all_goals
    rcases Int.lt_trichotomy ai bi with h | h | h
    · go_enter Try.func26, Try.ntmps26
      go_wp2
      go_ret
      exact ⟨ret_int (ordC_of_lt h).symm, ((Fr.refl _ _).alloc _).alloc _⟩
    · subst h
      rcases tx_tri at_ bt with hl | hl | hl
      · have h1 := less_lt hl
        have H := Lib.hid (cmpT_lt hl)
        clear hl
        go_enter Try.func26, Try.ntmps26
        go_wp2
        go_ret
        exact ⟨ret_int (by rw [ordC_of_eq, H.out]), ((Fr.refl _ _).alloc _).alloc _⟩
      · subst hl
        have h1 := less_self at_
        have H := Lib.hid (cmpT_self at_)
        go_enter Try.func26, Try.ntmps26
        go_wp2
        go_ret
        exact ⟨ret_int (by rw [ordC_of_eq, H.out]), ((Fr.refl _ _).alloc _).alloc _⟩
      · obtain ⟨h1, h2⟩ := less_gt hl
        have H := Lib.hid (cmpT_gt hl)
        clear hl
        go_enter Try.func26, Try.ntmps26
        go_wp2
        go_ret
        exact ⟨ret_int (by rw [ordC_of_eq, H.out]), ((Fr.refl _ _).alloc _).alloc _⟩
    · go_enter Try.func26, Try.ntmps26
      go_wp2
      go_ret
      exact ⟨ret_int (ordC_of_gt h).symm, ((Fr.refl _ _).alloc _).alloc _⟩
end Go.Proofs.Ytihofmmbdedhbaa


namespace Go.Proofs.Ytihofmmbdedhbaa
set_option linter.unusedVariables false
set_option linter.unusedSimpArgs false
set_option maxRecDepth 100000
open Go.RowKit

/-- the cell c lies in block g -/
abbrev ClB (w : World) (g : Nat) (c : Cl) : Prop := Blk w g 26 #[.bool c.null, .int .i64 c.num, .string ⟨c.txt.toArray⟩]
/-- what a walk asks of it -/
theorem ClB.facts {w : World} {g : Nat} {c : Cl} (h : ClB w g c) :
    w.cell? ⟨g, 0, none⟩ = some (.bool c.null) ∧ w.cell? ⟨g, 1, none⟩ = some (.int .i64 c.num) ∧ w.cell? ⟨g, 2, none⟩ = some (.string ⟨c.txt.toArray⟩) ∧
    w.frozen? ⟨g, 0, none⟩ = false ∧ w.frozen? ⟨g, 1, none⟩ = false ∧ w.frozen? ⟨g, 2, none⟩ = false :=
  ⟨h.cell 0, h.cell 1, h.cell 2, h.frozen 0, h.frozen 1, h.frozen 2⟩
theorem cl_new (w : World) (c : Cl) : ClB (w.alloc (.cells #[.bool c.null, .int .i64 c.num, .string ⟨c.txt.toArray⟩] 26)) w.heap.size c := Blk.new _ _ _
end Go.Proofs.Ytihofmmbdedhbaa


namespace Go.Proofs.Ytihofmmbdedhbaa
set_option linter.unusedVariables false
set_option linter.unusedSimpArgs false
set_option maxRecDepth 100000
open Go.RowKit

/-- a zone: how many cells, how many of them null, the least and the greatest of the others -/
structure Zn where
  rows : Int
  nulls : Int
  low : Cl
  high : Cl
  deriving DecidableEq
/-- its cells, and its value -/
def znC (z : Zn) : Array Value := #[.int .i64 z.rows, .int .i64 z.nulls, .bool z.low.null, .int .i64 z.low.num, .string ⟨z.low.txt.toArray⟩, .bool z.high.null, .int .i64 z.high.num, .string ⟨z.high.txt.toArray⟩]
def znV (z : Zn) : Value := .agg (znC z)
def noCl : Cl := ⟨false, 0, []⟩
def noZn : Zn := ⟨0, 0, noCl, noCl⟩
def zeq (a b : Zn) : Bool := decide (a = b)
theorem zeq_self (a : Zn) : zeq a a = true := by simp [zeq]
theorem zeq_parts (a b : Zn) : zeq a b = (a.rows == b.rows && (a.nulls == b.nulls && (a.low.null == b.low.null && (a.low.num == b.low.num && (a.low.txt == b.low.txt && (a.high.null == b.high.null && (a.high.num == b.high.num && a.high.txt == b.high.txt))))))) := by
  obtain ⟨ar, an, ⟨aln, ali, alt⟩, ⟨ahn, ahi, aht⟩⟩ := a
  obtain ⟨br, bn, ⟨bln, bli, blt⟩, ⟨bhn, bhi, bht⟩⟩ := b
  unfold zeq
  rw [Bool.eq_iff_iff]
  simp [and_assoc]

/-- the zone z lies in block g -/
abbrev ZnB (w : World) (g : Nat) (z : Zn) : Prop := Blk w g 28 (znC z)
/-- what a walk asks of it -/
def ZCells (w : World) (g : Nat) (z : Zn) : Prop :=
  w.cell? ⟨g, 0, none⟩ = some (.int .i64 z.rows) ∧ w.cell? ⟨g, 1, none⟩ = some (.int .i64 z.nulls) ∧
  w.cell? ⟨g, 2, none⟩ = some (.bool z.low.null) ∧ w.cell? ⟨g, 3, none⟩ = some (.int .i64 z.low.num) ∧ w.cell? ⟨g, 4, none⟩ = some (.string ⟨z.low.txt.toArray⟩) ∧
  w.cell? ⟨g, 5, none⟩ = some (.bool z.high.null) ∧ w.cell? ⟨g, 6, none⟩ = some (.int .i64 z.high.num) ∧ w.cell? ⟨g, 7, none⟩ = some (.string ⟨z.high.txt.toArray⟩)
def ZFroz (w : World) (g : Nat) : Prop :=
  w.frozen? ⟨g, 0, none⟩ = false ∧ w.frozen? ⟨g, 1, none⟩ = false ∧ w.frozen? ⟨g, 2, none⟩ = false ∧ w.frozen? ⟨g, 3, none⟩ = false ∧
  w.frozen? ⟨g, 4, none⟩ = false ∧ w.frozen? ⟨g, 5, none⟩ = false ∧ w.frozen? ⟨g, 6, none⟩ = false ∧ w.frozen? ⟨g, 7, none⟩ = false
theorem znB_cells {w : World} {g : Nat} {z : Zn} (h : ZnB w g z) : ZCells w g z :=
  ⟨h.cell 0, h.cell 1, h.cell 2, h.cell 3, h.cell 4, h.cell 5, h.cell 6, h.cell 7⟩
theorem znB_froz {w : World} {g : Nat} {z : Zn} (h : ZnB w g z) : ZFroz w g :=
  ⟨h.frozen 0, h.frozen 1, h.frozen 2, h.frozen 3, h.frozen 4, h.frozen 5, h.frozen 6, h.frozen 7⟩
/-- a zone, and behind it a cell -/
structure ZnCl (w : World) (g : Nat) (z : Zn) (c : Cl) : Prop where
  one : ZnB w g z
  two : ClB w (g + 1) c
theorem ZnCl.non {w w' : World} {g : Nat} {z : Zn} {c : Cl} (h : ZnCl w g z c) (hf : Fr Non w w') : ZnCl w' g z c := ⟨h.one.fr hf (fun e => e), h.two.fr hf (fun e => e)⟩
theorem znCl_new (w : World) (g : Nat) (z : Zn) (c : Cl) (hg : g = w.heap.size) : ZnCl ((w.alloc (.cells (znC z) 28)).alloc (.cells (clC c) 26)) g z c := by
  subst hg
  refine ⟨(Blk.new _ _ _).fr ((Fr.refl Non _).alloc _) (fun e => e), ?_⟩
  have h : ClB ((w.alloc (.cells (znC z) 28)).alloc (.cells (clC c) 26)) (w.alloc (.cells (znC z) 28)).heap.size c := Blk.new _ _ _
  rw [show (w.alloc (.cells (znC z) 28)).heap.size = w.heap.size + 1 by simp] at h
  exact h

/-! ### Which zones there may be -/
/-- is there a least and a greatest? -/
def bndZ (z : Zn) : Bool := decide (z.nulls < z.rows)
def cntZ (z : Zn) : Bool := decide (0 ≤ z.nulls ∧ z.nulls ≤ z.rows ∧ z.rows ≤ 4096)
def mayZ (ty : Int) (z : Zn) : Bool :=
  cntZ z && isTy ty && (if bndZ z then mayC ty false z.low && mayC ty false z.high && decide (ordC z.low z.high ≤ 0) else ceq z.low noCl && ceq z.high noCl)
def hasZ (z : Zn) (c : Cl) : Bool := if c.null then decide (0 < z.nulls) else bndZ z && decide (ordC z.low c ≤ 0) && decide (ordC c z.high ≤ 0)

theorem bnd_any (z : Zn) (w : World) : Calls Try.prog 28 #[znV z] w fun e w' => e = .returned (.bool (bndZ z)) ∧ Fr Non w w' := by
  unfold znV znC
  go_enter Try.func28, Try.ntmps28
  go_wp2
  go_ret
  exact ⟨rfl, (Fr.refl _ _).alloc _⟩

theorem cnt_zn (z : Zn) (w : World) : Calls Try.prog 30 #[znV z] w fun e w' => e = .returned (.bool (cntZ z)) ∧ Fr Non w w' := by
  unfold znV znC
  go_enter Try.func30, Try.ntmps30
  go_wp2
  all_goals
    go_ret
    exact ⟨ret_boolE (by unfold cntZ; first | (simp_all; done) | (simp_all; omega) | (simp; omega)), (Fr.refl _ _).alloc _⟩

theorem ist_zn (ty : Int) (w : World) : Calls Try.prog 31 #[.int .i64 ty] w fun e w' => e = .returned (.bool (isTy ty)) ∧ Fr Non w w' := by
  have HM := Lib.hid (may_any ty true ⟨true, 0, []⟩ w)
  have e1 : mayC ty true ⟨true, 0, []⟩ = isTy ty := by simp [mayC]
  rw [e1] at HM
  clear e1
  go_enter Try.func31, Try.ntmps31
  go_wp2_with fail
  refine HM.out.mono ?_
  rintro e w1 ⟨rfl, f1⟩
  go_wp2
  go_ret
  exact ⟨rfl, f1⟩
end Go.Proofs.Ytihofmmbdedhbaa


namespace Go.Proofs.Ytihofmmbdedhbaa
set_option linter.unusedVariables false
set_option linter.unusedSimpArgs false
set_option maxRecDepth 100000
open Go.RowKit

def liveC (l : List Cl) : List Cl := l.filter (fun c => !c.null)
def nulC (l : List Cl) : Nat := (l.filter (fun c => c.null)).length
theorem nulC_rest (l : List Cl) : nulC l + (liveC l).length = l.length := by
  unfold nulC liveC
  induction l with
  | nil => rfl
  | cons c l ih => cases h : c.null <;> simp [h] <;> omega
theorem liveC_app (l m : List Cl) : liveC (l ++ m) = liveC l ++ liveC m := by simp [liveC]
theorem nulC_app (l m : List Cl) : nulC (l ++ m) = nulC l + nulC m := by simp [nulC]
theorem liveC_null {c : Cl} (h : c.null = true) : liveC [c] = [] := by simp [liveC, h]
theorem liveC_one {c : Cl} (h : c.null = false) : liveC [c] = [c] := by simp [liveC, h]
theorem nulC_null {c : Cl} (h : c.null = true) : nulC [c] = 1 := by simp [nulC, h]
theorem nulC_one {c : Cl} (h : c.null = false) : nulC [c] = 0 := by simp [nulC, h]
theorem mem_liveC {l : List Cl} {c : Cl} : c ∈ liveC l ↔ c ∈ l ∧ c.null = false := by simp [liveC]

/-- lo and hi are the least and the greatest of l -/
def Bnds (l : List Cl) (lo hi : Cl) : Prop := (l = [] ∧ lo = noCl ∧ hi = noCl) ∨ (lo ∈ l ∧ hi ∈ l ∧ ∀ c ∈ l, ordC lo c ≤ 0 ∧ ordC c hi ≤ 0)
theorem ordC_self (a : Cl) : ordC a a = 0 := by
  have := ordC_zero a a
  rw [ceq_self] at this; simpa using this
theorem ordC_asym {a b : Cl} (h1 : ordC a b ≤ 0) (h2 : ordC b a ≤ 0) : a = b := by
  rw [ordC_neg a b] at h2
  have := ordC_zero a b
  rw [show ordC a b = 0 by omega] at this
  exact ceq_is this.symm
theorem bnds_uniq {l : List Cl} {lo hi lo' hi' : Cl} (h : Bnds l lo hi) (h' : Bnds l lo' hi') : lo = lo' ∧ hi = hi' := by
  rcases h with ⟨e, h1, h2⟩ | ⟨h1, h2, h3⟩
  · rcases h' with ⟨_, h1', h2'⟩ | ⟨h1', _, _⟩
    · exact ⟨h1.trans h1'.symm, h2.trans h2'.symm⟩
    · rw [e] at h1'; cases h1'
  · rcases h' with ⟨e, _, _⟩ | ⟨h1', h2', h3'⟩
    · rw [e] at h1; cases h1
    · exact ⟨ordC_asym (h3 _ h1').1 (h3' _ h1).1, ordC_asym (h3' _ h2).2 (h3 _ h2').2⟩
theorem bnds_step {l : List Cl} {lo hi : Cl} (h : Bnds l lo hi) (c : Cl) :
    Bnds (l ++ [c]) (if (l.isEmpty || decide (ordC c lo < 0)) = true then c else lo) (if (l.isEmpty || decide (0 < ordC c hi)) = true then c else hi) := by
  rcases h with ⟨rfl, _, _⟩ | ⟨h1, h2, h3⟩
  · right
    simp [ordC_self]
  · right
    have he : l.isEmpty = false := by cases l with
      | nil => cases h1
      | cons _ _ => rfl
    rw [he]
    simp only [Bool.false_or, decide_eq_true_eq]
    refine ⟨?_, ?_, ?_⟩
    · split <;> simp [h1]
    · split <;> simp [h2]
    · intro d hd
      rw [List.mem_append, List.mem_singleton] at hd
      have n1 := ordC_neg c lo
      have n2 := ordC_neg c hi
      rcases hd with hd | rfl
      · obtain ⟨q1, q2⟩ := h3 d hd
        constructor
        · split
          · exact ordC_trans (by omega) q1
          · exact q1
        · split
          · exact ordC_trans q2 (by omega)
          · exact q2
      · constructor
        · split
          · exact Int.le_of_eq (ordC_self _)
          · omega
        · split
          · exact Int.le_of_eq (ordC_self _)
          · omega

/-- a zone with one cell more noted -/
def noteZ (first : Bool) (z : Zn) (c : Cl) : Zn :=
  ⟨z.rows, z.nulls, if (first || decide (ordC c z.low < 0)) = true then c else z.low, if (first || decide (0 < ordC c z.high)) = true then c else z.high⟩
/-- z bounds l, which is empty if first is so -/
structure JInv (r n : Int) (l : List Cl) (z : Zn) (first : Bool) : Prop where
  rows : z.rows = r
  nulls : z.nulls = n
  first : first = l.isEmpty
  bnds : Bnds l z.low z.high
theorem jinv_start (r n : Int) : JInv r n [] ⟨r, n, noCl, noCl⟩ true := ⟨rfl, rfl, rfl, .inl ⟨rfl, rfl, rfl⟩⟩
theorem jinv_note {r n : Int} {l : List Cl} {z : Zn} {first : Bool} (h : JInv r n l z first) (c : Cl) : JInv r n (l ++ [c]) (noteZ first z c) false := by
  obtain ⟨h1, h2, rfl, h4⟩ := h
  exact ⟨h1, h2, by simp, bnds_step h4 c⟩
theorem jinv_null {r n m : Int} {l : List Cl} {z : Zn} {first : Bool} (h : JInv r n l z first) (hm : m = n + 1) : JInv r m l ⟨z.rows, z.nulls + 1, z.low, z.high⟩ first :=
  ⟨h.rows, by rw [hm, ← h.nulls], h.first, h.bnds⟩

/-- z is the zone of l -/
structure IsOf (l : List Cl) (z : Zn) : Prop where
  rows : z.rows = l.length
  nulls : z.nulls = nulC l
  bnds : Bnds (liveC l) z.low z.high
theorem isOf_uniq {l : List Cl} {z y : Zn} (h : IsOf l z) (h' : IsOf l y) : z = y := by
  obtain ⟨e1, e2⟩ := bnds_uniq h.bnds h'.bnds
  have e3 := h.rows.trans h'.rows.symm
  have e4 := h.nulls.trans h'.nulls.symm
  obtain ⟨r, n, lo, hi⟩ := z
  obtain ⟨r', n', lo', hi'⟩ := y
  dsimp only at *
  rw [e1, e2, e3, e4]
theorem jinv_end {l : List Cl} {z : Zn} {first : Bool} (h : JInv l.length (nulC l) (liveC l) z first) : IsOf l z := ⟨h.rows, h.nulls, h.bnds⟩
theorem jinv_yes {n : Int} {l : List Cl} {z : Zn} {first : Bool} {k : Nat} (hk : k < l.length) (h : JInv n (nulC (l.take k)) (liveC (l.take k)) z first) (hn : l[k].null = true) :
    JInv n (nulC (l.take (k + 1))) (liveC (l.take (k + 1))) ⟨z.rows, z.nulls + 1, z.low, z.high⟩ first := by
  rw [List.take_succ_eq_append_getElem hk, liveC_app, nulC_app, liveC_null hn, nulC_null hn, List.append_nil]
  exact jinv_null h (by simp)
theorem jinv_no {n : Int} {l : List Cl} {z : Zn} {first : Bool} {k : Nat} (hk : k < l.length) (h : JInv n (nulC (l.take k)) (liveC (l.take k)) z first) (hn : l[k].null = false) :
    JInv n (nulC (l.take (k + 1))) (liveC (l.take (k + 1))) (noteZ first z l[k]) false := by
  rw [List.take_succ_eq_append_getElem hk, liveC_app, nulC_app, liveC_one hn, nulC_one hn]
  exact jinv_note h _
theorem jinv_le {n : Int} {l : List Cl} {z : Zn} {first : Bool} {k : Nat} (hk : k ≤ l.length) (h : JInv n (nulC (l.take k)) (liveC (l.take k)) z first) : 0 ≤ z.nulls ∧ z.nulls ≤ k := by
  have e := nulC_rest (l.take k)
  rw [List.length_take, Nat.min_eq_left hk] at e
  rw [h.nulls]
  omega

/-! ### What follows -/
theorem isOf_bnd {l : List Cl} {z : Zn} (h : IsOf l z) : bndZ z = !(liveC l).isEmpty := by
  have e := nulC_rest l
  unfold bndZ
  rw [h.rows, h.nulls]
  cases hr : liveC l with
  | nil => rw [hr] at e; simp at e; simp; omega
  | cons a m => rw [hr] at e; simp at e; simp; omega
theorem isOf_has {l : List Cl} {z : Zn} {c : Cl} (h : IsOf l z) (hc : c ∈ l) : hasZ z c = true := by
  unfold hasZ
  cases hn : c.null with
  | true =>
    rw [if_pos rfl, h.nulls]
    have : c ∈ l.filter (fun c => c.null) := by simp [hc, hn]
    have := List.length_pos_of_mem this
    unfold nulC
    exact decide_eq_true (by omega)
  | false =>
    have hr : c ∈ liveC l := mem_liveC.2 ⟨hc, hn⟩
    rw [if_neg (by simp), isOf_bnd h]
    rcases h.bnds with ⟨e, _, _⟩ | ⟨_, _, h3⟩
    · rw [e] at hr; cases hr
    · have he : (liveC l).isEmpty = false := by cases hx : liveC l with
        | nil => rw [hx] at hr; cases hr
        | cons _ _ => rfl
      obtain ⟨q1, q2⟩ := h3 c hr
      rw [he]; simp [q1, q2]
theorem mayC_false {ty : Int} {c : Cl} (h : mayC ty true c = true) (hn : c.null = false) : mayC ty false c = true := by
  unfold mayC at *
  rw [hn] at h ⊢
  exact h
theorem isOf_may {ty : Int} {l : List Cl} {z : Zn} (h : IsOf l z) (ht : isTy ty = true) (hm : ∀ c ∈ l, mayC ty true c = true) (hl : l.length ≤ 4096) : mayZ ty z = true := by
  have e := nulC_rest l
  have hc : cntZ z = true := decide_eq_true (by rw [h.rows, h.nulls]; omega)
  unfold mayZ
  rw [hc, ht, isOf_bnd h]
  rcases h.bnds with ⟨q, q1, q2⟩ | ⟨h1, h2, h3⟩
  · rw [q, q1, q2]; simp [ceq_self]
  · have he : (liveC l).isEmpty = false := by cases hx : liveC l with
      | nil => rw [hx] at h1; cases h1
      | cons _ _ => rfl
    rw [he]
    obtain ⟨m1, n1⟩ := mem_liveC.1 h1
    obtain ⟨m2, n2⟩ := mem_liveC.1 h2
    simp [mayC_false (hm _ m1) n1, mayC_false (hm _ m2) n2, (h3 _ h2).1]
/-- what Join notes of a zone -/
def endsZ (z : Zn) : List Cl := if bndZ z = true then [z.low, z.high] else []
theorem isOf_join {a b : List Cl} {za zb z : Zn} {first : Bool} (ha : IsOf a za) (hb : IsOf b zb) (h : JInv (za.rows + zb.rows) (za.nulls + zb.nulls) (endsZ za ++ endsZ zb) z first) : IsOf (a ++ b) z := by
  refine ⟨?_, ?_, ?_⟩
  · rw [h.rows, ha.rows, hb.rows, List.length_append]; omega
  · rw [h.nulls, ha.nulls, hb.nulls, nulC_app]; omega
  · rw [liveC_app]
    have key : ∀ {l : List Cl} {y : Zn}, IsOf l y → (liveC l = [] ∧ endsZ y = []) ∨ (endsZ y = [y.low, y.high] ∧ y.low ∈ liveC l ∧ y.high ∈ liveC l ∧ ∀ c ∈ liveC l, ordC y.low c ≤ 0 ∧ ordC c y.high ≤ 0) := by
      intro l y hy
      have hbd := isOf_bnd hy
      rcases hy.bnds with ⟨q, _, _⟩ | ⟨h1, h2, h3⟩
      · left; refine ⟨q, ?_⟩
        unfold endsZ; rw [hbd, q]; rfl
      · right
        have he : (liveC l).isEmpty = false := by cases hx : liveC l with
          | nil => rw [hx] at h1; cases h1
          | cons _ _ => rfl
        refine ⟨?_, h1, h2, h3⟩
        unfold endsZ; rw [hbd, he]; rfl
    have sub : ∀ {l : List Cl} {y : Zn}, IsOf l y → ∀ c ∈ endsZ y, c ∈ liveC l := by
      intro l y hy c hc
      rcases key hy with ⟨_, q⟩ | ⟨q, q1, q2, _⟩
      · rw [q] at hc; cases hc
      · rw [q] at hc; simp at hc; rcases hc with rfl | rfl <;> assumption
    rcases h.bnds with ⟨q, q1, q2⟩ | ⟨h1, h2, h3⟩
    · left
      refine ⟨?_, q1, q2⟩
      obtain ⟨u, v⟩ := List.append_eq_nil_iff.1 q
      rcases key ha with ⟨q3, _⟩ | ⟨q3, _⟩
      · rcases key hb with ⟨q4, _⟩ | ⟨q4, _⟩
        · rw [q3, q4]; rfl
        · rw [q4] at v; cases v
      · rw [q3] at u; cases u
    · right
      refine ⟨?_, ?_, ?_⟩
      · rcases List.mem_append.1 h1 with h | h
        · exact List.mem_append_left _ (sub ha _ h)
        · exact List.mem_append_right _ (sub hb _ h)
      · rcases List.mem_append.1 h2 with h | h
        · exact List.mem_append_left _ (sub ha _ h)
        · exact List.mem_append_right _ (sub hb _ h)
      · intro c hc
        rcases List.mem_append.1 hc with hc | hc
        · rcases key ha with ⟨q, _⟩ | ⟨q, q1, q2, q3⟩
          · rw [q] at hc; cases hc
          · have g1 := h3 za.low (List.mem_append_left _ (by rw [q]; simp))
            have g2 := h3 za.high (List.mem_append_left _ (by rw [q]; simp))
            obtain ⟨r1, r2⟩ := q3 c hc
            exact ⟨ordC_trans g1.1 r1, ordC_trans r2 g2.2⟩
        · rcases key hb with ⟨q, _⟩ | ⟨q, q1, q2, q3⟩
          · rw [q] at hc; cases hc
          · have g1 := h3 zb.low (List.mem_append_right _ (by rw [q]; simp))
            have g2 := h3 zb.high (List.mem_append_right _ (by rw [q]; simp))
            obtain ⟨r1, r2⟩ := q3 c hc
            exact ⟨ordC_trans g1.1 r1, ordC_trans r2 g2.2⟩
end Go.Proofs.Ytihofmmbdedhbaa


namespace Go.Proofs.Ytihofmmbdedhbaa
set_option linter.unusedVariables false
set_option linter.unusedSimpArgs false
set_option maxRecDepth 100000
open Go.RowKit

/-- a row of slices, from the head of block g on, that read as the lists ls -/
def Parts (w : World) (g : Nat) (xs : List Value) (ls : List (List UInt8)) : Prop :=
  xs.length = ls.length ∧ ∀ j x l, xs[j]? = some x → ls[j]? = some l → w.cell? ⟨g, j, none⟩ = some x ∧ Bs w x l
theorem Parts.non {w w' : World} {g : Nat} {xs : List Value} {ls : List (List UInt8)} (h : Parts w g xs ls) (hf : Fr Non w w') : Parts w' g xs ls :=
  ⟨h.1, fun j x l hx hl => by
    obtain ⟨h1, h2⟩ := h.2 j x l hx hl
    exact ⟨(hf.cell (p := ⟨g, j, none⟩) (World.block_lt_of_cell? w _ h1) (fun e => e)).trans h1, h2.non hf⟩⟩
theorem Parts.two {w : World} {t : TypeId} {x y : Value} {l m : List UInt8} (hx : Bs w x l) (hy : Bs w y m) : Parts (w.alloc (.cells #[x, y] t)) w.heap.size [x, y] [l, m] := by
  refine ⟨rfl, fun j u k hu hk => ?_⟩
  have hb := Blk.new w t #[x, y]
  have hf : Fr Non w (w.alloc (.cells #[x, y] t)) := (Fr.refl _ _).alloc _
  match j with
  | 0 =>
    obtain rfl : x = u := by simpa using hu
    obtain rfl : l = k := by simpa using hk
    exact ⟨hb.cell 0, hx.non hf⟩
  | 1 =>
    obtain rfl : y = u := by simpa using hu
    obtain rfl : m = k := by simpa using hk
    exact ⟨hb.cell 1, hy.non hf⟩
  | j + 2 => simp at hu

theorem Own.shape {w : World} {B : Nat} {v : Value} {l : List UInt8} (h : Own w B v l) : ∃ A c, v = .slice A l.length c := h.bs.shape

end Go.Proofs.Ytihofmmbdedhbaa


namespace Go.Proofs.Ytihofmmbdedhbaa
set_option linter.unusedVariables false
set_option linter.unusedSimpArgs false
set_option maxRecDepth 100000
open Go.RowKit

/-- a source in block g: what is left, and whether it failed -/
def Src (w : World) (g : Nat) (l : List UInt8) (bad : Bool) : Prop := Blk w g 61 #[.string ⟨l.toArray⟩, .bool bad] ∧ (bad = true → l = [])
abbrev ptr (g : Nat) : Value := .pointer (some ⟨g, 0, none⟩)

theorem Src.fr {S : Nat → Prop} {w w' : World} {g : Nat} {l : List UInt8} {bad : Bool} (h : Src w g l bad) (hf : Fr S w w') (hn : ¬ S g) : Src w' g l bad := ⟨h.1.fr hf hn, h.2⟩

/-- what a number leaves -/
def rest (l : List UInt8) : List UInt8 := match rd 0 0 l with | none => [] | some (_, r) => r
end Go.Proofs.Ytihofmmbdedhbaa


namespace Go.Proofs.Ytihofmmbdedhbaa
set_option linter.unusedVariables false
set_option linter.unusedSimpArgs false
set_option maxRecDepth 100000
open Go.RowKit

/-- a bound stored, as a walk spells it -/
def setLow (w : World) (g : Nat) (n : Bool) (i : Int) (t : List UInt8) : World := ((w.setCell ⟨g, 2, none⟩ (.bool n)).setCell ⟨g, 3, none⟩ (.int .i64 i)).setCell ⟨g, 4, none⟩ (.string ⟨t.toArray⟩)
def setHigh (w : World) (g : Nat) (n : Bool) (i : Int) (t : List UInt8) : World := ((w.setCell ⟨g, 5, none⟩ (.bool n)).setCell ⟨g, 6, none⟩ (.int .i64 i)).setCell ⟨g, 7, none⟩ (.string ⟨t.toArray⟩)
theorem setLow_B {w : World} {g : Nat} {z : Zn} (h : ZnB w g z) (c : Cl) : ZnB (setLow w g c.null c.num c.txt) g ⟨z.rows, z.nulls, c, z.high⟩ := ((Blk.set h 2 _).set 3 _).set 4 _
theorem setHigh_B {w : World} {g : Nat} {z : Zn} (h : ZnB w g z) (c : Cl) : ZnB (setHigh w g c.null c.num c.txt) g ⟨z.rows, z.nulls, z.low, c⟩ := ((Blk.set h 5 _).set 6 _).set 7 _
theorem setLow_fr (w : World) (g : Nat) (n : Bool) (i : Int) (t : List UInt8) : Fr (One g) w (setLow w g n i t) := (((Fr.refl (One g) w).set1 2 _).set1 3 _).set1 4 _
theorem setHigh_fr (w : World) (g : Nat) (n : Bool) (i : Int) (t : List UInt8) : Fr (One g) w (setHigh w g n i t) := (((Fr.refl (One g) w).set1 5 _).set1 6 _).set1 7 _
def TwoB (f g : Nat) : Nat → Prop := fun k => k = f ∨ k = g

/-- what the closure holds: whether nothing is noted yet, and where the zone lies -/
structure NoteAt (w : World) (f p g : Nat) (first : Bool) (z : Zn) : Prop where
  fb : Blk w f 4 #[.bool first]
  pb : Blk w p 50 #[ptr g]
  zb : ZnB w g z
theorem NoteAt.non {w w' : World} {f p g : Nat} {first : Bool} {z : Zn} (h : NoteAt w f p g first z) (hf : Fr Non w w') : NoteAt w' f p g first z :=
  ⟨h.fb.fr hf (fun e => e), h.pb.fr hf (fun e => e), h.zb.fr hf (fun e => e)⟩
theorem NoteAt.drew {w : World} {f p g : Nat} {first : Bool} {z : Zn} (h : NoteAt w f p g first z) : NoteAt w.drew f p g first z := ⟨h.fb, h.pb, h.zb⟩
theorem NoteAt.low {w : World} {f p g : Nat} {first : Bool} {z : Zn} (h : NoteAt w f p g first z) (hf : f ≠ g) (hp : p ≠ g) (c : Cl) : NoteAt (setLow w g c.null c.num c.txt) f p g first ⟨z.rows, z.nulls, c, z.high⟩ :=
  ⟨h.fb.fr (setLow_fr _ _ _ _ _) hf, h.pb.fr (setLow_fr _ _ _ _ _) hp, setLow_B h.zb c⟩
theorem NoteAt.high {w : World} {f p g : Nat} {first : Bool} {z : Zn} (h : NoteAt w f p g first z) (hf : f ≠ g) (hp : p ≠ g) (c : Cl) : NoteAt (setHigh w g c.null c.num c.txt) f p g first ⟨z.rows, z.nulls, z.low, c⟩ :=
  ⟨h.fb.fr (setHigh_fr _ _ _ _ _) hf, h.pb.fr (setHigh_fr _ _ _ _ _) hp, setHigh_B h.zb c⟩
theorem NoteAt.noted {w : World} {f p g : Nat} {first : Bool} {z : Zn} (h : NoteAt w f p g first z) (hp : p ≠ f) (hg : g ≠ f) : NoteAt (w.setCell ⟨f, 0, none⟩ (.bool false)) f p g false z :=
  ⟨h.fb.set 0 _, h.pb.fr ((Fr.refl (One f) w).set1 0 _) hp, h.zb.fr ((Fr.refl (One f) w).set1 0 _) hg⟩

theorem noteIn_any (g : Nat) (w : World) : Calls Try.prog 25 #[ptr g] w fun e w' => e = .returned (.func (.func 43) #[] #[ptr (w.heap.size + 1), ptr w.heap.size]) ∧
    Blk w' (w.heap.size + 1) 4 #[.bool true] ∧ Blk w' w.heap.size 50 #[ptr g] ∧ Fr Non w w' := by
  have hmf : ∀ (fn : Fn) (first cap : Array Value) (w : World), (Instr.makeFunc fn first cap).run Try.prog w = .ok (.func fn first cap) w := fun _ _ _ _ => rfl
  have h1 : Blk (w.alloc (.cells #[ptr g] 50)) w.heap.size 50 #[ptr g] := Blk.new _ _ _
  have f1 : Fr Non w (w.alloc (.cells #[ptr g] 50)) := (Fr.refl _ _).alloc _
  have hs : (w.alloc (.cells #[ptr g] 50)).heap.size = w.heap.size + 1 := by simp
  have h2 : Blk ((w.alloc (.cells #[ptr g] 50)).alloc (.cells #[.bool true] 4)) _ 4 #[.bool true] := Blk.new _ _ _
  rw [hs] at h2
  have f2 := (Fr.refl Non (w.alloc (.cells #[ptr g] 50))).alloc (.cells #[.bool true] 4)
  have H2 := Lib.hid h2
  have H1 := Lib.hid (h1.fr f2 (fun e => e))
  have F := Lib.hid (f1.trans f2)
  clear h1 h2 f1 f2 hs
  go_enter Try.func25, Try.ntmps25
  go_wp2
  go_ret
  exact ⟨rfl, H2.out, H1.out, F.out⟩

set_option maxHeartbeats 2000000 in
theorem note_any (f p g : Nat) (first : Bool) (z : Zn) (c : Cl) (w : World) (h : NoteAt w f p g first z) (hfp : p ≠ f) (hgf : g ≠ f) (hpg : p ≠ g) :
    Calls Try.prog 43 #[clV c, ptr f, ptr p] w fun e w' => e = .returned (.tuple #[]) ∧ NoteAt w' f p g false (noteZ first z c) ∧ Fr (TwoB f g) w w' := by
  have hz0 := h.zb.lt
  have hz1 := h.fb.lt
  have hz2 := h.pb.lt
  have hB : ClB (w.alloc (.cells #[.bool c.null, .int .i64 c.num, .string ⟨c.txt.toArray⟩] 26)) w.heap.size c := cl_new w c
  have F0 : Fr Non w (w.alloc (.cells #[.bool c.null, .int .i64 c.num, .string ⟨c.txt.toArray⟩] 26)) := (Fr.refl _ _).alloc _
  have hN := h.non F0
  have hF : Fr (One g) w _ := F0.any
  have hR : w.heap.size ≠ g ∧ w.heap.size ≠ f ∧ w.heap.size ≠ p := ⟨by omega, by omega, by omega⟩
  clear h F0 hz0 hz1 hz2
  have O1 := fun W => order_any c z.low W
  have O2 := fun W => order_any c z.high W
  have HZ : noteZ first z c = ⟨z.rows, z.nulls, if (first || decide (ordC c z.low < 0)) = true then c else z.low, if (first || decide (0 < ordC c z.high)) = true then c else z.high⟩ := rfl
  generalize ordC c z.low = x at *
  generalize ordC c z.high = y at *
  unfold clV clC at *
  cases first
  · go_enter Try.func43, Try.ntmps43
    go_wp2
    generalize w.alloc (.cells #[.bool c.null, .int .i64 c.num, .string ⟨c.txt.toArray⟩] 26) = V0 at *
    generalize w.heap.size = R at *
    replace O1 := Lib.hid O1
    replace O2 := Lib.hid O2
    replace HZ := Lib.hid HZ
    replace hN := hN.drew
    replace hB : ClB V0.drew R c := hB
    replace hF := hF.drew
    have s0 : (V0.drew).cell? ⟨f, 0, none⟩ = some (.bool false) := (hN).fb.cell 0
    have s1 : (V0.drew).cell? ⟨p, 0, none⟩ = some (ptr g) := (hN).pb.cell 0
    have s2 : (V0.drew).cell? ⟨g, 2, none⟩ = some (.bool z.low.null) := (hN).zb.cell 2
    have s3 : (V0.drew).cell? ⟨g, 3, none⟩ = some (.int .i64 z.low.num) := (hN).zb.cell 3
    have s4 : (V0.drew).cell? ⟨g, 4, none⟩ = some (.string ⟨z.low.txt.toArray⟩) := (hN).zb.cell 4
    have s5 : (V0.drew).cell? ⟨R, 0, none⟩ = some (.bool c.null) := (hB).cell 0
    have s6 : (V0.drew).cell? ⟨R, 1, none⟩ = some (.int .i64 c.num) := (hB).cell 1
    have s7 : (V0.drew).cell? ⟨R, 2, none⟩ = some (.string ⟨c.txt.toArray⟩) := (hB).cell 2
    go_region_held3 (fun W => W.cell? ⟨f, 0, none⟩ = some (.bool false) ∧ W.cell? ⟨p, 0, none⟩ = some (ptr g) ∧ W.cell? ⟨g, 2, none⟩ = some (.bool z.low.null) ∧ W.cell? ⟨g, 3, none⟩ = some (.int .i64 z.low.num) ∧ W.cell? ⟨g, 4, none⟩ = some (.string ⟨z.low.txt.toArray⟩) ∧ W.cell? ⟨R, 0, none⟩ = some (.bool c.null) ∧ W.cell? ⟨R, 1, none⟩ = some (.int .i64 c.num) ∧ W.cell? ⟨R, 2, none⟩ = some (.string ⟨c.txt.toArray⟩)) (first | exact ⟨s0, s1, s2, s3, s4, s5, s6, s7⟩ | exact ⟨t0, t1, t2, t3, t4, t5, t6, t7⟩) (first | (go_at_call 29; (with_reducible refine (O1.out _).mono ?_); rintro e w1 ⟨rfl, f1⟩; have hN1 := hN.non f1; have hB1 : ClB w1 R c := hB.fr f1 (fun e => e); have hF1 := hF.then f1; have t0 : w1.cell? ⟨f, 0, none⟩ = some (.bool false) := hN1.fb.cell 0; have t1 : w1.cell? ⟨p, 0, none⟩ = some (ptr g) := hN1.pb.cell 0; have t2 : w1.cell? ⟨g, 2, none⟩ = some (.bool z.low.null) := hN1.zb.cell 2; have t3 : w1.cell? ⟨g, 3, none⟩ = some (.int .i64 z.low.num) := hN1.zb.cell 3; have t4 : w1.cell? ⟨g, 4, none⟩ = some (.string ⟨z.low.txt.toArray⟩) := hN1.zb.cell 4; have t5 : w1.cell? ⟨R, 0, none⟩ = some (.bool c.null) := hB1.cell 0; have t6 : w1.cell? ⟨R, 1, none⟩ = some (.int .i64 c.num) := hB1.cell 1; have t7 : w1.cell? ⟨R, 2, none⟩ = some (.string ⟨c.txt.toArray⟩) := hB1.cell 2))
    clear s0 s1 s2 s3 s4 s5 s6 s7 t0 t1 t2 t3 t4 t5 t6 t7 f1 hN hB hF
    have hN := hN1
    have hB := hB1
    have hF := hF1
    clear hN1 hB1 hF1
    clear O1
    by_cases hx : x < 0
    · have HZ1 : Hid (noteZ false z c = ⟨z.rows, z.nulls, c, if (false || decide (0 < y)) = true then c else z.high⟩) := Lib.hid (by rw [HZ.out, decide_eq_true hx]; rfl)
      have hd : decide (x < 0) = true := decide_eq_true hx
      clear HZ
      generalize w1 = V1 at *
      have hL : NoteAt (setLow V1 g c.null c.num c.txt) f p g false ⟨z.rows, z.nulls, c, z.high⟩ := hN.low (Ne.symm hgf) hpg c
      have FL := setLow_fr V1 g c.null c.num c.txt
      have hBL : ClB (setLow V1 g c.null c.num c.txt) R c := hB.fr FL (fun e => hR.1 e)
      have FF : Fr (One g) w (setLow V1 g c.null c.num c.txt) := hF.trans FL
      replace hL := Lib.hid hL
      replace hBL := Lib.hid hBL
      replace FF := Lib.hid FF
      obtain ⟨y0, y1, y2, y3, y4, y5, y6, y7⟩ := znB_froz hN.zb
      obtain ⟨a0, a1, a2, a3, a4, a5, a6, a7⟩ := znB_cells hN.zb
      obtain ⟨c0, c1, c2, _⟩ := hB.facts
      have p0 : V1.cell? ⟨p, 0, none⟩ = some (ptr g) := hN.pb.cell 0
      clear FL
      unfold setLow at hL hBL FF
      clear hN hB hF
      go_wp2
      clear p0 y0 y1 y2 y3 y4 y5 y6 y7 a0 a1 a2 a3 a4 a5 a6 a7 c0 c1 c2
      generalize ((V1.setCell ⟨g, 2, none⟩ (.bool c.null)).setCell ⟨g, 3, none⟩ (.int .i64 c.num)).setCell ⟨g, 4, none⟩ (.string ⟨c.txt.toArray⟩) = V at *
      have hN := hL.out
      have hB := hBL.out
      have hF := FF.out
      clear hL hBL FF
      replace hN := hN.drew
      replace hB : ClB V.drew R c := hB
      replace hF := hF.drew
      have s0 : (V.drew).cell? ⟨f, 0, none⟩ = some (.bool false) := (hN).fb.cell 0
      have s1 : (V.drew).cell? ⟨p, 0, none⟩ = some (ptr g) := (hN).pb.cell 0
      have s2 : (V.drew).cell? ⟨g, 5, none⟩ = some (.bool z.high.null) := (hN).zb.cell 5
      have s3 : (V.drew).cell? ⟨g, 6, none⟩ = some (.int .i64 z.high.num) := (hN).zb.cell 6
      have s4 : (V.drew).cell? ⟨g, 7, none⟩ = some (.string ⟨z.high.txt.toArray⟩) := (hN).zb.cell 7
      have s5 : (V.drew).cell? ⟨R, 0, none⟩ = some (.bool c.null) := (hB).cell 0
      have s6 : (V.drew).cell? ⟨R, 1, none⟩ = some (.int .i64 c.num) := (hB).cell 1
      have s7 : (V.drew).cell? ⟨R, 2, none⟩ = some (.string ⟨c.txt.toArray⟩) := (hB).cell 2
      go_region_held3 (fun W => W.cell? ⟨f, 0, none⟩ = some (.bool false) ∧ W.cell? ⟨p, 0, none⟩ = some (ptr g) ∧ W.cell? ⟨g, 5, none⟩ = some (.bool z.high.null) ∧ W.cell? ⟨g, 6, none⟩ = some (.int .i64 z.high.num) ∧ W.cell? ⟨g, 7, none⟩ = some (.string ⟨z.high.txt.toArray⟩) ∧ W.cell? ⟨R, 0, none⟩ = some (.bool c.null) ∧ W.cell? ⟨R, 1, none⟩ = some (.int .i64 c.num) ∧ W.cell? ⟨R, 2, none⟩ = some (.string ⟨c.txt.toArray⟩)) (first | exact ⟨s0, s1, s2, s3, s4, s5, s6, s7⟩ | exact ⟨t0, t1, t2, t3, t4, t5, t6, t7⟩) (first | (go_at_call 29; (with_reducible refine (O2.out _).mono ?_); rintro e w1 ⟨rfl, f1⟩; have hN1 := hN.non f1; have hB1 : ClB w1 R c := hB.fr f1 (fun e => e); have hF1 := hF.then f1; have t0 : w1.cell? ⟨f, 0, none⟩ = some (.bool false) := hN1.fb.cell 0; have t1 : w1.cell? ⟨p, 0, none⟩ = some (ptr g) := hN1.pb.cell 0; have t2 : w1.cell? ⟨g, 5, none⟩ = some (.bool z.high.null) := hN1.zb.cell 5; have t3 : w1.cell? ⟨g, 6, none⟩ = some (.int .i64 z.high.num) := hN1.zb.cell 6; have t4 : w1.cell? ⟨g, 7, none⟩ = some (.string ⟨z.high.txt.toArray⟩) := hN1.zb.cell 7; have t5 : w1.cell? ⟨R, 0, none⟩ = some (.bool c.null) := hB1.cell 0; have t6 : w1.cell? ⟨R, 1, none⟩ = some (.int .i64 c.num) := hB1.cell 1; have t7 : w1.cell? ⟨R, 2, none⟩ = some (.string ⟨c.txt.toArray⟩) := hB1.cell 2))
      clear s0 s1 s2 s3 s4 s5 s6 s7 t0 t1 t2 t3 t4 t5 t6 t7 f1 hN hB hF
      have hN := hN1
      have hB := hB1
      have hF := hF1
      clear hN1 hB1 hF1
      by_cases hy : 0 < y
      · have HE : Hid (noteZ false z c = ⟨z.rows, z.nulls, c, c⟩) := Lib.hid (by rw [HZ1.out, decide_eq_true hy]; rfl)
        have hd : decide (0 < y) = true := decide_eq_true hy
        clear HZ1 O2
        generalize w1 = V1 at *
        have hL : NoteAt (setHigh V1 g c.null c.num c.txt) f p g false ⟨z.rows, z.nulls, c, c⟩ := hN.high (Ne.symm hgf) hpg c
        have FL := setHigh_fr V1 g c.null c.num c.txt
        have hBL : ClB (setHigh V1 g c.null c.num c.txt) R c := hB.fr FL (fun e => hR.1 e)
        have FF : Fr (One g) w (setHigh V1 g c.null c.num c.txt) := hF.trans FL
        replace hL := Lib.hid hL
        replace hBL := Lib.hid hBL
        replace FF := Lib.hid FF
        obtain ⟨y0, y1, y2, y3, y4, y5, y6, y7⟩ := znB_froz hN.zb
        obtain ⟨a0, a1, a2, a3, a4, a5, a6, a7⟩ := znB_cells hN.zb
        obtain ⟨c0, c1, c2, _⟩ := hB.facts
        have p0 : V1.cell? ⟨p, 0, none⟩ = some (ptr g) := hN.pb.cell 0
        clear FL
        have f0 := hN.fb.frozen 0
        have f1 : V1.cell? ⟨f, 0, none⟩ = some (.bool false) := hN.fb.cell 0
        have HN := Lib.hid (hL.out.noted hfp hgf)
        have HF := Lib.hid ((FF.out.mono (S' := TwoB f g) (fun _ _ e => .inr e)).setCell (p := ⟨f, 0, none⟩) (fun _ => .inl rfl) (.bool false))
        clear hL hBL FF hN hB hF
        go_wp2
        go_end0
        exact ⟨rfl, by rw [HE.out]; exact HN.out, HF.out⟩
      · have HE : Hid (noteZ false z c = ⟨z.rows, z.nulls, c, z.high⟩) := Lib.hid (by rw [HZ1.out, decide_eq_false hy]; rfl)
        have hd : decide (0 < y) = false := decide_eq_false hy
        clear HZ1 O2
        generalize w1 = V at *
        have f0 := hN.fb.frozen 0
        have f1 : V.cell? ⟨f, 0, none⟩ = some (.bool false) := hN.fb.cell 0
        have HN := Lib.hid (hN.noted hfp hgf)
        have HF := Lib.hid ((hF.mono (S' := TwoB f g) (fun _ _ e => .inr e)).setCell (p := ⟨f, 0, none⟩) (fun _ => .inl rfl) (.bool false))
        clear hN hB hF
        go_wp2
        go_end0
        exact ⟨rfl, by rw [HE.out]; exact HN.out, HF.out⟩
    · have HZ1 : Hid (noteZ false z c = ⟨z.rows, z.nulls, z.low, if (false || decide (0 < y)) = true then c else z.high⟩) := Lib.hid (by rw [HZ.out, decide_eq_false hx]; rfl)
      have hd : decide (x < 0) = false := decide_eq_false hx
      clear HZ
      generalize w1 = V at *
      go_wp2
      replace hN := hN.drew
      replace hB : ClB V.drew R c := hB
      replace hF := hF.drew
      have s0 : (V.drew).cell? ⟨f, 0, none⟩ = some (.bool false) := (hN).fb.cell 0
      have s1 : (V.drew).cell? ⟨p, 0, none⟩ = some (ptr g) := (hN).pb.cell 0
      have s2 : (V.drew).cell? ⟨g, 5, none⟩ = some (.bool z.high.null) := (hN).zb.cell 5
      have s3 : (V.drew).cell? ⟨g, 6, none⟩ = some (.int .i64 z.high.num) := (hN).zb.cell 6
      have s4 : (V.drew).cell? ⟨g, 7, none⟩ = some (.string ⟨z.high.txt.toArray⟩) := (hN).zb.cell 7
      have s5 : (V.drew).cell? ⟨R, 0, none⟩ = some (.bool c.null) := (hB).cell 0
      have s6 : (V.drew).cell? ⟨R, 1, none⟩ = some (.int .i64 c.num) := (hB).cell 1
      have s7 : (V.drew).cell? ⟨R, 2, none⟩ = some (.string ⟨c.txt.toArray⟩) := (hB).cell 2
      go_region_held3 (fun W => W.cell? ⟨f, 0, none⟩ = some (.bool false) ∧ W.cell? ⟨p, 0, none⟩ = some (ptr g) ∧ W.cell? ⟨g, 5, none⟩ = some (.bool z.high.null) ∧ W.cell? ⟨g, 6, none⟩ = some (.int .i64 z.high.num) ∧ W.cell? ⟨g, 7, none⟩ = some (.string ⟨z.high.txt.toArray⟩) ∧ W.cell? ⟨R, 0, none⟩ = some (.bool c.null) ∧ W.cell? ⟨R, 1, none⟩ = some (.int .i64 c.num) ∧ W.cell? ⟨R, 2, none⟩ = some (.string ⟨c.txt.toArray⟩)) (first | exact ⟨s0, s1, s2, s3, s4, s5, s6, s7⟩ | exact ⟨t0, t1, t2, t3, t4, t5, t6, t7⟩) (first | (go_at_call 29; (with_reducible refine (O2.out _).mono ?_); rintro e w1 ⟨rfl, f1⟩; have hN1 := hN.non f1; have hB1 : ClB w1 R c := hB.fr f1 (fun e => e); have hF1 := hF.then f1; have t0 : w1.cell? ⟨f, 0, none⟩ = some (.bool false) := hN1.fb.cell 0; have t1 : w1.cell? ⟨p, 0, none⟩ = some (ptr g) := hN1.pb.cell 0; have t2 : w1.cell? ⟨g, 5, none⟩ = some (.bool z.high.null) := hN1.zb.cell 5; have t3 : w1.cell? ⟨g, 6, none⟩ = some (.int .i64 z.high.num) := hN1.zb.cell 6; have t4 : w1.cell? ⟨g, 7, none⟩ = some (.string ⟨z.high.txt.toArray⟩) := hN1.zb.cell 7; have t5 : w1.cell? ⟨R, 0, none⟩ = some (.bool c.null) := hB1.cell 0; have t6 : w1.cell? ⟨R, 1, none⟩ = some (.int .i64 c.num) := hB1.cell 1; have t7 : w1.cell? ⟨R, 2, none⟩ = some (.string ⟨c.txt.toArray⟩) := hB1.cell 2))
      clear s0 s1 s2 s3 s4 s5 s6 s7 t0 t1 t2 t3 t4 t5 t6 t7 f1 hN hB hF
      have hN := hN1
      have hB := hB1
      have hF := hF1
      clear hN1 hB1 hF1
      by_cases hy : 0 < y
      · have HE : Hid (noteZ false z c = ⟨z.rows, z.nulls, z.low, c⟩) := Lib.hid (by rw [HZ1.out, decide_eq_true hy]; rfl)
        have hd : decide (0 < y) = true := decide_eq_true hy
        clear HZ1 O2
        generalize w1 = V1 at *
        have hL : NoteAt (setHigh V1 g c.null c.num c.txt) f p g false ⟨z.rows, z.nulls, z.low, c⟩ := hN.high (Ne.symm hgf) hpg c
        have FL := setHigh_fr V1 g c.null c.num c.txt
        have hBL : ClB (setHigh V1 g c.null c.num c.txt) R c := hB.fr FL (fun e => hR.1 e)
        have FF : Fr (One g) w (setHigh V1 g c.null c.num c.txt) := hF.trans FL
        replace hL := Lib.hid hL
        replace hBL := Lib.hid hBL
        replace FF := Lib.hid FF
        obtain ⟨y0, y1, y2, y3, y4, y5, y6, y7⟩ := znB_froz hN.zb
        obtain ⟨a0, a1, a2, a3, a4, a5, a6, a7⟩ := znB_cells hN.zb
        obtain ⟨c0, c1, c2, _⟩ := hB.facts
        have p0 : V1.cell? ⟨p, 0, none⟩ = some (ptr g) := hN.pb.cell 0
        clear FL
        have f0 := hN.fb.frozen 0
        have f1 : V1.cell? ⟨f, 0, none⟩ = some (.bool false) := hN.fb.cell 0
        have HN := Lib.hid (hL.out.noted hfp hgf)
        have HF := Lib.hid ((FF.out.mono (S' := TwoB f g) (fun _ _ e => .inr e)).setCell (p := ⟨f, 0, none⟩) (fun _ => .inl rfl) (.bool false))
        clear hL hBL FF hN hB hF
        go_wp2
        go_end0
        exact ⟨rfl, by rw [HE.out]; exact HN.out, HF.out⟩
      · have HE : Hid (noteZ false z c = ⟨z.rows, z.nulls, z.low, z.high⟩) := Lib.hid (by rw [HZ1.out, decide_eq_false hy]; rfl)
        have hd : decide (0 < y) = false := decide_eq_false hy
        clear HZ1 O2
        generalize w1 = V at *
        have f0 := hN.fb.frozen 0
        have f1 : V.cell? ⟨f, 0, none⟩ = some (.bool false) := hN.fb.cell 0
        have HN := Lib.hid (hN.noted hfp hgf)
        have HF := Lib.hid ((hF.mono (S' := TwoB f g) (fun _ _ e => .inr e)).setCell (p := ⟨f, 0, none⟩) (fun _ => .inl rfl) (.bool false))
        clear hN hB hF
        go_wp2
        go_end0
        exact ⟨rfl, by rw [HE.out]; exact HN.out, HF.out⟩
  · go_enter Try.func43, Try.ntmps43
    go_wp2
    generalize w.alloc (.cells #[.bool c.null, .int .i64 c.num, .string ⟨c.txt.toArray⟩] 26) = V at *
    generalize w.heap.size = R at *
    have HE : Hid (noteZ true z c = ⟨z.rows, z.nulls, c, c⟩) := Lib.hid (by rw [HZ]; rfl)
    clear O1 O2 HZ
    have q0 : V.cell? ⟨f, 0, none⟩ = some (.bool true) := hN.fb.cell 0
    go_region
    clear q0
    replace hN := hN.drew
    replace hB : ClB V.drew R c := hB
    replace hF := hF.drew
    generalize V.drew = V1 at *
    have hL : NoteAt (setLow V1 g c.null c.num c.txt) f p g true ⟨z.rows, z.nulls, c, z.high⟩ := hN.low (Ne.symm hgf) hpg c
    have FL := setLow_fr V1 g c.null c.num c.txt
    have hBL : ClB (setLow V1 g c.null c.num c.txt) R c := hB.fr FL (fun e => hR.1 e)
    have FF : Fr (One g) w (setLow V1 g c.null c.num c.txt) := hF.trans FL
    replace hL := Lib.hid hL
    replace hBL := Lib.hid hBL
    replace FF := Lib.hid FF
    obtain ⟨y0, y1, y2, y3, y4, y5, y6, y7⟩ := znB_froz hN.zb
    obtain ⟨a0, a1, a2, a3, a4, a5, a6, a7⟩ := znB_cells hN.zb
    obtain ⟨c0, c1, c2, _⟩ := hB.facts
    have p0 : V1.cell? ⟨p, 0, none⟩ = some (ptr g) := hN.pb.cell 0
    clear FL
    unfold setLow at hL hBL FF
    clear hN hB hF
    go_wp2
    clear p0 y0 y1 y2 y3 y4 y5 y6 y7 a0 a1 a2 a3 a4 a5 a6 a7 c0 c1 c2
    generalize ((V1.setCell ⟨g, 2, none⟩ (.bool c.null)).setCell ⟨g, 3, none⟩ (.int .i64 c.num)).setCell ⟨g, 4, none⟩ (.string ⟨c.txt.toArray⟩) = V at *
    have hN := hL.out
    have hB := hBL.out
    have hF := FF.out
    clear hL hBL FF
    have q0 : V.cell? ⟨f, 0, none⟩ = some (.bool true) := hN.fb.cell 0
    go_region
    clear q0
    replace hN := hN.drew
    replace hB : ClB V.drew R c := hB
    replace hF := hF.drew
    generalize V.drew = V2 at *
    have hL : NoteAt (setHigh V2 g c.null c.num c.txt) f p g true ⟨z.rows, z.nulls, c, c⟩ := hN.high (Ne.symm hgf) hpg c
    have FL := setHigh_fr V2 g c.null c.num c.txt
    have hBL : ClB (setHigh V2 g c.null c.num c.txt) R c := hB.fr FL (fun e => hR.1 e)
    have FF : Fr (One g) w (setHigh V2 g c.null c.num c.txt) := hF.trans FL
    replace hL := Lib.hid hL
    replace hBL := Lib.hid hBL
    replace FF := Lib.hid FF
    obtain ⟨y0, y1, y2, y3, y4, y5, y6, y7⟩ := znB_froz hN.zb
    obtain ⟨a0, a1, a2, a3, a4, a5, a6, a7⟩ := znB_cells hN.zb
    obtain ⟨c0, c1, c2, _⟩ := hB.facts
    have p0 : V2.cell? ⟨p, 0, none⟩ = some (ptr g) := hN.pb.cell 0
    clear FL
    have f0 := hN.fb.frozen 0
    have f1 : V2.cell? ⟨f, 0, none⟩ = some (.bool true) := hN.fb.cell 0
    have HN := Lib.hid (hL.out.noted hfp hgf)
    have HF := Lib.hid ((FF.out.mono (S' := TwoB f g) (fun _ _ e => .inr e)).setCell (p := ⟨f, 0, none⟩) (fun _ => .inl rfl) (.bool false))
    clear hL hBL FF hN hB hF
    go_wp2
    go_end0
    exact ⟨rfl, by rw [HE.out]; exact HN.out, HF.out⟩
end Go.Proofs.Ytihofmmbdedhbaa


namespace Go.Proofs.Ytihofmmbdedhbaa
set_option linter.unusedVariables false
set_option linter.unusedSimpArgs false
set_option maxRecDepth 100000
open Go.RowKit

/-- a slice of slices of bytes that the call owns, row and all -/
def Owns (w : World) (B : Nat) (v : Value) (ls : List (List UInt8)) : Prop :=
  ∃ vs : List Value, w.ownsRow B 36 1 v vs.length vs ∧ vs.length = ls.length ∧ ∀ (i : Nat) (u : Value) (l : List UInt8), vs[i]? = some u → ls[i]? = some l → Own w B u l

theorem Own.kind {w : World} {B : Nat} {u : Value} {l : List UInt8} (h : Own w B u l) : ∀ k, u.ownBlock = some k → ∃ cur, w.heap[k]? = some (.cells cur 5 (0, 0)) := by
  intro k hk
  rcases h.2 with ⟨rfl, _⟩ | ⟨g, cap, cur, rfl, _, hg, _⟩
  · cases hk
  · obtain rfl : g = k := by simpa [Value.ownBlock] using hk
    exact ⟨cur, hg⟩
theorem row_kind {w : World} {B : Nat} {E : TypeId} {n : Nat} {v : Value} {xs : List Value} (h : w.ownsRow B E 1 v n xs) : ∀ k, v.ownBlock = some k → ∃ cur, w.heap[k]? = some (.cells cur E (0, 0)) := by
  intro k hk
  rcases h.2 with ⟨rfl, _⟩ | ⟨g, cap, cur, rfl, _, hg, _⟩
  · cases hk
  · obtain rfl : g = k := by simpa [Value.ownBlock] using hk
    exact ⟨cur, hg⟩
theorem row_keep {w w' : World} {B : Nat} {E : TypeId} {n : Nat} {v : Value} {xs : List Value} (h : w.ownsRow B E 1 v n xs) (hk : ∀ k, v.ownBlock = some k → w'.heap[k]? = w.heap[k]?) : w'.ownsRow B E 1 v n xs := by
  refine ⟨h.1, ?_⟩
  rcases h.2 with h2 | ⟨g, cap, cur, hv, hb, hg, r⟩
  · exact .inl h2
  · exact .inr ⟨g, cap, cur, hv, hb, by rw [hk g (by rw [hv]; rfl)]; exact hg, r⟩
theorem row_lt {w : World} {B : Nat} {E : TypeId} {n : Nat} {v : Value} {xs : List Value} (h : w.ownsRow B E 1 v n xs) : ∀ k, v.ownBlock = some k → B ≤ k ∧ k < w.heap.size := World.ownsRow.lt h
theorem row_mono {w : World} {B B' : Nat} {E : TypeId} {n : Nat} {v : Value} {xs : List Value} (h : w.ownsRow B E 1 v n xs) (hB : B' ≤ B) : w.ownsRow B' E 1 v n xs := by
  refine ⟨h.1, ?_⟩
  rcases h.2 with h2 | ⟨g, cap, cur, hv, hb, r⟩
  · exact .inl h2
  · exact .inr ⟨g, cap, cur, hv, by omega, r⟩

theorem Owns.lt {w : World} {B : Nat} {v : Value} {ls : List (List UInt8)} (h : Owns w B v ls) : ∀ k, v.ownBlock = some k → B ≤ k ∧ k < w.heap.size := by
  obtain ⟨vs, h1, _⟩ := h; exact row_lt h1
/-- it stays where the blocks that turn are no rows of slices and no bytes -/
theorem Owns.keep {w w' : World} {B : Nat} {v : Value} {ls : List (List UInt8)} (h : Owns w B v ls)
    (hk : ∀ k cur, (w.heap[k]? = some (.cells cur 36 (0, 0)) ∨ w.heap[k]? = some (.cells cur 5 (0, 0))) → B ≤ k → w'.heap[k]? = w.heap[k]?) : Owns w' B v ls := by
  obtain ⟨vs, h1, h2, h3⟩ := h
  refine ⟨vs, row_keep h1 fun k e => ?_, h2, fun i u l hu hl => (h3 i u l hu hl).keep fun k e => ?_⟩
  · obtain ⟨cur, hc⟩ := row_kind h1 k e
    exact hk k cur (.inl hc) (row_lt h1 k e).1
  · obtain ⟨cur, hc⟩ := (h3 i u l hu hl).kind k e
    exact hk k cur (.inr hc) ((h3 i u l hu hl).lt k e).1
theorem Owns.fr {S : Nat → Prop} {w w' : World} {B : Nat} {v : Value} {ls : List (List UInt8)} (h : Owns w B v ls) (hf : Fr S w w')
    (hS : ∀ k cur, S k → w.heap[k]? ≠ some (.cells cur 36 (0, 0)) ∧ w.heap[k]? ≠ some (.cells cur 5 (0, 0))) : Owns w' B v ls :=
  h.keep fun k cur hc _ => hf.block k (by rcases hc with e | e <;> exact (Array.getElem?_eq_some_iff.1 e).1) fun e => by
    rcases hc with h1 | h1
    · exact (hS k cur e).1 h1
    · exact (hS k cur e).2 h1
theorem Owns.non {w w' : World} {B : Nat} {v : Value} {ls : List (List UInt8)} (h : Owns w B v ls) (hf : Fr Non w w') : Owns w' B v ls := h.fr hf fun k cur e => e.elim
theorem Owns.mono {w : World} {B B' : Nat} {v : Value} {ls : List (List UInt8)} (h : Owns w B v ls) (hB : B' ≤ B) : Owns w B' v ls := by
  obtain ⟨vs, h1, h2, h3⟩ := h
  exact ⟨vs, row_mono h1 hB, h2, fun i u l hu hl => (h3 i u l hu hl).mono hB⟩
theorem Owns.bss {w : World} {B : Nat} {v : Value} {ls : List (List UInt8)} (h : Owns w B v ls) : Bss w v ls := by
  obtain ⟨vs, h1, h2, h3⟩ := h
  rcases h1.2 with ⟨rfl, h0⟩ | ⟨g, cap, cur, rfl, _, _, hle, _, _, _⟩
  · have hl : ls = [] := List.eq_nil_of_length_eq_zero (by omega)
    subst hl
    exact ⟨none, 0, rfl, Nat.le_refl _, fun _ => rfl, fun _ h => by cases h⟩
  · refine ⟨_, cap, by rw [h2], by omega, (fun h => by cases h), fun a ha j hj => ?_⟩
    cases ha
    have hj' : j < vs.length := by omega
    exact ⟨vs[j], World.ownsRow.cells h1 (g := g) rfl j _ (by simp [hj']), (h3 j vs[j] ls[j] (by simp [hj']) (by simp [hj])).bs⟩
theorem Owns.shape {w : World} {B : Nat} {v : Value} {ls : List (List UInt8)} (h : Owns w B v ls) : ∃ A c, v = .slice A ls.length c := by
  obtain ⟨A, c, rfl, _⟩ := h.bss; exact ⟨A, c, rfl⟩
/-! ### Whole numbers in a row of the call's own -/
def iv (n : Int) : Value := .int .i64 n
def OwnI (w : World) (B : Nat) (v : Value) (l : List Int) : Prop := w.ownsRow B 3 1 v (l.map iv).length (l.map iv)
theorem OwnI.non {w w' : World} {B : Nat} {v : Value} {l : List Int} (h : OwnI w B v l) (hf : Fr Non w w') : OwnI w' B v l := row_keep h fun k hk => hf.block k (row_lt h k hk).2 fun e => e
theorem OwnI.fr {S : Nat → Prop} {w w' : World} {B : Nat} {v : Value} {l : List Int} (h : OwnI w B v l) (hf : Fr S w w') (hn : ∀ k, v.ownBlock = some k → ¬ S k) : OwnI w' B v l := row_keep h fun k hk => hf.block k (row_lt h k hk).2 (hn k hk)
theorem OwnI.cell {w : World} {B : Nat} {v : Value} {l : List Int} (h : OwnI w B v l) {g n c : Nat} (hv : v = .slice (some ⟨g, 0, none⟩) n c) (j : Nat) (hj : j < l.length) : w.cell? ⟨g, j, none⟩ = some (.int .i64 l[j]) := by
  subst hv
  have := World.ownsRow.cells h (g := g) rfl j (iv l[j]) (by simp [hj])
  rwa [Addr.add_lit, Nat.zero_add] at this
end Go.Proofs.Ytihofmmbdedhbaa


namespace Go.Proofs.Ytihofmmbdedhbaa
set_option linter.unusedVariables false
set_option linter.unusedSimpArgs false
set_option maxRecDepth 100000
open Go.RowKit

/-- the slice v reads as the list l, each element's cell being f of it -/
def Vs {α : Type} (f : α → Value) (w : World) (v : Value) (l : List α) : Prop :=
  ∃ A c, v = .slice A l.length c ∧ l.length ≤ c ∧ (A = none → c = 0) ∧ ∀ a, A = some a → ∀ j (h : j < l.length), w.cell? (a.add j) = some (f l[j])
/-- a row of the call's own, from block B on, of elements of type E -/
def Ow {α : Type} (f : α → Value) (E : TypeId) (w : World) (B : Nat) (v : Value) (l : List α) : Prop := w.ownsRow B E 1 v l.length (l.map f)

section
variable {α : Type} {f : α → Value}

theorem Vs.nil_ (w : World) : Vs f w (.slice none 0 0) [] := ⟨none, 0, rfl, Nat.le_refl _, fun _ => rfl, fun _ h => by cases h⟩
theorem Vs.keep {w w' : World} {v : Value} {l : List α} (h : Vs f w v l) (hk : ∀ k, v.ownBlock = some k → k < w.heap.size → w'.heap[k]? = w.heap[k]?) : Vs f w' v l := by
  obtain ⟨A, c, rfl, h1, h2, h3⟩ := h
  refine ⟨A, c, rfl, h1, h2, fun a ha j hj => ?_⟩
  have := h3 a ha j hj
  subst ha
  have hb := World.block_lt_of_cell? w _ this
  rw [add_block] at hb
  rw [← this]
  exact World.cell?_of_block (by rw [add_block]; exact hk _ rfl hb)
theorem Vs.fr {S : Nat → Prop} {w w' : World} {v : Value} {l : List α} (h : Vs f w v l) (hf : Fr S w w') (hn : ∀ k, v.ownBlock = some k → ¬ S k) : Vs f w' v l :=
  h.keep fun k hk hlt => hf.block k hlt (hn k hk)
theorem Vs.non {w w' : World} {v : Value} {l : List α} (h : Vs f w v l) (hf : Fr Non w w') : Vs f w' v l := h.fr hf fun _ _ e => e
theorem Vs.drew {w : World} {v : Value} {l : List α} (h : Vs f w v l) : Vs f w.drew v l := h
theorem Vs.shape {w : World} {v : Value} {l : List α} (h : Vs f w v l) : ∃ A c, v = .slice A l.length c := by
  obtain ⟨A, c, rfl, _⟩ := h; exact ⟨A, c, rfl⟩
/-- its address, where it has an element -/
theorem Vs.addr {w : World} {A : Option Addr} {n c : Nat} {l : List α} (h : Vs f w (.slice A n c) l) (hl : 0 < n) : ∃ a, A = some a ∧ n = l.length ∧ n ≤ c ∧ ∀ j (h : j < l.length), w.cell? (a.add j) = some (f l[j]) := by
  obtain ⟨A0, c0, he, h1, h2, h3⟩ := h
  simp only [Value.slice.injEq] at he
  obtain ⟨rfl, rfl, rfl⟩ := he
  cases A with
  | none => have := h2 rfl; omega
  | some a => exact ⟨a, rfl, rfl, h1, h3 a rfl⟩
variable {E : TypeId}
theorem Ow.lt {w : World} {B : Nat} {v : Value} {l : List α} (h : Ow f E w B v l) : ∀ k, v.ownBlock = some k → B ≤ k ∧ k < w.heap.size := World.ownsRow.lt h
theorem Ow.vs {w : World} {B : Nat} {v : Value} {l : List α} (h : Ow f E w B v l) : Vs f w v l := by
  rcases h.2 with ⟨rfl, h0⟩ | ⟨g, cap, cur, rfl, _, _, hle, _, _, _⟩
  · have hl : l = [] := List.eq_nil_of_length_eq_zero h0
    subst hl; exact Vs.nil_ w
  · refine ⟨_, cap, rfl, hle, (fun h => by cases h), fun a ha j hj => ?_⟩
    cases ha
    exact World.ownsRow.cells h (g := g) rfl j _ (by simp [hj])
theorem Ow.shape {w : World} {B : Nat} {v : Value} {l : List α} (h : Ow f E w B v l) : ∃ A c, v = .slice A l.length c := h.vs.shape
theorem Ow.keep {w w' : World} {B : Nat} {v : Value} {l : List α} (h : Ow f E w B v l) (hk : ∀ k, v.ownBlock = some k → w'.heap[k]? = w.heap[k]?) : Ow f E w' B v l := row_keep h hk
theorem Ow.fr {S : Nat → Prop} {w w' : World} {B : Nat} {v : Value} {l : List α} (h : Ow f E w B v l) (hf : Fr S w w') (hn : ∀ k, v.ownBlock = some k → ¬ S k) : Ow f E w' B v l :=
  h.keep fun k hk => hf.block k (h.lt k hk).2 (hn k hk)
theorem Ow.non {w w' : World} {B : Nat} {v : Value} {l : List α} (h : Ow f E w B v l) (hf : Fr Non w w') : Ow f E w' B v l := h.fr hf fun _ _ e => e
theorem Ow.alloc {w : World} {B : Nat} {v : Value} {l : List α} (h : Ow f E w B v l) (o : Obj) : Ow f E (w.alloc o) B v l := h.non ((Fr.refl _ _).alloc o)
theorem Ow.drew {w : World} {B : Nat} {v : Value} {l : List α} (h : Ow f E w B v l) : Ow f E w.drew B v l := h
theorem Ow.mono {w : World} {B B' : Nat} {v : Value} {l : List α} (h : Ow f E w B v l) (hB : B' ≤ B) : Ow f E w B' v l := row_mono h hB
theorem Ow.kind {w : World} {B : Nat} {v : Value} {l : List α} (h : Ow f E w B v l) : ∀ k, v.ownBlock = some k → ∃ cur, w.heap[k]? = some (.cells cur E (0, 0)) := row_kind h
/-- where it has an element, it stands at a row's head -/
theorem Ow.row {w : World} {B : Nat} {v : Value} {l : List α} (h : Ow f E w B v l) (hn : 0 < l.length) : ∃ g cap, v = .slice (some ⟨g, 0, none⟩) l.length cap ∧ B ≤ g ∧ g < w.heap.size ∧ l.length ≤ cap ∧ cap ≤ maxLen := by
  rcases h.2 with ⟨rfl, h0⟩ | ⟨g, cap, cur, rfl, hb, hg, hle, hm, _⟩
  · omega
  · exact ⟨g, cap, rfl, hb, (Array.getElem?_eq_some_iff.1 hg).1, hle, hm⟩
theorem Ow.cell {w : World} {B g n cap : Nat} {l : List α} (h : Ow f E w B (.slice (some ⟨g, 0, none⟩) n cap) l) (hn : n = l.length) (j : Nat) (x : α) (hb : l[j]? = some x) : w.cell? ⟨g, j, none⟩ = some (f x) := by
  subst hn
  have hj : j < l.length := (List.getElem?_eq_some_iff.1 hb).1
  rw [World.ownsRow.cellAt h j (by omega), List.getElem?_map, hb]; rfl
theorem Ow.frozen {w : World} {B g n cap : Nat} {l : List α} (h : Ow f E w B (.slice (some ⟨g, 0, none⟩) n cap) l) (hn : n = l.length) (j : Nat) : w.frozen? ⟨g, j, none⟩ = false := by
  subst hn; exact World.ownsRow.frozenAt h j
/-! ### Steps -/
variable {T : TypeId} {z : Value} {by_ : Nat}
/-! ### Pieces -/
end

/-! ### Truths, whole numbers, bytes -/
theorem Bs.vs {w : World} {v : Value} {l : List UInt8} (h : Bs w v l) : Vs bv w v l := h
theorem Vs.bs {w : World} {v : Value} {l : List UInt8} (h : Vs bv w v l) : Bs w v l := h
theorem Ow.own {w : World} {B : Nat} {v : Value} {l : List UInt8} (h : Ow bv 5 w B v l) : Own w B v l := h

end Go.Proofs.Ytihofmmbdedhbaa


namespace Go.Proofs.Ytihofmmbdedhbaa
set_option linter.unusedVariables false
set_option linter.unusedSimpArgs false
set_option maxRecDepth 100000
open Go.RowKit

/-- a cell's three values, and those of many -/
def clL (c : Cl) : List Value := [.bool c.null, .int .i64 c.num, .string ⟨c.txt.toArray⟩]
def clsL (l : List Cl) : List Value := l.flatMap clL
theorem clsL_cons (c : Cl) (l : List Cl) : clsL (c :: l) = clL c ++ clsL l := by simp [clsL]
theorem clsL_app (l m : List Cl) : clsL (l ++ m) = clsL l ++ clsL m := by simp [clsL]
theorem clsL_len (l : List Cl) : (clsL l).length = l.length * 3 := by
  induction l with
  | nil => rfl
  | cons c l ih => rw [clsL_cons, List.length_append, ih, List.length_cons]; simp [clL]; omega
theorem clsL_at (l : List Cl) (j : Nat) (i : Nat) (hj : j < l.length) (hi : i < 3) : (clsL l)[j * 3 + i]? = (clL l[j])[i]? := by
  induction l generalizing j with
  | nil => cases hj
  | cons c l ih =>
    rw [clsL_cons]
    cases j with
    | zero => rw [List.getElem?_append_left (by simp [clL]; omega)]; simp
    | succ j =>
      rw [List.getElem?_append_right (by simp [clL]; omega)]
      rw [show (j + 1) * 3 + i - (clL c).length = j * 3 + i by simp [clL]; omega]
      exact ih j (by simpa using hj)
theorem clsL_one' (l : List Cl) : ∀ u ∈ clsL l, u.oneCell' = true := by
  intro u hu
  obtain ⟨c, _, hc⟩ := List.mem_flatMap.1 hu
  simp [clL] at hc
  rcases hc with rfl | rfl | rfl <;> rfl
/-- three cells, one behind the other, that hold c -/
structure At3 (w : World) (a : Addr) (c : Cl) : Prop where
  c0 : w.cell? a = some (.bool c.null)
  c1 : w.cell? (a.add 1) = some (.int .i64 c.num)
  c2 : w.cell? (a.add 2) = some (.string ⟨c.txt.toArray⟩)

/-- the slice v reads as the cells l -/
def Cs (w : World) (v : Value) (l : List Cl) : Prop :=
  ∃ A c, v = .slice A l.length c ∧ l.length ≤ c ∧ (A = none → c = 0) ∧ ∀ a, A = some a → ∀ j (h : j < l.length), At3 w (a.add (j * 3)) l[j]
/-- a row of the call's own, from block B on -/
def Oc (w : World) (B : Nat) (v : Value) (l : List Cl) : Prop := w.ownsRow B 26 3 v l.length (clsL l)

theorem At3.keep {w w' : World} {a : Addr} {c : Cl} (h : At3 w a c) (hk : w'.heap[a.block]? = w.heap[a.block]?) : At3 w' a c := by
  obtain ⟨h0, h1, h2⟩ := h
  exact ⟨by rw [← h0]; exact World.cell?_of_block hk, by rw [← h1]; exact World.cell?_of_block (by rw [add_block]; exact hk), by rw [← h2]; exact World.cell?_of_block (by rw [add_block]; exact hk)⟩

theorem Cs.nil_ (w : World) : Cs w (.slice none 0 0) [] := ⟨none, 0, rfl, Nat.le_refl _, fun _ => rfl, fun _ h => by cases h⟩
theorem Cs.keep {w w' : World} {v : Value} {l : List Cl} (h : Cs w v l) (hk : ∀ k, v.ownBlock = some k → k < w.heap.size → w'.heap[k]? = w.heap[k]?) : Cs w' v l := by
  obtain ⟨A, c, rfl, h1, h2, h3⟩ := h
  refine ⟨A, c, rfl, h1, h2, fun a ha j hj => ?_⟩
  have := h3 a ha j hj
  subst ha
  have hb := World.block_lt_of_cell? w _ this.c0
  refine this.keep ?_
  rw [add_block] at hb ⊢
  exact hk _ rfl hb
theorem Cs.fr {S : Nat → Prop} {w w' : World} {v : Value} {l : List Cl} (h : Cs w v l) (hf : Fr S w w') (hn : ∀ k, v.ownBlock = some k → ¬ S k) : Cs w' v l :=
  h.keep fun k hk hlt => hf.block k hlt (hn k hk)
theorem Cs.non {w w' : World} {v : Value} {l : List Cl} (h : Cs w v l) (hf : Fr Non w w') : Cs w' v l := h.fr hf fun _ _ e => e
theorem Cs.drew {w : World} {v : Value} {l : List Cl} (h : Cs w v l) : Cs w.drew v l := h.keep fun _ _ _ => rfl
theorem Cs.shape {w : World} {v : Value} {l : List Cl} (h : Cs w v l) : ∃ A c, v = .slice A l.length c := by
  obtain ⟨A, c, rfl, _⟩ := h; exact ⟨A, c, rfl⟩
theorem Cs.addr {w : World} {A : Option Addr} {n c : Nat} {l : List Cl} (h : Cs w (.slice A n c) l) (hl : 0 < n) : ∃ a, A = some a ∧ n = l.length ∧ n ≤ c ∧ ∀ j (h : j < l.length), At3 w (a.add (j * 3)) l[j] := by
  obtain ⟨A0, c0, he, h1, h2, h3⟩ := h
  simp only [Value.slice.injEq] at he
  obtain ⟨rfl, rfl, rfl⟩ := he
  cases A with
  | none => have := h2 rfl; omega
  | some a => exact ⟨a, rfl, rfl, h1, h3 a rfl⟩
/-- what a walk asks of the element at j -/
theorem Cs.el {w : World} {a : Addr} {n c : Nat} {l : List Cl} (h : Cs w (.slice (some a) n c) l) (j : Nat) (x : Cl) (hx : l[j]? = some x) :
    w.cell? (a.add (j * 3)) = some (.bool x.null) ∧ w.cell? ((a.add (j * 3)).add 1) = some (.int .i64 x.num) ∧ w.cell? ((a.add (j * 3)).add 2) = some (.string ⟨x.txt.toArray⟩) := by
  obtain ⟨A0, c0, he, h1, h2, h3⟩ := h
  simp only [Value.slice.injEq] at he
  obtain ⟨rfl, rfl, rfl⟩ := he
  obtain ⟨hj, rfl⟩ := List.getElem?_eq_some_iff.1 hx
  have := h3 a rfl j hj
  exact ⟨this.c0, this.c1, this.c2⟩

theorem Fr.at3 {w w' : World} {a : Addr} {c : Cl} (hf : Fr Non w w') (h : At3 w a c) : At3 w' a c :=
  h.keep (hf.block _ (World.block_lt_of_cell? w _ h.c0) (fun e => e))
/-- as a walk spells them -/
theorem At3.lit {w : World} {a : Addr} {c : Cl} (h : At3 w a c) : w.cell? a = some (.bool c.null) ∧ w.cell? { block := a.block, off := a.off + 1 } = some (.int .i64 c.num) ∧ w.cell? { block := a.block, off := a.off + 2 } = some (.string ⟨c.txt.toArray⟩) := ⟨h.c0, h.c1, h.c2⟩
theorem all_take {f : Cl → Bool} {l : List Cl} {k : Nat} (h : k < l.length) (h1 : (l.take k).all f = true) : (l.take (k + 1)).all f = f l[k] := by
  rw [List.take_succ_eq_append_getElem h, List.all_append, h1]; simp
theorem all_false {f : Cl → Bool} {l : List Cl} {k : Nat} (h : k < l.length) (h1 : f l[k] = false) : l.all f = false :=
  List.all_eq_false.2 ⟨l[k], List.getElem_mem h, by simp [h1]⟩

theorem Oc.lt {w : World} {B : Nat} {v : Value} {l : List Cl} (h : Oc w B v l) : ∀ k, v.ownBlock = some k → B ≤ k ∧ k < w.heap.size := World.ownsRow.lt h
theorem Oc.cs {w : World} {B : Nat} {v : Value} {l : List Cl} (h : Oc w B v l) : Cs w v l := by
  rcases h.2 with ⟨rfl, h0⟩ | ⟨g, cap, cur, rfl, _, _, hle, _, _, _⟩
  · have hl : l = [] := List.eq_nil_of_length_eq_zero h0
    subst hl; exact Cs.nil_ w
  · refine ⟨_, cap, rfl, hle, (fun h => by cases h), fun a ha j hj => ?_⟩
    cases ha
    have H := fun i hi => World.ownsRow.cells h (g := g) rfl (j * 3 + i) _ ((clsL_at l j i hj hi).trans (List.getElem?_eq_getElem (by simp [clL]; omega)))
    refine ⟨?_, ?_, ?_⟩
    · have := H 0 (by omega); simpa [clL] using this
    · rw [add_add]; have := H 1 (by omega); simpa [clL] using this
    · rw [add_add]; have := H 2 (by omega); simpa [clL] using this
theorem Oc.shape {w : World} {B : Nat} {v : Value} {l : List Cl} (h : Oc w B v l) : ∃ A c, v = .slice A l.length c := h.cs.shape
theorem Oc.keep {w w' : World} {B : Nat} {v : Value} {l : List Cl} (h : Oc w B v l) (hk : ∀ k, v.ownBlock = some k → w'.heap[k]? = w.heap[k]?) : Oc w' B v l := by
  refine ⟨h.1, ?_⟩
  rcases h.2 with h2 | ⟨g, cap, cur, hv, hb, hg, r⟩
  · exact .inl h2
  · exact .inr ⟨g, cap, cur, hv, hb, by rw [hk g (by rw [hv]; rfl)]; exact hg, r⟩
theorem Oc.fr {S : Nat → Prop} {w w' : World} {B : Nat} {v : Value} {l : List Cl} (h : Oc w B v l) (hf : Fr S w w') (hn : ∀ k, v.ownBlock = some k → ¬ S k) : Oc w' B v l :=
  h.keep fun k hk => hf.block k (h.lt k hk).2 (hn k hk)
theorem Oc.non {w w' : World} {B : Nat} {v : Value} {l : List Cl} (h : Oc w B v l) (hf : Fr Non w w') : Oc w' B v l := h.fr hf fun _ _ e => e
theorem Oc.alloc {w : World} {B : Nat} {v : Value} {l : List Cl} (h : Oc w B v l) (o : Obj) : Oc (w.alloc o) B v l := h.non ((Fr.refl _ _).alloc o)
theorem Oc.drew {w : World} {B : Nat} {v : Value} {l : List Cl} (h : Oc w B v l) : Oc w.drew B v l := h
theorem Oc.mono {w : World} {B B' : Nat} {v : Value} {l : List Cl} (h : Oc w B v l) (hB : B' ≤ B) : Oc w B' v l := by
  refine ⟨h.1, ?_⟩
  rcases h.2 with h2 | ⟨g, cap, cur, hv, hb, r⟩
  · exact .inl h2
  · exact .inr ⟨g, cap, cur, hv, by omega, r⟩
theorem Oc.kind {w : World} {B : Nat} {v : Value} {l : List Cl} (h : Oc w B v l) : ∀ k, v.ownBlock = some k → ∃ cur, w.heap[k]? = some (.cells cur 26 (0, 0)) := by
  intro k hk
  rcases h.2 with ⟨rfl, _⟩ | ⟨g, cap, cur, rfl, _, hg, _⟩
  · cases hk
  · obtain rfl : g = k := by simpa [Value.ownBlock] using hk
    exact ⟨cur, hg⟩
theorem Oc.row {w : World} {B : Nat} {v : Value} {l : List Cl} (h : Oc w B v l) (hn : 0 < l.length) : ∃ g cap, v = .slice (some ⟨g, 0, none⟩) l.length cap ∧ B ≤ g ∧ g < w.heap.size ∧ l.length ≤ cap ∧ cap ≤ maxLen := by
  rcases h.2 with ⟨rfl, h0⟩ | ⟨g, cap, cur, rfl, hb, hg, hle, hm, _⟩
  · omega
  · exact ⟨g, cap, rfl, hb, (Array.getElem?_eq_some_iff.1 hg).1, hle, hm⟩
/-- what a walk asks of a row's element at j -/
theorem Oc.el {w : World} {B g n cap : Nat} {l : List Cl} (h : Oc w B (.slice (some ⟨g, 0, none⟩) n cap) l) (hn : n = l.length) (j : Nat) (x : Cl) (hx : l[j]? = some x) :
    w.cell? ⟨g, j * 3, none⟩ = some (.bool x.null) ∧ w.cell? ⟨g, j * 3 + 1, none⟩ = some (.int .i64 x.num) ∧ w.cell? ⟨g, j * 3 + 2, none⟩ = some (.string ⟨x.txt.toArray⟩) := by
  subst hn
  obtain ⟨hj, rfl⟩ := List.getElem?_eq_some_iff.1 hx
  refine ⟨?_, ?_, ?_⟩
  · rw [World.ownsRow.cellAt h (j * 3) (by omega)]; have := clsL_at l j 0 hj (by omega); simpa [clL] using this
  · rw [World.ownsRow.cellAt h (j * 3 + 1) (by omega)]; have := clsL_at l j 1 hj (by omega); simpa [clL] using this
  · rw [World.ownsRow.cellAt h (j * 3 + 2) (by omega)]; have := clsL_at l j 2 hj (by omega); simpa [clL] using this
theorem Oc.frozen {w : World} {B g n cap : Nat} {l : List Cl} (h : Oc w B (.slice (some ⟨g, 0, none⟩) n cap) l) (hn : n = l.length) (j : Nat) : w.frozen? ⟨g, j, none⟩ = false := by
  subst hn; exact World.ownsRow.frozenAt h j
theorem info_cl : (Try.prog.info? 26).map (fun i => (i.zero, i.size, i.bytes)) = some (some (.agg #[.bool false, .int .i64 0, .string ⟨#[]⟩]), 3, 32) := by kernel_rfl
theorem oc_lit0 (w : World) (B g : Nat) (hg : g = w.heap.size) (hB : B ≤ g) : Oc (w.alloc (.cells #[] 26)) B (.slice (some ⟨g, 0, none⟩) 0 0) [] := by
  subst hg
  exact World.ownsRow_lit w #[] 0 hB (by unfold maxLen; omega) rfl
theorem oc_lit (w : World) (B g : Nat) (l : List Cl) (cs : Array Value) (hcs : cs.toList = clsL l) (hg : g = w.heap.size) (hB : B ≤ g) (hm : l.length ≤ 1000000) : Oc (w.alloc (.cells cs 26)) B (.slice (some ⟨g, 0, none⟩) l.length l.length) l := by
  subst hg
  have h := World.ownsRow_lit (e := 26) (size := 3) w cs l.length hB (by unfold maxLen; omega) (by rw [← Array.length_toList, hcs, clsL_len])
  rw [hcs] at h
  exact h
/-! ### Steps -/
end Go.Proofs.Ytihofmmbdedhbaa


namespace Go.Proofs.Ytihofmmbdedhbaa
set_option linter.unusedVariables false
set_option linter.unusedSimpArgs false
set_option maxRecDepth 100000
open Go.RowKit

/-- a zone stored whole, as a walk spells it -/
def setRN (w : World) (g : Nat) (r n : Int) : World := (w.setCell ⟨g, 0, none⟩ (.int .i64 r)).setCell ⟨g, 1, none⟩ (.int .i64 n)
theorem setRN_B {w : World} {g : Nat} {y : Zn} (h : ZnB w g y) (r n : Int) : ZnB (setRN w g r n) g ⟨r, n, y.low, y.high⟩ := (Blk.set h 0 _).set 1 _
theorem setRN_fr (w : World) (g : Nat) (r n : Int) : Fr (One g) w (setRN w g r n) := ((Fr.refl (One g) w).set1 0 _).set1 1 _
def setZn (w : World) (g : Nat) (z : Zn) : World := setHigh (setLow (setRN w g z.rows z.nulls) g z.low.null z.low.num z.low.txt) g z.high.null z.high.num z.high.txt
theorem setZn_B {w : World} {g : Nat} {y : Zn} (h : ZnB w g y) (z : Zn) : ZnB (setZn w g z) g z := setHigh_B (setLow_B (setRN_B h z.rows z.nulls) z.low) z.high
theorem setZn_fr (w : World) (g : Nat) (z : Zn) : Fr (One g) w (setZn w g z) := ((setRN_fr _ _ _ _).trans (setLow_fr _ _ _ _ _)).trans (setHigh_fr _ _ _ _ _)
theorem setNul_B {w : World} {g : Nat} {y : Zn} (h : ZnB w g y) (n : Int) : ZnB (w.setCell ⟨g, 1, none⟩ (.int .i64 n)) g ⟨y.rows, n, y.low, y.high⟩ := Blk.set h 1 _
theorem NoteAt.nul {w : World} {f p g : Nat} {first : Bool} {z : Zn} (h : NoteAt w f p g first z) (hf : f ≠ g) (hp : p ≠ g) (n : Int) : NoteAt (w.setCell ⟨g, 1, none⟩ (.int .i64 n)) f p g first ⟨z.rows, n, z.low, z.high⟩ :=
  ⟨h.fb.fr ((Fr.refl (One g) w).set1 1 _) hf, h.pb.fr ((Fr.refl (One g) w).set1 1 _) hp, setNul_B h.zb n⟩
/-- a call's end where its one result is a zone in a block -/
theorem ret_zn {fn : Func} {p : Tmp} (h : fn.results = #[.cell p 28]) (tmps : Array Value) (w : World) (g : Nat) (z : Zn)
    (hp : tmps.getD p undef = .pointer (some ⟨g, 0, none⟩)) (hg : ZnB w g z) : (results fn tmps).run Try.prog w = .ok (znV z) w :=
  results_cell_row h tmps w g 28 _ (0, 0) _ hp hg Try.underlying28 rfl (by kernel_rfl)

set_option maxHeartbeats 2000000 in
theorem zof_any (v : Value) (l : List Cl) (w : World) (hv : Cs w v l) (hl : l.length ≤ 1000000) :
    Calls Try.prog 8 #[v] w fun e w' => ∃ z, e = .returned (znV z) ∧ IsOf l z ∧ Fr Non w w' := by
  obtain ⟨A, c, rfl, hlc, hn, hcell⟩ := hv
  have HC := Lib.hid hcell
  have HN := Lib.hid hn
  clear hcell hn
  have f0 : Fr Non w _ := ((Fr.refl Non w).alloc (.cells (znC noZn) 28)).alloc (.cells (znC ⟨l.length, 0, noCl, noCl⟩) 28)
  have hA : ZnB (w.alloc (.cells (znC noZn) 28)) w.heap.size noZn := Blk.new _ _ _
  have hB : ZnB ((w.alloc (.cells (znC noZn) 28)).alloc (.cells (znC ⟨l.length, 0, noCl, noCl⟩) 28)) (w.alloc (.cells (znC noZn) 28)).heap.size ⟨l.length, 0, noCl, noCl⟩ := Blk.new _ _ _
  have hsz : (w.alloc (.cells (znC noZn) 28)).heap.size = w.heap.size + 1 := by simp
  rw [hsz] at hB
  have hA2 : ZnB ((w.alloc (.cells (znC noZn) 28)).alloc (.cells (znC ⟨l.length, 0, noCl, noCl⟩) 28)) w.heap.size noZn := hA.fr ((Fr.refl Non _).alloc _) (fun e => e)
  have hs2 : ((w.alloc (.cells (znC noZn) 28)).alloc (.cells (znC ⟨l.length, 0, noCl, noCl⟩) 28)).heap.size = w.heap.size + 1 + 1 := by simp
  clear hA hsz
  unfold znC noZn noCl at *
  dsimp only at *
  replace f0 := Lib.hid f0
  replace hB := Lib.hid hB
  replace hA2 := Lib.hid hA2
  go_enter Try.func8, Try.ntmps8
  go_wp2_with fail
  refine (noteIn_any (w.heap.size + 1) _).mono ?_
  rintro e w1 ⟨rfl, n1, n2, f1⟩
  rw [hs2] at n1 n2
  have hA3 := hA2.out.fr f1 (fun e => e)
  have hN3 : NoteAt w1 (w.heap.size + 1 + 1 + 1) (w.heap.size + 1 + 1) (w.heap.size + 1) true ⟨l.length, 0, noCl, noCl⟩ := ⟨n1, n2, hB.out.fr f1 (fun e => e)⟩
  have hF3 := f0.out.trans f1
  have J0 := Lib.hid (jinv_start l.length 0)
  clear hA2 hB f0 n1 n2 f1
  rw [hs2]
  clear hs2
  generalize hw : w.heap.size = R at *
  have HW := Lib.hid (Nat.le_of_eq hw)
  clear hw
  go_wp2
  go_loopw [13] (fun i wr => ∃ (k : Nat) (z : Zn) (first : Bool), k ≤ l.length ∧ i = .int .i64 k ∧ JInv l.length (nulC (l.take k)) (liveC (l.take k)) z first ∧ NoteAt wr (R + 1 + 1 + 1) (R + 1 + 1) (R + 1) first z ∧ ZnB wr R noZn ∧ Fr Non w wr) (fun i _ => l.length - (intOf i).toNat)
  case atStart => exact ⟨0, _, true, Nat.zero_le _, rfl, J0.out, hN3, hA3, hF3⟩
  case round =>
    clear hA3 hN3 hF3 J0
    obtain ⟨k, z, first, hk, rfl, hJ, hN, hA, hF⟩ := hrel
    have hHR : R + 1 < wr.heap.size := hN.zb.lt
    by_cases hlt : k < l.length
    · cases A with
      | none => have := HN.out rfl; omega
      | some a =>
        obtain ⟨hc0, hc1, hc2⟩ := (hF.at3 (HC.out a rfl k hlt)).lit
        have HY := Lib.hid (jinv_yes hlt hJ)
        have HX := Lib.hid (jinv_no hlt hJ)
        obtain ⟨hn0, hn1⟩ := jinv_le (Nat.le_of_lt hlt) hJ
        clear hJ
        generalize l[k] = x at *
        obtain ⟨xn, xi, xt⟩ := x
        dsimp only at hc0 hc1 hc2
        cases xn
        · have f1 := (Fr.refl Non wr).alloc (.cells #[.bool false, .int .i64 xi, .string ⟨xt.toArray⟩] 26)
          have hN1 := hN.non f1
          have hA1 := hA.fr f1 (fun e => e)
          have hF1 := hF.trans f1
          have HNote := Lib.hid (note_any (R + 1 + 1 + 1) (R + 1 + 1) (R + 1) first z ⟨false, xi, xt⟩ _ hN1 (by omega) (by omega) (by omega))
          replace HX := Lib.hid (HX.out rfl)
          clear HY hN f1 hN1 hA hF
          replace hA1 := Lib.hid hA1
          replace hF1 := Lib.hid hF1
          go_wp2_with fail
          refine HNote.out.mono ?_
          rintro e w4 ⟨rfl, hN4, f4⟩
          have hA4 := hA1.out.fr f4 (fun e => by rcases e with e | e <;> omega)
          have hF4 := hF1.out.fresh f4 (fun q e => by have := HW.out; rcases e with e | e <;> omega)
          replace hN4 := Lib.hid hN4
          go_wp2
          go_roundw
          case rel => exact ⟨k + 1, _, false, by omega, by go_num, HX.out, hN4.out, hA4, hF4⟩
          case measure => simp [intOf]; omega
        · have a1 : wr.cell? ⟨R + 1, 1, none⟩ = some (.int .i64 z.nulls) := hN.zb.cell 1
          have y1 := hN.zb.frozen 1
          have f2 := (Fr.refl (One (R + 1)) wr).set1 1 (.int .i64 (z.nulls + 1))
          have f1 := (Fr.refl Non (wr.setCell ⟨R + 1, 1, none⟩ (.int .i64 (z.nulls + 1)))).alloc (.cells #[.bool true, .int .i64 xi, .string ⟨xt.toArray⟩] 26)
          have hN2 := Lib.hid ((hN.nul (by omega) (by omega) (z.nulls + 1)).non f1)
          have hA2 := Lib.hid ((hA.fr f2 (fun e => by have : R = R + 1 := e; omega)).fr f1 (fun e => e))
          have hF2 := Lib.hid ((hF.fresh f2 (fun q e => by have : q = R + 1 := e; have := HW.out; omega)).trans f1)
          replace HY := Lib.hid (HY.out rfl)
          clear HX hN f1 f2 hA hF
          go_wp2_with fail
          go_roundw
          case rel => exact ⟨k + 1, _, first, by omega, by go_num, HY.out, hN2.out, hA2.out, hF2.out⟩
          case measure => simp [intOf]; omega
    · obtain rfl : k = l.length := by omega
      rw [List.take_length] at hJ
      have HE := Lib.hid (jinv_end hJ)
      obtain ⟨y0, y1, y2, y3, y4, y5, y6, y7⟩ := znB_froz hA
      obtain ⟨b0, b1, b2, b3, b4, b5, b6, b7⟩ := znB_cells hA
      obtain ⟨a0, a1, a2, a3, a4, a5, a6, a7⟩ := znB_cells hN.zb
      have HA := Lib.hid (setZn_B hA z)
      have HF := Lib.hid (hF.fresh (setZn_fr wr R z) (fun q e => by have : q = R := e; have := HW.out; omega))
      clear hJ hN hA hF
      go_wp2
      exact bodyPost_ret (v := znV z) (ret_zn (p := 2) rfl _ _ R z rfl HA.out) rfl ⟨z, rfl, HE.out, HF.out⟩
end Go.Proofs.Ytihofmmbdedhbaa


namespace Go.Proofs.Ytihofmmbdedhbaa
set_option linter.unusedVariables false
set_option linter.unusedSimpArgs false
set_option maxRecDepth 100000
open Go.RowKit

set_option maxHeartbeats 1000000 in
theorem zhas_any (z : Zn) (c : Cl) (w : World) : Calls Try.prog 11 #[znV z, clV c] w fun e w' => e = .returned (.bool (hasZ z c)) ∧ Fr Non w w' := by
  have H0 := znCl_new w w.heap.size z c rfl
  have F0 : Fr Non w _ := ((Fr.refl Non w).alloc (.cells (znC z) 28)).alloc (.cells (clC c) 26)
  obtain ⟨n, i, t⟩ := c
  have B1 := fun W => bnd_any z W
  have O1 := fun W => order_any z.low ⟨n, i, t⟩ W
  have O2 := fun W => order_any ⟨n, i, t⟩ z.high W
  have HR0 := Lib.hid (show n = false → hasZ z ⟨n, i, t⟩ = (bndZ z && decide (ordC z.low ⟨n, i, t⟩ ≤ 0) && decide (ordC ⟨n, i, t⟩ z.high ≤ 0)) from fun e => by subst e; rfl)
  unfold znV clV at *
  unfold znC clC at *
  dsimp only at *
  have H0 := Lib.hid H0
  have F0 := Lib.hid F0
  cases n
  · have HR := Lib.hid (HR0.out rfl)
    clear HR0
    generalize bndZ z = b at *
    generalize ordC z.low ⟨false, i, t⟩ = x at *
    generalize ordC ⟨false, i, t⟩ z.high = y at *
    go_enter Try.func11, Try.ntmps11
    go_wp2_with fail
    refine (B1 _).mono ?_
    rintro e w1 ⟨rfl, f1⟩
    have h1 := H0.out.non f1
    have F1 := Lib.hid (F0.out.trans f1)
    cases b
    · clear B1 O1 O2
      go_wp2
      go_ret
      exact ⟨ret_boolE (by rw [HR.out]; rfl), F1.out⟩
    · obtain ⟨a0, a1, a2, a3, a4, a5, a6, a7⟩ := znB_cells h1.one
      obtain ⟨c0, c1, c2, _⟩ := h1.two.facts
      dsimp only at c0 c1 c2
      have h1 := Lib.hid h1
      clear B1 f1 F0
      go_wp2_with fail
      refine (O1 _).mono ?_
      rintro e w2 ⟨rfl, f2⟩
      have h2 := h1.out.non f2
      have F2 := Lib.hid (F1.out.trans f2)
      clear a0 a1 a2 a3 a4 a5 a6 a7 c0 c1 c2 O1 f2
      obtain ⟨a0, a1, a2, a3, a4, a5, a6, a7⟩ := znB_cells h2.one
      obtain ⟨c0, c1, c2, _⟩ := h2.two.facts
      dsimp only at c0 c1 c2
      have h2 := Lib.hid h2
      by_cases hx : x ≤ 0
      · have HE : Hid (hasZ z ⟨false, i, t⟩ = decide (y ≤ 0)) := Lib.hid (by rw [HR.out, decide_eq_true hx]; simp)
        go_wp2_with fail
        refine (O2 _).mono ?_
        rintro e w3 ⟨rfl, f3⟩
        have F3 := Lib.hid (F2.out.trans f3)
        clear O2 f3
        go_wp2
        go_ret
        exact ⟨ret_boolE HE.out.symm, F3.out⟩
      · have HE : Hid (hasZ z ⟨false, i, t⟩ = false) := Lib.hid (by rw [HR.out, decide_eq_false hx]; simp)
        clear O2
        go_wp2
        go_ret
        exact ⟨ret_boolE HE.out.symm, F2.out⟩
  · clear B1 O1 O2
    go_enter Try.func11, Try.ntmps11
    go_wp2
    go_ret
    exact ⟨ret_boolE rfl, F0.out⟩

end Go.Proofs.Ytihofmmbdedhbaa


namespace Go.Proofs.Ytihofmmbdedhbaa
set_option linter.unusedVariables false
set_option linter.unusedSimpArgs false
set_option maxRecDepth 100000
open Go.RowKit

theorem zeq_dec (a b : Zn) : zeq a b = (decide (a.rows = b.rows) && (decide (a.nulls = b.nulls) && (decide (a.low.null = b.low.null) && (decide (a.low.num = b.low.num) && (decide (a.low.txt = b.low.txt) && (decide (a.high.null = b.high.null) && (decide (a.high.num = b.high.num) && decide (a.high.txt = b.high.txt)))))))) := by
  rw [zeq_parts, Bool.eq_iff_iff]
  simp
theorem ite_and (W : World) (p : Prop) [Decidable p] (x : Bool) : (if p then Result.ok (Value.bool x) W else Result.ok (Value.bool false) W) = Result.ok (Value.bool (decide p && x)) W := by
  by_cases hp : p <;> simp [hp]
theorem ite_andn (W : World) (p : Prop) [Decidable p] (x : Bool) : (if p then Result.ok (Value.bool x) W else Result.ok (Value.bool true) W) = Result.ok (Value.bool (!(decide p && !x))) W := by
  by_cases hp : p <;> simp [hp]
set_option maxHeartbeats 1000000 in
theorem run_eql_zn (W : World) (a b : Zn) : (binOp .eql 28 (.agg #[.int .i64 a.rows, .int .i64 a.nulls, .bool a.low.null, .int .i64 a.low.num, .string ⟨a.low.txt.toArray⟩, .bool a.high.null, .int .i64 a.high.num, .string ⟨a.high.txt.toArray⟩]) (.agg #[.int .i64 b.rows, .int .i64 b.nulls, .bool b.low.null, .int .i64 b.low.num, .string ⟨b.low.txt.toArray⟩, .bool b.high.null, .int .i64 b.high.num, .string ⟨b.high.txt.toArray⟩])).run Try.prog W = .ok (.bool (zeq a b)) W := by
  rw [zeq_dec]
  obtain ⟨ar, an, ⟨aln, ali, alt⟩, ⟨ahn, ahi, aht⟩⟩ := a
  obtain ⟨br, bn, ⟨bln, bli, blt⟩, ⟨bhn, bhi, bht⟩⟩ := b
  dsimp only
  go_simp
  simp only [ite_and, Bool.and_true]
set_option maxHeartbeats 1000000 in
theorem run_neq_zn (W : World) (a b : Zn) : (binOp .neq 28 (.agg #[.int .i64 a.rows, .int .i64 a.nulls, .bool a.low.null, .int .i64 a.low.num, .string ⟨a.low.txt.toArray⟩, .bool a.high.null, .int .i64 a.high.num, .string ⟨a.high.txt.toArray⟩]) (.agg #[.int .i64 b.rows, .int .i64 b.nulls, .bool b.low.null, .int .i64 b.low.num, .string ⟨b.low.txt.toArray⟩, .bool b.high.null, .int .i64 b.high.num, .string ⟨b.high.txt.toArray⟩])).run Try.prog W = .ok (.bool (!zeq a b)) W := by
  rw [zeq_dec]
  obtain ⟨ar, an, ⟨aln, ali, alt⟩, ⟨ahn, ahi, aht⟩⟩ := a
  obtain ⟨br, bn, ⟨bln, bli, blt⟩, ⟨bhn, bhi, bht⟩⟩ := b
  dsimp only
  go_simp
  simp only [ite_andn, Bool.and_true, Bool.not_not, Bool.not_false, Bool.not_true, Bool.not_and]

theorem isOf_ex : IsOf [⟨false, 3, []⟩, ⟨true, 0, []⟩, ⟨false, -1, []⟩] ⟨3, 1, ⟨false, -1, []⟩, ⟨false, 3, []⟩⟩ := by
  refine ⟨rfl, rfl, .inr ⟨by simp [liveC], by simp [liveC], ?_⟩⟩
  intro c hc
  rw [show liveC [⟨false, 3, []⟩, ⟨true, 0, []⟩, ⟨false, -1, []⟩] = [⟨false, 3, []⟩, ⟨false, -1, []⟩] from rfl] at hc
  simp at hc
  rcases hc with rfl | rfl <;> decide

set_option maxHeartbeats 1000000 in
theorem znlive_any (w : World) : Calls Try.prog 7 #[] w fun e w' => e = .returned (.bool true) ∧ Fr Non w w' := by
  have HO := oc_lit w 0 _ [⟨false, 3, []⟩, ⟨true, 0, []⟩, ⟨false, -1, []⟩] #[.bool false, .int .i64 3, .string ⟨#[]⟩, .bool true, .int .i64 0, .string ⟨#[]⟩, .bool false, .int .i64 (-1), .string ⟨#[]⟩] rfl rfl (Nat.zero_le _) (by decide)
  have H1 := Lib.hid (zof_any _ _ _ HO.cs (by decide))
  have F0 : Fr Non w _ := (Fr.refl Non w).alloc (.cells #[.bool false, .int .i64 3, .string ⟨#[]⟩, .bool true, .int .i64 0, .string ⟨#[]⟩, .bool false, .int .i64 (-1), .string ⟨#[]⟩] 26)
  replace F0 := Lib.hid F0
  clear HO
  have q := fun W => run_eql_zn W ⟨3, 1, ⟨false, -1, []⟩, ⟨false, 3, []⟩⟩ ⟨3, 1, ⟨false, -1, []⟩, ⟨false, 3, []⟩⟩
  rw [zeq_self] at q
  dsimp only at q
  go_enter Try.func7, Try.ntmps7
  go_wp2_with fail
  refine H1.out.mono ?_
  rintro e w1 ⟨z, rfl, hz, f1⟩
  obtain rfl := isOf_uniq hz isOf_ex
  unfold znV znC
  go_wp2
  go_ret
  exact ⟨rfl, F0.out.trans f1⟩

set_option maxHeartbeats 1000000 in
theorem smallC_any (v : Value) (l : List Cl) (w : World) (hv : Cs w v l) :
    Calls Try.prog 6 #[v] w fun e w' => ∃ b, e = .returned (.bool b) ∧ (b = true → l.length ≤ 100) ∧ Fr Non w w' := by
  obtain ⟨A, c, rfl, hlc, hn, hcell⟩ := hv
  have HC := Lib.hid hcell
  have HN := Lib.hid hn
  clear hcell hn
  go_enter Try.func6, Try.ntmps6
  go_wp2
  go_loopw [3] (fun i wr => ∃ (k : Nat), k ≤ l.length ∧ k ≤ 200 ∧ i = .int .i64 k ∧ Fr Non w wr) (fun i _ => 200 - (intOf i).toNat)
  case atStart => exact ⟨0, Nat.zero_le _, Nat.zero_le _, rfl, Fr.refl _ _⟩
  case round =>
    obtain ⟨k, hk, hk2, rfl, hfr⟩ := hrel
    by_cases hlt : k < l.length
    · by_cases h200 : k < 200
      · cases A with
        | none => have := HN.out rfl; omega
        | some a =>
          obtain ⟨hc0, hc1, hc2⟩ := (hfr.at3 (HC.out a rfl k hlt)).lit
          generalize l[k] = x at *
          obtain ⟨xn, xi, xt⟩ := x
          dsimp only at hc0 hc1 hc2
          have hs := slen xt
          by_cases hx : 60 < xt.length
          · go_wp2
            go_ret
            exact ⟨false, rfl, (fun h => by cases h), hfr⟩
          · go_wp2
            go_roundw
            case rel => exact ⟨k + 1, by omega, by omega, by go_num, hfr⟩
            case measure => simp [intOf]; omega
      · go_wp2
        go_ret
        exact ⟨_, rfl, (fun h => by have := of_decide_eq_true h; omega), hfr⟩
    · go_wp2
      go_ret
      exact ⟨_, rfl, (fun h => by have := of_decide_eq_true h; omega), hfr⟩

set_option maxHeartbeats 1000000 in
theorem lmay_any (ty : Int) (v : Value) (l : List Cl) (w : World) (hv : Cs w v l) (hl : l.length ≤ 1000000) :
    Calls Try.prog 10 #[.int .i64 ty, v] w fun e w' => e = .returned (.bool (l.all (mayC ty true))) ∧ Fr Non w w' := by
  obtain ⟨A, c, rfl, hlc, hn, hcell⟩ := hv
  have HC := Lib.hid hcell
  have HN := Lib.hid hn
  clear hcell hn
  go_enter Try.func10, Try.ntmps10
  go_wp2
  go_loopw [5] (fun i wr => ∃ (k : Nat), k ≤ l.length ∧ i = .int .i64 k ∧ (l.take k).all (mayC ty true) = true ∧ Fr Non w wr) (fun i _ => l.length - (intOf i).toNat)
  case atStart => exact ⟨0, Nat.zero_le _, rfl, rfl, Fr.refl _ _⟩
  case round =>
    obtain ⟨k, hk, rfl, hall, hfr⟩ := hrel
    have HA := Lib.hid hall
    clear hall
    by_cases hlt : k < l.length
    · cases A with
      | none => have := HN.out rfl; omega
      | some a =>
        obtain ⟨hc0, hc1, hc2⟩ := (hfr.at3 (HC.out a rfl k hlt)).lit
        have HT := Lib.hid (all_take hlt HA.out)
        have HF := Lib.hid (fun h => all_false (f := mayC ty true) hlt h)
        clear HA
        generalize l[k] = x at *
        obtain ⟨xn, xi, xt⟩ := x
        go_wp2_with fail
        refine (rmay_any ty true ⟨xn, xi, xt⟩ _).mono ?_
        rintro e w4 ⟨rfl, hf4⟩
        have hf5 := hfr.trans hf4
        cases hM : mayC ty true ⟨xn, xi, xt⟩
        · have HF2 := HF.out hM
          go_wp2
          go_ret
          exact ⟨ret_boolE HF2.symm, hf5⟩
        · have HT2 := Lib.hid (HT.out.trans hM)
          clear HT HF
          go_wp2
          go_roundw
          case rel => exact ⟨k + 1, by omega, by go_num, HT2.out, hf5⟩
          case measure => simp [intOf]; omega
    · obtain rfl : k = l.length := by omega
      have HA2 := HA.out
      rw [List.take_length] at HA2
      go_wp2
      go_ret
      exact ⟨ret_boolE HA2.symm, hfr⟩
end Go.Proofs.Ytihofmmbdedhbaa


namespace Go.Proofs.Ytihofmmbdedhbaa
set_option linter.unusedVariables false
set_option linter.unusedSimpArgs false
set_option maxRecDepth 100000
open Go.RowKit

theorem ceq_no (c : Cl) (w : World) : Calls Try.prog 32 #[clV c, .agg #[.bool false, .int .i64 0, .string ⟨#[]⟩]] w fun e w' => e = .returned (.bool (ceq c noCl)) ∧ Fr Non w w' := csame_any c noCl w
/-- which zones, of a type's -/
theorem mayZ_is (ty : Int) (z : Zn) : mayZ ty z = (cntZ z && (isTy ty && (if bndZ z then mayC ty false z.low && (mayC ty false z.high && decide (ordC z.low z.high ≤ 0)) else ceq z.low noCl && ceq z.high noCl))) := by
  unfold mayZ
  cases cntZ z <;> cases isTy ty <;> cases bndZ z <;> simp [Bool.and_assoc]
set_option maxHeartbeats 1000000 in
theorem zmay_any (ty : Int) (z : Zn) (w : World) : Calls Try.prog 12 #[.int .i64 ty, znV z] w fun e w' => e = .returned (.bool (mayZ ty z)) ∧ Fr Non w w' := by
  have h0 : ZnB (w.alloc (.cells (znC z) 28)) w.heap.size z := Blk.new _ _ _
  have F0 : Fr Non w _ := (Fr.refl Non w).alloc (.cells (znC z) 28)
  have C1 := fun W => cnt_zn z W
  have T1 := fun W => ist_zn ty W
  have B1 := fun W => bnd_any z W
  have S1 := fun W => ceq_no z.low W
  have S2 := fun W => ceq_no z.high W
  have M1 := fun W => may_any ty false z.low W
  have M2 := fun W => may_any ty false z.high W
  have O1 := fun W => order_any z.low z.high W
  have HR := Lib.hid (mayZ_is ty z)
  unfold ZnB at h0
  unfold znV clV at *
  have h0 : Hid (ZnB _ w.heap.size z) := Lib.hid h0
  unfold znC clC at *
  have F0 := Lib.hid F0
  generalize cntZ z = c at *
  generalize isTy ty = t at *
  generalize bndZ z = b at *
  generalize ceq z.low noCl = e1 at *
  generalize ceq z.high noCl = e2 at *
  generalize mayC ty false z.low = m1 at *
  generalize mayC ty false z.high = m2 at *
  generalize ordC z.low z.high = x at *
  go_enter Try.func12, Try.ntmps12
  go_wp2_with fail
  refine (C1 _).mono ?_
  rintro e w1 ⟨rfl, f1⟩
  have h1 := h0.out.fr f1 (fun e => e)
  have F1 := Lib.hid (F0.out.trans f1)
  obtain ⟨a0, a1, a2, a3, a4, a5, a6, a7⟩ := znB_cells h1
  have h1 := Lib.hid h1
  clear f1
  clear C1
  cases c
  · clear T1 B1 S1 S2 M1 M2 O1
    go_wp2
    go_ret
    exact ⟨ret_boolE (by rw [HR.out]; rfl), F1.out⟩
  · skip
    go_wp2_with fail
    refine (T1 _).mono ?_
    rintro e w2 ⟨rfl, f2⟩
    have h2 := h1.out.fr f2 (fun e => e)
    have F2 := Lib.hid (F1.out.trans f2)
    clear a0 a1 a2 a3 a4 a5 a6 a7
    obtain ⟨a0, a1, a2, a3, a4, a5, a6, a7⟩ := znB_cells h2
    have h2 := Lib.hid h2
    clear f2
    clear T1
    cases t
    · clear B1 S1 S2 M1 M2 O1
      go_wp2
      go_ret
      exact ⟨ret_boolE (by rw [HR.out]; rfl), F2.out⟩
    · skip
      go_wp2_with fail
      refine (B1 _).mono ?_
      rintro e w3 ⟨rfl, f3⟩
      have h3 := h2.out.fr f3 (fun e => e)
      have F3 := Lib.hid (F2.out.trans f3)
      clear a0 a1 a2 a3 a4 a5 a6 a7
      obtain ⟨a0, a1, a2, a3, a4, a5, a6, a7⟩ := znB_cells h3
      have h3 := Lib.hid h3
      clear f3
      clear B1
      cases b
      · clear M1 M2 O1
        go_wp2_with fail
        refine (S1 _).mono ?_
        rintro e w4 ⟨rfl, f4⟩
        have h4 := h3.out.fr f4 (fun e => e)
        have F4 := Lib.hid (F3.out.trans f4)
        clear a0 a1 a2 a3 a4 a5 a6 a7
        obtain ⟨a0, a1, a2, a3, a4, a5, a6, a7⟩ := znB_cells h4
        have h4 := Lib.hid h4
        clear f4
        clear S1
        cases e1
        · clear S2
          go_wp2
          go_ret
          exact ⟨ret_boolE (by rw [HR.out]; rfl), F4.out⟩
        · skip
          go_wp2_with fail
          refine (S2 _).mono ?_
          rintro e w5 ⟨rfl, f5⟩
          have h5 := h4.out.fr f5 (fun e => e)
          have F5 := Lib.hid (F4.out.trans f5)
          clear a0 a1 a2 a3 a4 a5 a6 a7
          obtain ⟨a0, a1, a2, a3, a4, a5, a6, a7⟩ := znB_cells h5
          have h5 := Lib.hid h5
          clear f5
          go_wp2
          go_ret
          exact ⟨ret_boolE (by rw [HR.out]; rfl), F5.out⟩
      · clear S1 S2
        go_wp2_with fail
        refine (M1 _).mono ?_
        rintro e w4 ⟨rfl, f4⟩
        have h4 := h3.out.fr f4 (fun e => e)
        have F4 := Lib.hid (F3.out.trans f4)
        clear a0 a1 a2 a3 a4 a5 a6 a7
        obtain ⟨a0, a1, a2, a3, a4, a5, a6, a7⟩ := znB_cells h4
        have h4 := Lib.hid h4
        clear f4
        clear M1
        cases m1
        · clear M2 O1
          go_wp2
          go_ret
          exact ⟨ret_boolE (by rw [HR.out]; rfl), F4.out⟩
        · skip
          go_wp2_with fail
          refine (M2 _).mono ?_
          rintro e w5 ⟨rfl, f5⟩
          have h5 := h4.out.fr f5 (fun e => e)
          have F5 := Lib.hid (F4.out.trans f5)
          clear a0 a1 a2 a3 a4 a5 a6 a7
          obtain ⟨a0, a1, a2, a3, a4, a5, a6, a7⟩ := znB_cells h5
          have h5 := Lib.hid h5
          clear f5
          clear M2
          cases m2
          · clear O1
            go_wp2
            go_ret
            exact ⟨ret_boolE (by rw [HR.out]; rfl), F5.out⟩
          · skip
            go_wp2_with fail
            refine (O1 _).mono ?_
            rintro e w6 ⟨rfl, f6⟩
            have h6 := h5.out.fr f6 (fun e => e)
            have F6 := Lib.hid (F5.out.trans f6)
            clear a0 a1 a2 a3 a4 a5 a6 a7
            obtain ⟨a0, a1, a2, a3, a4, a5, a6, a7⟩ := znB_cells h6
            have h6 := Lib.hid h6
            clear f6
            go_wp2
            go_ret
            exact ⟨ret_boolE (by rw [HR.out]; rfl), F6.out⟩

end Go.Proofs.Ytihofmmbdedhbaa
