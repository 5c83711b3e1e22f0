/-
  Joined: Words of our own on memory, for all texts of this seat: what changed between two worlds (Fr), a known block (Blk), bytes that a slice reads as (Bs), bytes in a row of the call's own (Own), and the steps append and convert over them. · Slices of slices of bytes that the call owns (Owns), and the steps that append one slice, or one value of one cell, to a row of the call's own. · Slices of one-celled elements of any type: what one reads as (Vs), a row of the call's own (Ow), and the steps over them: append of one, append of many, make, copy, cuts. · Layer 1 as plain functions on lists of bytes: what a number's bytes are (the library's 'uvarint'), which number bytes begin with (rd), and that each is the other's back. Nothing of the program. · Layer 1, what is written: contracts of the functions that make bytes of numbers and texts, the program's own and the document's. · Layer 1, what is written, numbers with a sign: contracts of Int, the program's own and the document's. · Texts as plain lists of bytes: Go's '<' on them, and an order in three ways. Nothing of the program. · Layer 9: a cell as a value; which cells there may be, both programs'. · Words on a cell in a block: read, stored whole, handed back. · Slices of cells: what one reads as (Cs), a row of the call's own (Oc), and the steps over them. · Rows: slices of slices of cells: what one reads as (Rs), one of the call's own (Ro), and the steps over them; a cell appended, the new row in the old block or in a new one. · Layer 1, what is written, texts: contracts of join and Text, the program's own and the document's.
-/
import Derived.Deep.RegionHeld3
import Derived.StillTail
import Derived.Test.YtheefloegbkflaaGreatDoorProg
import Derived.WalkKit
import Derived.WalkSpells
import Derived.Deep.AppendSrc
import Derived.Maps.AppendAt
import Derived.Lib.Hide
import Derived.Deep.Draws
import Derived.Lib.AppendStr
import Derived.Laws.CopyOwn
import Derived.Laws.OwnMore
import Derived.Lib.Varint
import Derived.Lib.Zigzag
import Derived.Laws.StructEq
import Derived.Laws.Rows
import Derived.Laws.ResultCell
import Derived.ArgAppend
import Derived.Deep.DeepAppendRoom

namespace Go.Proofs.YtheefloegbkflaaGreatDoor
set_option linter.unusedVariables false
set_option linter.unusedSimpArgs false
set_option maxRecDepth 100000
open Go.RowKit

/-! ### What changed: of the blocks that were there, at most those of S -/
structure Fr (S : Nat → Prop) (w w' : World) : Prop where
  os : w'.os = w.os
  tape : w'.tape = w.tape
  output : w'.output = w.output
  size : w.heap.size ≤ w'.heap.size
  block : ∀ k, k < w.heap.size → ¬ S k → w'.heap[k]? = w.heap[k]?

/-- nothing -/
def Non : Nat → Prop := fun _ => False
/-- one block -/
def One (g : Nat) : Nat → Prop := fun k => k = g

theorem Fr.refl (S : Nat → Prop) (w : World) : Fr S w w := ⟨rfl, rfl, rfl, Nat.le_refl _, fun _ _ _ => rfl⟩
theorem Fr.join {S S' : Nat → Prop} {w w1 w2 : World} (h : Fr S w w1) (h' : Fr S' w1 w2) (hs : ∀ k, k < w.heap.size → S' k → S k) : Fr S w w2 :=
  ⟨h'.os.trans h.os, h'.tape.trans h.tape, h'.output.trans h.output, Nat.le_trans h.size h'.size,
    fun k hk hn => (h'.block k (Nat.lt_of_lt_of_le hk h.size) (fun e => hn (hs k hk e))).trans (h.block k hk hn)⟩
theorem Fr.trans {S : Nat → Prop} {w w1 w2 : World} (h : Fr S w w1) (h' : Fr S w1 w2) : Fr S w w2 := h.join h' fun _ _ e => e
theorem Fr.then {S : Nat → Prop} {w w1 w2 : World} (h : Fr S w w1) (h' : Fr Non w1 w2) : Fr S w w2 := h.join h' fun _ _ e => e.elim
theorem Fr.mono {S S' : Nat → Prop} {w w' : World} (h : Fr S w w') (hs : ∀ k, k < w.heap.size → S k → S' k) : Fr S' w w' :=
  ⟨h.os, h.tape, h.output, h.size, fun k hk hn => h.block k hk fun e => hn (hs k hk e)⟩
theorem Fr.any {S : Nat → Prop} {w w' : World} (h : Fr Non w w') : Fr S w w' := h.mono fun _ _ e => e.elim
theorem Fr.fresh {S S' : Nat → Prop} {w w1 w2 : World} (h : Fr S w w1) (h' : Fr S' w1 w2) (hs : ∀ k, S' k → w.heap.size ≤ k) : Fr S w w2 :=
  h.join h' fun k hk e => absurd (hs k e) (by omega)
theorem Fr.drew {S : Nat → Prop} {w w' : World} (h : Fr S w w') : Fr S w w'.drew := ⟨h.os, h.tape, h.output, h.size, h.block⟩
theorem Fr.drewN {S : Nat → Prop} {w w' : World} (h : Fr S w w') (n : Nat) : Fr S w (w'.drewN n) := ⟨h.os, h.tape, h.output, h.size, h.block⟩
theorem Fr.alloc {S : Nat → Prop} {w w' : World} (h : Fr S w w') (o : Obj) : Fr S w (w'.alloc o) :=
  h.then ⟨rfl, rfl, rfl, by simp, fun k hk _ => Below.heap_alloc _ _ _ hk⟩
theorem Fr.setCell {S : Nat → Prop} {w w' : World} (h : Fr S w w') {p : Addr} (hp : p.block < w.heap.size → S p.block) (u : Value) : Fr S w (w'.setCell p u) :=
  ⟨h.os, h.tape, h.output, by simpa [World.setCell] using h.size, fun k hk hn => (Below.heap_setCell w' p u k (fun e => hn (by subst e; exact hp hk))).trans (h.block k hk hn)⟩
theorem Fr.set1 {g : Nat} {w w' : World} (h : Fr (One g) w w') (i : Nat) (u : Value) : Fr (One g) w (w'.setCell ⟨g, i, none⟩ u) := h.setCell (p := ⟨g, i, none⟩) (fun _ => rfl) u
theorem Fr.of_below {w w' : World} (h : Below w.heap.size w w') : Fr Non w w' := ⟨h.os, h.tape, h.output, h.size, fun k hk _ => h.block k hk⟩
theorem Fr.below {w w' : World} (h : Fr Non w w') : Below w.heap.size w w' := ⟨h.os, h.tape, h.output, h.size, fun k hk => h.block k hk fun e => e⟩
theorem Fr.of_grown {w w' : World} {row : Option Nat} (h : w.grownBy w' row) : Fr (fun k => row = some k) w w' :=
  ⟨h.os, h.tape, h.output, h.size, fun k hk hn => h.block k hk (fun e => hn e.symm)⟩
theorem Fr.cell {S : Nat → Prop} {w w' : World} (h : Fr S w w') {p : Addr} (hp : p.block < w.heap.size) (hn : ¬ S p.block) : w'.cell? p = w.cell? p := World.cell?_of_block (h.block _ hp hn)

theorem ret_boolE {a b : Bool} (h : a = b) : Ending.returned (.bool a) = .returned (.bool b) := by rw [h]
theorem ret_int {k : IntKind} {a b : Int} (h : a = b) : Ending.returned (.int k a) = .returned (.int k b) := by rw [h]

/-! ### A block that is known whole -/
def Blk (w : World) (g : Nat) (t : TypeId) (cs : Array Value) : Prop := w.heap[g]? = some (.cells cs t (0, 0))
theorem Blk.lt {w : World} {g : Nat} {t : TypeId} {cs : Array Value} (h : Blk w g t cs) : g < w.heap.size := (Array.getElem?_eq_some_iff.1 h).1
theorem Blk.cell {w : World} {g : Nat} {t : TypeId} {cs : Array Value} (h : Blk w g t cs) (i : Nat) : w.cell? ⟨g, i, none⟩ = cs[i]? := cell_of_row w g i cs t (0, 0) h
theorem Blk.frozen {w : World} {g : Nat} {t : TypeId} {cs : Array Value} (h : Blk w g t cs) (i : Nat) : w.frozen? ⟨g, i, none⟩ = false := by
  unfold Blk at h; simp [World.frozen?, h]
theorem Blk.new (w : World) (t : TypeId) (cs : Array Value) : Blk (w.alloc (.cells cs t)) w.heap.size t cs := heap_alloc_new w _
theorem Blk.fr {S : Nat → Prop} {w w' : World} {g : Nat} {t : TypeId} {cs : Array Value} (h : Blk w g t cs) (hf : Fr S w w') (hn : ¬ S g) : Blk w' g t cs := (hf.block g h.lt hn).trans h
theorem Blk.set {w : World} {g : Nat} {t : TypeId} {cs : Array Value} (h : Blk w g t cs) (i : Nat) (u : Value) : Blk (w.setCell ⟨g, i, none⟩ u) g t (cs.setIfInBounds i u) := by
  unfold Blk at h ⊢; simp [World.setCell, Array.getElem?_modify, h]
theorem Blk.drew {w : World} {g : Nat} {t : TypeId} {cs : Array Value} (h : Blk w g t cs) : Blk w.drew g t cs := h
theorem cell_new1 (w : World) (v : Value) (t : TypeId) : (w.alloc (.cells #[v] t)).cell? ⟨w.heap.size, 0, none⟩ = some v := (Blk.new w t #[v]).cell 0

/-! ### Bytes -/
def bv (b : UInt8) : Value := .int .u8 b.toNat
theorem bv_one (l : List UInt8) : ∀ u ∈ l.map bv, u.oneCell' = true := by
  intro u hu; obtain ⟨b, _, rfl⟩ := List.mem_map.1 hu; rfl
theorem info_u8 : (Tryz.prog.info? 5).map (fun i => (i.zero, i.size, i.bytes)) = some (some (.int .u8 0), 1, 1) := by kernel_rfl

theorem add_block (a : Addr) (n : Nat) : (a.add n).block = a.block := by unfold Addr.add; split <;> rfl
theorem add_add (a : Addr) (i j : Nat) : (a.add i).add j = a.add (i + j) := by
  unfold Addr.add
  by_cases hi : i = 0 <;> by_cases hj : j = 0 <;> simp [hi, hj, Nat.add_assoc]

/-- the slice v reads as the bytes l -/
def Bs (w : World) (v : Value) (l : List UInt8) : Prop :=
  ∃ A c, v = .slice A l.length c ∧ l.length ≤ c ∧ (A = none → c = 0) ∧ ∀ a, A = some a → ∀ j (h : j < l.length), w.cell? (a.add j) = some (bv l[j])

theorem Bs.nil_ (w : World) : Bs w (.slice none 0 0) [] := ⟨none, 0, rfl, Nat.le_refl _, fun _ => rfl, fun _ h => by cases h⟩
theorem Bs.keep {w w' : World} {v : Value} {l : List UInt8} (h : Bs w v l) (hk : ∀ k, v.ownBlock = some k → k < w.heap.size → w'.heap[k]? = w.heap[k]?) : Bs w' v l := by
  obtain ⟨A, c, rfl, h1, h2, h3⟩ := h
  refine ⟨A, c, rfl, h1, h2, fun a ha j hj => ?_⟩
  have := h3 a ha j hj
  subst ha
  have hb := World.block_lt_of_cell? w _ this
  rw [add_block] at hb
  rw [← this]
  exact World.cell?_of_block (by rw [add_block]; exact hk _ rfl hb)
theorem Bs.fr {S : Nat → Prop} {w w' : World} {v : Value} {l : List UInt8} (h : Bs w v l) (hf : Fr S w w') (hn : ∀ k, v.ownBlock = some k → ¬ S k) : Bs w' v l :=
  h.keep fun k hk hlt => hf.block k hlt (hn k hk)
theorem Bs.non {w w' : World} {v : Value} {l : List UInt8} (h : Bs w v l) (hf : Fr Non w w') : Bs w' v l := h.fr hf fun _ _ e => e
theorem Bs.drew {w : World} {v : Value} {l : List UInt8} (h : Bs w v l) : Bs w.drew v l := h
theorem Bs.shape {w : World} {v : Value} {l : List UInt8} (h : Bs w v l) : ∃ A c, v = .slice A l.length c := by
  obtain ⟨A, c, rfl, _⟩ := h; exact ⟨A, c, rfl⟩

theorem run_conv_Bs {P : Program} {w : World} {v : Value} {l : List UInt8} (h : Bs w v l) (src dst e : TypeId) (hs : P.underlying src = some (.slice e)) (he : P.underlying e = some (.int .u8)) (hd : P.underlying dst = some .string) :
    (convert src dst v).run P w = .ok (.string ⟨l.toArray⟩) w := by
  obtain ⟨A, c, rfl, hlc, hn, hc⟩ := h
  cases A with
  | none =>
    have := hn rfl
    have hl : l = [] := List.eq_nil_of_length_eq_zero (by omega)
    subst hl
    rw [run_convert_bytes_nil w src e hs he _ _ dst hd]; rfl
  | some a => exact run_convert_bytes_back w src dst e a c l hs he hd (hc a rfl)

/-- bytes that the call owns: a row of its own, from block B on -/
def Own (w : World) (B : Nat) (v : Value) (l : List UInt8) : Prop := w.ownsRow B 5 1 v l.length (l.map bv)
theorem own_nil (w : World) (B : Nat) : Own w B (.slice none 0 0) [] := ⟨by simp, .inl ⟨rfl, rfl⟩⟩
theorem Own.lt {w : World} {B : Nat} {v : Value} {l : List UInt8} (h : Own w B v l) : ∀ k, v.ownBlock = some k → B ≤ k ∧ k < w.heap.size := World.ownsRow.lt h
theorem Own.bs {w : World} {B : Nat} {v : Value} {l : List UInt8} (h : Own w B v l) : Bs w v l := by
  rcases h.2 with ⟨rfl, h0⟩ | ⟨g, cap, cur, rfl, _, _, hle, _, _, _⟩
  · have hl : l = [] := List.eq_nil_of_length_eq_zero h0
    subst hl; exact Bs.nil_ w
  · refine ⟨_, cap, rfl, hle, (fun h => by cases h), fun a ha j hj => ?_⟩
    cases ha
    exact World.ownsRow.cells h (g := g) rfl j _ (by simp [hj])
theorem Own.keep {w w' : World} {B : Nat} {v : Value} {l : List UInt8} (h : Own w B v l) (hk : ∀ k, v.ownBlock = some k → w'.heap[k]? = w.heap[k]?) : Own w' B v l := by
  refine ⟨h.1, ?_⟩
  rcases h.2 with h2 | ⟨g, cap, cur, hv, hb, hg, r⟩
  · exact .inl h2
  · exact .inr ⟨g, cap, cur, hv, hb, by rw [hk g (by rw [hv]; rfl)]; exact hg, r⟩
theorem Own.fr {S : Nat → Prop} {w w' : World} {B : Nat} {v : Value} {l : List UInt8} (h : Own w B v l) (hf : Fr S w w') (hn : ∀ k, v.ownBlock = some k → ¬ S k) : Own w' B v l :=
  h.keep fun k hk => hf.block k (h.lt k hk).2 (hn k hk)
theorem Own.non {w w' : World} {B : Nat} {v : Value} {l : List UInt8} (h : Own w B v l) (hf : Fr Non w w') : Own w' B v l := h.fr hf fun _ _ e => e
theorem Own.alloc {w : World} {B : Nat} {v : Value} {l : List UInt8} (h : Own w B v l) (o : Obj) : Own (w.alloc o) B v l := h.non ((Fr.refl _ _).alloc o)
theorem Own.mono {w : World} {B B' : Nat} {v : Value} {l : List UInt8} (h : Own w B v l) (hB : B' ≤ B) : Own w B' v l := by
  refine ⟨h.1, ?_⟩
  rcases h.2 with h2 | ⟨g, cap, cur, hv, hb, r⟩
  · exact .inl h2
  · exact .inr ⟨g, cap, cur, hv, by omega, r⟩

theorem Own.row {w : World} {B : Nat} {v : Value} {l : List UInt8} (h : Own w B v l) (hn : l ≠ []) : ∃ g cap, v = .slice (some ⟨g, 0, none⟩) l.length cap ∧ B ≤ g ∧ g < w.heap.size ∧ l.length ≤ cap ∧ cap ≤ maxLen := by
  rcases h.2 with ⟨rfl, h0⟩ | ⟨g, cap, cur, rfl, hb, hg, hle, hm, _⟩
  · exact absurd (List.eq_nil_of_length_eq_zero h0) hn
  · exact ⟨g, cap, rfl, hb, (Array.getElem?_eq_some_iff.1 hg).1, hle, hm⟩
theorem Own.store {w : World} {B g n cap : Nat} {l : List UInt8} (h : Own w B (.slice (some ⟨g, 0, none⟩) n cap) l) (hn : n = l.length) (j : Nat) (b : UInt8) : Own (w.setCell ⟨g, j, none⟩ (bv b)) B (.slice (some ⟨g, 0, none⟩) n cap) (l.set j b) := by
  subst hn
  have := (World.ownsRow.stored h j (bv b)).1
  unfold Own
  rw [List.length_set, List.map_set]
  exact this
theorem Own.cell {w : World} {B g n cap : Nat} {l : List UInt8} (h : Own w B (.slice (some ⟨g, 0, none⟩) n cap) l) (hn : n = l.length) (j : Nat) (b : UInt8) (hb : l[j]? = some b) : w.cell? ⟨g, j, none⟩ = some (.int .u8 b.toNat) := by
  subst hn
  have hj : j < l.length := (List.getElem?_eq_some_iff.1 hb).1
  rw [World.ownsRow.cellAt h j (by omega), List.getElem?_map, hb]; rfl
theorem Own.frozen {w : World} {B g n cap : Nat} {l : List UInt8} (h : Own w B (.slice (some ⟨g, 0, none⟩) n cap) l) (hn : n = l.length) (j : Nat) : w.frozen? ⟨g, j, none⟩ = false := by
  subst hn; exact World.ownsRow.frozenAt h j
theorem own_lit0 (w : World) (B g : Nat) (hg : g = w.heap.size) (hB : B ≤ g) : Own (w.alloc (.cells #[] 5)) B (.slice (some ⟨g, 0, none⟩) 0 0) [] := by
  subst hg
  exact World.ownsRow_lit w #[] 0 hB (by unfold maxLen; omega) rfl
theorem Own.drew {w : World} {B : Nat} {v : Value} {l : List UInt8} (h : Own w B v l) : Own w.drew B v l := h

/-- append of bytes onto bytes of the call's own, out of a slice -/
theorem wp_app {w : World} {o : Oper} {a : Act} {K : Act → World → Prop} {Q : Exit → Act → World → Prop} (s x : Operand)
    (ho : o.op = .call { callee := .builtin .append, args := #[s, x], argTypes := #[26, 26] })
    (B : Nat) (v y : Value) (l m : List UInt8) (hs : a.eval s = v) (hown : Own w B v l) (hx : a.eval x = y) (hy : Bs w y m)
    (hl : l.length + m.length < 140737488355328) (hB : B ≤ w.heap.size)
    (h : ∀ v' w', Own w' B v' (l ++ m) → Fr (fun k => v.ownBlock = some k) w w' → K (a.put o.dst v') w') : o.wp Tryz.prog a w K Q := by
  obtain ⟨i, hi, hz0, hz1, hz2⟩ := info_parts info_u8
  obtain ⟨A, c, rfl, hmc, hn, hcells⟩ := hy
  cases A with
  | some ad =>
    refine wp_append_own w s x 26 ho B 5 i _ 1 1 Tryz.underlying26 hi hz0 hz1 hz2 rfl (by omega) v l.length (l.map bv) hs hown ad m.length c (m.map bv) hx (by simp) ?_ (bv_one m) (by unfold maxLen; omega) (by omega) hB ?_
    · intro j u hu
      have hj : j < m.length := by simpa using (List.getElem?_eq_some_iff.1 hu).1
      rw [hcells ad rfl j hj]
      simpa [hj] using hu
    · intro v' w' h1 h2 _
      refine h v' w' ?_ (Fr.of_grown h2)
      unfold Own; simpa using h1
  | none =>
    have hm : m = [] := List.eq_nil_of_length_eq_zero (by have := hn rfl; omega)
    subst hm
    have hc : c = 0 := hn rfl
    subst hc
    have hrun := run_append_owned_none (P := Tryz.prog) (w := w) B 26 o.type 5 i 1 Tryz.underlying26 hi v l.length (l.map bv) hown
    unfold Oper.wp
    have hx' : a.eval x = .slice none 0 0 := hx
    simp [execOp, ho, resolve, invoke, builtin, hs, hx', hrun, Result.andThen]
    exact h v w (by simpa using hown) (Fr.refl _ _)

theorem wpList_app {w : World} {ops : Array Oper} {rest : List Oper} {o : Oper} {a : Act} {Q : Exit → Act → World → Prop} (hgd : o.guard = none) (s x : Operand)
    (ho : o.op = .call { callee := .builtin .append, args := #[s, x], argTypes := #[26, 26] })
    (B : Nat) (v y : Value) (l m : List UInt8) (hs : a.eval s = v) (hown : Own w B v l) (hx : a.eval x = y) (hy : Bs w y m)
    (hl : l.length + m.length < 140737488355328) (hB : B ≤ w.heap.size)
    (h : ∀ v' w', Own w' B v' (l ++ m) → Fr (fun k => v.ownBlock = some k) w w' → wpList Tryz.prog ops Q rest (a.put o.dst v') w') : wpList Tryz.prog ops Q (o :: rest) a w :=
  wpList_plain hgd fun _ hK => wp_app s x ho B v y l m hs hown hx hy hl hB fun v' w' h1 h2 => hK _ _ (h v' w' h1 h2)

/-- append of one byte, which was stored in a new block first -/
theorem wpList_push {w0 : World} {ops : Array Oper} {rest : List Oper} {o : Oper} {a : Act} {Q : Exit → Act → World → Prop} (hgd : o.guard = none) (s x : Operand)
    (ho : o.op = .call { callee := .builtin .append, args := #[s, x], argTypes := #[26, 26] })
    (B : Nat) (v : Value) (l : List UInt8) (hs : a.eval s = v) (hown : Own w0 B v l) (z : Int) (b : UInt8) (hz : z = b.toNat) (hx : a.eval x = .slice (some ⟨w0.heap.size, 0, none⟩) 1 1)
    (hl : l.length < 140737488355327) (hB : B ≤ w0.heap.size)
    (h : ∀ v' w', Own w' B v' (l ++ [b]) → Fr (fun k => v.ownBlock = some k) w0 w' → wpList Tryz.prog ops Q rest (a.put o.dst v') w') :
    wpList Tryz.prog ops Q (o :: rest) a (w0.alloc (.cells #[.int .u8 z] 5)) := by
  subst hz
  refine wpList_app hgd s x ho B v _ l [b] hs (hown.alloc _) hx ⟨_, 1, rfl, Nat.le_refl _, (fun h => by cases h), fun a ha j hj => ?_⟩ (by simp; omega) (by simp; omega) ?_
  · cases ha
    obtain rfl : j = 0 := by simpa using hj
    exact cell_new1 _ _ _
  · intro v' w' h1 h2
    refine h v' w' h1 (((Fr.refl _ _).alloc _).join h2 fun k hk e => e)

/-- append of a text's bytes -/
theorem wpList_appstr {w : World} {ops : Array Oper} {rest : List Oper} {o : Oper} {a : Act} {Q : Exit → Act → World → Prop} (hgd : o.guard = none) (s x : Operand)
    (ho : o.op = .call { callee := .builtin .append, args := #[s, x], argTypes := #[26, 9] })
    (B : Nat) (v : Value) (l m : List UInt8) (hs : a.eval s = v) (hown : Own w B v l) (hx : a.eval x = .string ⟨m.toArray⟩)
    (hl : l.length + m.length < 140737488355328) (hB : B ≤ w.heap.size)
    (h : ∀ v' w', Own w' B v' (l ++ m) → Fr (fun k => v.ownBlock = some k) w w' → wpList Tryz.prog ops Q rest (a.put o.dst v') w') : wpList Tryz.prog ops Q (o :: rest) a w := by
  obtain ⟨i, hi, hz0, hz1, hz2⟩ := info_parts info_u8
  have hm : ByteArray.size ⟨m.toArray⟩ = m.length := by simp [ByteArray.size]
  obtain ⟨v', w', hrun, h1, h2, _⟩ := Lib.run_append_own_string (P := Tryz.prog) w B 26 9 o.type 5 i Tryz.underlying26 Tryz.underlying9 hi hz0 hz1 hz2 v l.length (l.map bv) hown ⟨m.toArray⟩
    (by rw [hm]; unfold maxLen; omega) (by rw [hm]; omega) hB
  refine wpList_plain hgd fun K hK => ?_
  unfold Oper.wp
  simp [execOp, ho, resolve, invoke, builtin, hs, hx, hrun, Result.andThen]
  refine hK _ _ (h v' w' ?_ (Fr.of_grown h2))
  unfold Own
  rw [hm] at h1
  have e : (fun b : UInt8 => Value.int .u8 b.toNat) = bv := rfl
  simpa [Lib.strCells, e] using h1

/-- '[]byte(s)': new bytes -/
theorem wpList_strbytes {w : World} {ops : Array Oper} {rest : List Oper} {o : Oper} {a : Act} {Q : Exit → Act → World → Prop} (hgd : o.guard = none) (x : Operand)
    (ho : o.op = .convert 9 26 x) (m : List UInt8) (hx : a.eval x = .string ⟨m.toArray⟩)
    (h : ∀ v' w', Bs w' v' m → Fr Non w w' → (∀ k, v'.ownBlock = some k → w.heap.size ≤ k) → wpList Tryz.prog ops Q rest (a.put o.dst v') w') : wpList Tryz.prog ops Q (o :: rest) a w := by
  have hm : ByteArray.size ⟨m.toArray⟩ = m.length := by simp [ByteArray.size]
  have hrun := run_bytes_of_string (P := Tryz.prog) w 9 26 5 ⟨m.toArray⟩ Tryz.underlying9 Tryz.underlying26 Tryz.underlying5
  refine wpList_plain hgd fun K hK => ?_
  unfold Oper.wp
  simp [execOp, ho, hx, hrun, Result.andThen]
  refine hK _ _ (h _ _ ?_ (((Fr.refl _ _).drew).alloc _) ?_)
  · rw [hm]
    refine ⟨_, _, rfl, grownCap_ge _ _ _ _, (fun h => by cases h), fun a ha j hj => ?_⟩
    cases ha
    have hA : (⟨w.heap.size, 0, none⟩ : Addr).add j = ⟨w.drew.heap.size, j, none⟩ := by rw [Addr.add_lit]; simp
    rw [hA, World.cell?_alloc_mark, bytesRow_at _ _ _ (by simpa using hj)]
    simp [bv]
  · intro k hk
    simp [Value.ownBlock] at hk
    omega

/-- 'make([]byte, 0, n)' -/
theorem wpList_mkbytes {w : World} {ops : Array Oper} {rest : List Oper} {o : Oper} {a : Act} {Q : Exit → Act → World → Prop} (hgd : o.guard = none) (x c : Operand)
    (ho : o.op = .makeSlice 26 x c) (kl kc : IntKind) (C : Int) (n : Nat) (hx : a.eval x = .int kl 0) (hc : a.eval c = .int kc C) (hC : C = (n : Int)) (hn : n ≤ 140737488355328)
    (h : ∀ v' w', Own w' w.heap.size v' [] → Fr Non w w' → wpList Tryz.prog ops Q rest (a.put o.dst v') w') : wpList Tryz.prog ops Q (o :: rest) a w := by
  obtain ⟨i, hi, hz0, hz1, hz2⟩ := info_parts info_u8
  refine wpList_make_own w hgd x c 26 ho w.heap.size 5 i _ 1 Tryz.underlying26 hi hz0 hz1 kl kc C n hx hc hC (by rw [hz2]; omega) (by unfold maxLen; omega) (Nat.le_refl _) ?_
  intro w' h1 h2
  exact h _ _ h1 ((Fr.of_grown h2).mono fun k _ e => by cases e)

/-- bytes laid in a new block -/
theorem bs_row (w : World) (l : List UInt8) : Bs (w.alloc (.cells (l.map bv).toArray 5)) (.slice (some ⟨w.heap.size, 0, none⟩) l.length l.length) l := by
  refine ⟨_, _, rfl, Nat.le_refl _, (fun h => by cases h), fun a ha j hj => ?_⟩
  cases ha
  rw [Addr.add_lit, Nat.zero_add, (Blk.new w 5 (l.map bv).toArray).cell j]
  simp [hj]

/-! ### A slice of slices of bytes -/
def Bss (w : World) (v : Value) (ls : List (List UInt8)) : Prop :=
  ∃ A c, v = .slice A ls.length c ∧ ls.length ≤ c ∧ (A = none → c = 0) ∧ ∀ a, A = some a → ∀ j (h : j < ls.length), ∃ u, w.cell? (a.add j) = some u ∧ Bs w u ls[j]
theorem Bss.non {w w' : World} {v : Value} {ls : List (List UInt8)} (h : Bss w v ls) (hf : Fr Non w w') : Bss w' v ls := by
  obtain ⟨A, c, rfl, h1, h2, h3⟩ := h
  refine ⟨A, c, rfl, h1, h2, fun a ha j hj => ?_⟩
  obtain ⟨u, hu, hb⟩ := h3 a ha j hj
  exact ⟨u, by rw [← hu]; exact hf.cell (World.block_lt_of_cell? w _ hu) (fun e => e), hb.non hf⟩
/-- one slice laid in a new block -/
theorem bss_one (w : World) (v : Value) (l : List UInt8) (t : TypeId) (h : Bs w v l) : Bss (w.alloc (.cells #[v] t)) (.slice (some ⟨w.heap.size, 0, none⟩) 1 1) [l] := by
  refine ⟨_, _, rfl, Nat.le_refl _, (fun h => by cases h), fun a ha j hj => ?_⟩
  cases ha
  obtain rfl : j = 0 := by simpa using hj
  exact ⟨v, cell_new1 w v t, h.non ((Fr.refl _ _).alloc _)⟩

/-! ### Pieces of a slice of bytes -/
theorem sz_u8 (w : World) : (sizeOf (Tryz.prog.elem 26)).run Tryz.prog w = .ok 1 w := by kernel_rfl
set_option maxRecDepth 100000 in
theorem slice_lo (A : Option Addr) (n c k : Nat) (kl : IntKind) (z : Int) (hz : z = (k : Int)) (hk : k ≤ n) (hn : n ≤ c) :
    ∃ A' c', (∀ W, (Instr.slice 26 (.slice A n c) (some (.int kl z)) none none).run Tryz.prog W = .ok (.slice A' (n - k) c') W) ∧
      (∀ W l, l.length = n → Bs W (.slice A n c) l → Bs W (.slice A' (n - k) c') (l.drop k)) ∧ (Value.slice A' (n - k) c').ownBlock = (Value.slice A n c).ownBlock := by
  subst hz
  refine ⟨if c = k then A else A.map (·.add k), c - k, fun W => ?_, ?_, ?_⟩
  · rw [run_slice_any W 26 A n c Tryz.underlying26]
    have hb : (Instr.sliceBounds true n c (some (.int kl (k : Int))) none none).run Tryz.prog W = .ok (k, n, c) W := by
      simp [Instr.sliceBounds, run_sliceBound, hk, hn]
    rw [hb]
    simp only [Result.andThen_ok, sz_u8]
    simp [sliced]
  · rintro W l hl ⟨A0, c0, he, h1, h2, h3⟩
    simp only [Value.slice.injEq] at he
    obtain ⟨rfl, hl', rfl⟩ := he
    refine ⟨if c = k then A else A.map (·.add k), c - k, by rw [List.length_drop, hl], by rw [List.length_drop]; omega, fun e => ?_, fun a ha j hj => ?_⟩
    · split at e
      · have := h2 e; omega
      · have := h2 (by simpa using e); omega
    · rw [List.length_drop] at hj
      rw [if_neg (by omega)] at ha
      cases A with
      | none => cases ha
      | some b =>
        obtain rfl : b.add k = a := by simpa using ha
        rw [add_add, h3 b rfl (k + j) (by omega)]
        simp
  · split
    · cases A <;> rfl
    · cases A <;> simp [Value.ownBlock, add_block]

set_option maxRecDepth 100000 in
theorem slice_hi (A : Option Addr) (n c k : Nat) (kl : IntKind) (z : Int) (hz : z = (k : Int)) (hk : k ≤ n) (hn : n ≤ c) :
    ∃ A' c', (∀ W, (Instr.slice 26 (.slice A n c) none (some (.int kl z)) none).run Tryz.prog W = .ok (.slice A' k c') W) ∧
      (∀ W l, l.length = n → Bs W (.slice A n c) l → Bs W (.slice A' k c') (l.take k)) ∧ (Value.slice A' k c').ownBlock = (Value.slice A n c).ownBlock := by
  subst hz
  refine ⟨if c = 0 then A else A.map (·.add 0), c, fun W => ?_, ?_, ?_⟩
  · rw [run_slice_any W 26 A n c Tryz.underlying26]
    have hb : (Instr.sliceBounds true n c none (some (.int kl (k : Int))) none).run Tryz.prog W = .ok (0, k, c) W := by
      simp [Instr.sliceBounds, run_sliceBound, show (k : Int) ≤ c by omega]
    rw [hb]
    simp only [Result.andThen_ok, sz_u8]
    simp [sliced]
  · rintro W l hl ⟨A0, c0, he, h1, h2, h3⟩
    simp only [Value.slice.injEq] at he
    obtain ⟨rfl, hl', rfl⟩ := he
    refine ⟨if c = 0 then A else A.map (·.add 0), c, by rw [List.length_take, hl, Nat.min_eq_left hk], by rw [List.length_take]; omega, fun e => ?_, fun a ha j hj => ?_⟩
    · split at e
      · have := h2 e; omega
      · have := h2 (by simpa using e); omega
    · rw [List.length_take] at hj
      rw [if_neg (by omega)] at ha
      cases A with
      | none => cases ha
      | some b =>
        obtain rfl : b.add 0 = a := by simpa using ha
        rw [add_add, h3 b rfl (0 + j) (by omega)]
        simp
  · split
    · cases A <;> rfl
    · cases A <;> simp [Value.ownBlock, add_block]

end Go.Proofs.YtheefloegbkflaaGreatDoor


namespace Go.Proofs.YtheefloegbkflaaGreatDoor
set_option linter.unusedVariables false
set_option linter.unusedSimpArgs false
set_option maxRecDepth 100000
open Go.RowKit

/-- append of one value of one cell, which was stored in a new block first -/
theorem run_pushv (T E ty : TypeId) (z : Value) (by_ : Nat) (hT : Tryz.prog.underlying T = some (.slice E)) (hinfo : (Tryz.prog.info? E).map (fun i => (i.zero, i.size, i.bytes)) = some (some z, 1, by_)) (hz : z.cells.size = 1)
    (w0 : World) (B : Nat) (v u : Value) (xs : List Value) (hown : w0.ownsRow B E 1 v xs.length xs) (h1 : u.oneCell' = true) (hl : (xs.length + 1) * by_ ≤ 140737488355328) (hm : xs.length + 1 ≤ maxLen) (hB : B ≤ w0.heap.size) (g : Nat) (hg : g = w0.heap.size) :
    ∃ v' w', (Builtin.append_ #[T, T] ty #[v, .slice (some ⟨g, 0, none⟩) 1 1]).run Tryz.prog (w0.alloc (.cells #[u] E)) = .ok v' w' ∧ w'.ownsRow B E 1 v' (xs ++ [u]).length (xs ++ [u]) ∧ Fr (fun k => v.ownBlock = some k) w0 w' := by
  subst hg
  obtain ⟨i, hi, hz0, hz1, hz2⟩ := info_parts hinfo
  have ho : (w0.alloc (.cells #[u] E)).ownsRow B E 1 v xs.length xs := by
    refine ⟨hown.1, ?_⟩
    rcases hown.2 with h2 | ⟨g, cap, cur, hv, hb, hg, r⟩
    · exact .inl h2
    · exact .inr ⟨g, cap, cur, hv, hb, by rw [Below.heap_alloc _ _ _ (Array.getElem?_eq_some_iff.1 hg).1]; exact hg, r⟩
  obtain ⟨v', w', hr, h2, h3, h4⟩ := run_append_own (P := Tryz.prog) (w0.alloc (.cells #[u] E)) B T ty E i z 1 by_ hT hi hz0 hz1 hz2 hz (by omega) v xs.length xs ho ⟨w0.heap.size, 0, none⟩ 1 1 [u] rfl
    (fun j x hj => by
      cases j with
      | zero =>
        obtain rfl : u = x := by simpa using hj
        exact cell_new1 _ _ _
      | succ j => simp at hj)
    (fun x hx => by obtain rfl : x = u := by simpa using hx
                    exact h1) hm hl (by simp; omega)
  refine ⟨v', w', hr, by simpa using h2, ?_⟩
  exact ((Fr.refl _ _).alloc _).join (Fr.of_grown h3) fun k hk e => e.symm ▸ rfl

/-- a slice of slices of bytes that the call owns, row and all -/
def Owns (w : World) (B : Nat) (v : Value) (ls : List (List UInt8)) : Prop :=
  ∃ vs : List Value, w.ownsRow B 26 1 v vs.length vs ∧ vs.length = ls.length ∧ ∀ (i : Nat) (u : Value) (l : List UInt8), vs[i]? = some u → ls[i]? = some l → Own w B u l

theorem Own.kind {w : World} {B : Nat} {u : Value} {l : List UInt8} (h : Own w B u l) : ∀ k, u.ownBlock = some k → ∃ cur, w.heap[k]? = some (.cells cur 5 (0, 0)) := by
  intro k hk
  rcases h.2 with ⟨rfl, _⟩ | ⟨g, cap, cur, rfl, _, hg, _⟩
  · cases hk
  · obtain rfl : g = k := by simpa [Value.ownBlock] using hk
    exact ⟨cur, hg⟩
theorem row_kind {w : World} {B : Nat} {E : TypeId} {n : Nat} {v : Value} {xs : List Value} (h : w.ownsRow B E 1 v n xs) : ∀ k, v.ownBlock = some k → ∃ cur, w.heap[k]? = some (.cells cur E (0, 0)) := by
  intro k hk
  rcases h.2 with ⟨rfl, _⟩ | ⟨g, cap, cur, rfl, _, hg, _⟩
  · cases hk
  · obtain rfl : g = k := by simpa [Value.ownBlock] using hk
    exact ⟨cur, hg⟩
theorem row_keep {w w' : World} {B : Nat} {E : TypeId} {n : Nat} {v : Value} {xs : List Value} (h : w.ownsRow B E 1 v n xs) (hk : ∀ k, v.ownBlock = some k → w'.heap[k]? = w.heap[k]?) : w'.ownsRow B E 1 v n xs := by
  refine ⟨h.1, ?_⟩
  rcases h.2 with h2 | ⟨g, cap, cur, hv, hb, hg, r⟩
  · exact .inl h2
  · exact .inr ⟨g, cap, cur, hv, hb, by rw [hk g (by rw [hv]; rfl)]; exact hg, r⟩
theorem row_lt {w : World} {B : Nat} {E : TypeId} {n : Nat} {v : Value} {xs : List Value} (h : w.ownsRow B E 1 v n xs) : ∀ k, v.ownBlock = some k → B ≤ k ∧ k < w.heap.size := World.ownsRow.lt h
theorem row_mono {w : World} {B B' : Nat} {E : TypeId} {n : Nat} {v : Value} {xs : List Value} (h : w.ownsRow B E 1 v n xs) (hB : B' ≤ B) : w.ownsRow B' E 1 v n xs := by
  refine ⟨h.1, ?_⟩
  rcases h.2 with h2 | ⟨g, cap, cur, hv, hb, r⟩
  · exact .inl h2
  · exact .inr ⟨g, cap, cur, hv, by omega, r⟩

theorem Owns.lt {w : World} {B : Nat} {v : Value} {ls : List (List UInt8)} (h : Owns w B v ls) : ∀ k, v.ownBlock = some k → B ≤ k ∧ k < w.heap.size := by
  obtain ⟨vs, h1, _⟩ := h; exact row_lt h1
/-- it stays where the blocks that turn are no rows of slices and no bytes -/
theorem Owns.keep {w w' : World} {B : Nat} {v : Value} {ls : List (List UInt8)} (h : Owns w B v ls)
    (hk : ∀ k cur, (w.heap[k]? = some (.cells cur 26 (0, 0)) ∨ w.heap[k]? = some (.cells cur 5 (0, 0))) → B ≤ k → w'.heap[k]? = w.heap[k]?) : Owns w' B v ls := by
  obtain ⟨vs, h1, h2, h3⟩ := h
  refine ⟨vs, row_keep h1 fun k e => ?_, h2, fun i u l hu hl => (h3 i u l hu hl).keep fun k e => ?_⟩
  · obtain ⟨cur, hc⟩ := row_kind h1 k e
    exact hk k cur (.inl hc) (row_lt h1 k e).1
  · obtain ⟨cur, hc⟩ := (h3 i u l hu hl).kind k e
    exact hk k cur (.inr hc) ((h3 i u l hu hl).lt k e).1
theorem Owns.fr {S : Nat → Prop} {w w' : World} {B : Nat} {v : Value} {ls : List (List UInt8)} (h : Owns w B v ls) (hf : Fr S w w')
    (hS : ∀ k cur, S k → w.heap[k]? ≠ some (.cells cur 26 (0, 0)) ∧ w.heap[k]? ≠ some (.cells cur 5 (0, 0))) : Owns w' B v ls :=
  h.keep fun k cur hc _ => hf.block k (by rcases hc with e | e <;> exact (Array.getElem?_eq_some_iff.1 e).1) fun e => by
    rcases hc with h1 | h1
    · exact (hS k cur e).1 h1
    · exact (hS k cur e).2 h1
theorem Owns.non {w w' : World} {B : Nat} {v : Value} {ls : List (List UInt8)} (h : Owns w B v ls) (hf : Fr Non w w') : Owns w' B v ls := h.fr hf fun k cur e => e.elim
theorem Owns.mono {w : World} {B B' : Nat} {v : Value} {ls : List (List UInt8)} (h : Owns w B v ls) (hB : B' ≤ B) : Owns w B' v ls := by
  obtain ⟨vs, h1, h2, h3⟩ := h
  exact ⟨vs, row_mono h1 hB, h2, fun i u l hu hl => (h3 i u l hu hl).mono hB⟩
theorem Owns.bss {w : World} {B : Nat} {v : Value} {ls : List (List UInt8)} (h : Owns w B v ls) : Bss w v ls := by
  obtain ⟨vs, h1, h2, h3⟩ := h
  rcases h1.2 with ⟨rfl, h0⟩ | ⟨g, cap, cur, rfl, _, _, hle, _, _, _⟩
  · have hl : ls = [] := List.eq_nil_of_length_eq_zero (by omega)
    subst hl
    exact ⟨none, 0, rfl, Nat.le_refl _, fun _ => rfl, fun _ h => by cases h⟩
  · refine ⟨_, cap, by rw [h2], by omega, (fun h => by cases h), fun a ha j hj => ?_⟩
    cases ha
    have hj' : j < vs.length := by omega
    exact ⟨vs[j], World.ownsRow.cells h1 (g := g) rfl j _ (by simp [hj']), (h3 j vs[j] ls[j] (by simp [hj']) (by simp [hj])).bs⟩
theorem Owns.shape {w : World} {B : Nat} {v : Value} {ls : List (List UInt8)} (h : Owns w B v ls) : ∃ A c, v = .slice A ls.length c := by
  obtain ⟨A, c, rfl, _⟩ := h.bss; exact ⟨A, c, rfl⟩
/-! ### Whole numbers in a row of the call's own -/
def iv (n : Int) : Value := .int .i64 n
def OwnI (w : World) (B : Nat) (v : Value) (l : List Int) : Prop := w.ownsRow B 3 1 v (l.map iv).length (l.map iv)
theorem OwnI.non {w w' : World} {B : Nat} {v : Value} {l : List Int} (h : OwnI w B v l) (hf : Fr Non w w') : OwnI w' B v l := row_keep h fun k hk => hf.block k (row_lt h k hk).2 fun e => e
theorem OwnI.fr {S : Nat → Prop} {w w' : World} {B : Nat} {v : Value} {l : List Int} (h : OwnI w B v l) (hf : Fr S w w') (hn : ∀ k, v.ownBlock = some k → ¬ S k) : OwnI w' B v l := row_keep h fun k hk => hf.block k (row_lt h k hk).2 (hn k hk)
theorem OwnI.cell {w : World} {B : Nat} {v : Value} {l : List Int} (h : OwnI w B v l) {g n c : Nat} (hv : v = .slice (some ⟨g, 0, none⟩) n c) (j : Nat) (hj : j < l.length) : w.cell? ⟨g, j, none⟩ = some (.int .i64 l[j]) := by
  subst hv
  have := World.ownsRow.cells h (g := g) rfl j (iv l[j]) (by simp [hj])
  rwa [Addr.add_lit, Nat.zero_add] at this
end Go.Proofs.YtheefloegbkflaaGreatDoor


namespace Go.Proofs.YtheefloegbkflaaGreatDoor
set_option linter.unusedVariables false
set_option linter.unusedSimpArgs false
set_option maxRecDepth 100000
open Go.RowKit

/-- the slice v reads as the list l, each element's cell being f of it -/
def Vs {α : Type} (f : α → Value) (w : World) (v : Value) (l : List α) : Prop :=
  ∃ A c, v = .slice A l.length c ∧ l.length ≤ c ∧ (A = none → c = 0) ∧ ∀ a, A = some a → ∀ j (h : j < l.length), w.cell? (a.add j) = some (f l[j])
/-- a row of the call's own, from block B on, of elements of type E -/
def Ow {α : Type} (f : α → Value) (E : TypeId) (w : World) (B : Nat) (v : Value) (l : List α) : Prop := w.ownsRow B E 1 v l.length (l.map f)

/-- T: slices of E, whose elements have one cell -/
structure El (T E : TypeId) (z : Value) (by_ : Nat) : Prop where
  under : Tryz.prog.underlying T = some (.slice E)
  info : (Tryz.prog.info? E).map (fun i => (i.zero, i.size, i.bytes)) = some (some z, 1, by_)
  cells : z.cells = #[z]
  small : by_ ≤ 64
  elem : Tryz.prog.elem T = E
  sz : ∀ w, (sizeOf (Tryz.prog.elem T)).run Tryz.prog w = .ok 1 w

section
variable {α : Type} {f : α → Value}

theorem Vs.nil_ (w : World) : Vs f w (.slice none 0 0) [] := ⟨none, 0, rfl, Nat.le_refl _, fun _ => rfl, fun _ h => by cases h⟩
theorem Vs.keep {w w' : World} {v : Value} {l : List α} (h : Vs f w v l) (hk : ∀ k, v.ownBlock = some k → k < w.heap.size → w'.heap[k]? = w.heap[k]?) : Vs f w' v l := by
  obtain ⟨A, c, rfl, h1, h2, h3⟩ := h
  refine ⟨A, c, rfl, h1, h2, fun a ha j hj => ?_⟩
  have := h3 a ha j hj
  subst ha
  have hb := World.block_lt_of_cell? w _ this
  rw [add_block] at hb
  rw [← this]
  exact World.cell?_of_block (by rw [add_block]; exact hk _ rfl hb)
theorem Vs.fr {S : Nat → Prop} {w w' : World} {v : Value} {l : List α} (h : Vs f w v l) (hf : Fr S w w') (hn : ∀ k, v.ownBlock = some k → ¬ S k) : Vs f w' v l :=
  h.keep fun k hk hlt => hf.block k hlt (hn k hk)
theorem Vs.non {w w' : World} {v : Value} {l : List α} (h : Vs f w v l) (hf : Fr Non w w') : Vs f w' v l := h.fr hf fun _ _ e => e
theorem Vs.drew {w : World} {v : Value} {l : List α} (h : Vs f w v l) : Vs f w.drew v l := h
theorem Vs.drewN {w : World} {v : Value} {l : List α} (h : Vs f w v l) (n : Nat) : Vs f (w.drewN n) v l := h
theorem Vs.shape {w : World} {v : Value} {l : List α} (h : Vs f w v l) : ∃ A c, v = .slice A l.length c := by
  obtain ⟨A, c, rfl, _⟩ := h; exact ⟨A, c, rfl⟩
/-- its address, where it has an element -/
theorem Vs.addr {w : World} {A : Option Addr} {n c : Nat} {l : List α} (h : Vs f w (.slice A n c) l) (hl : 0 < n) : ∃ a, A = some a ∧ n = l.length ∧ n ≤ c ∧ ∀ j (h : j < l.length), w.cell? (a.add j) = some (f l[j]) := by
  obtain ⟨A0, c0, he, h1, h2, h3⟩ := h
  simp only [Value.slice.injEq] at he
  obtain ⟨rfl, rfl, rfl⟩ := he
  cases A with
  | none => have := h2 rfl; omega
  | some a => exact ⟨a, rfl, rfl, h1, h3 a rfl⟩
/-- elements laid in a new block -/
theorem vs_row (w : World) (l : List α) (E : TypeId) (fr : Nat × Nat) : Vs f (w.alloc (.cells (l.map f).toArray E fr)) (.slice (some ⟨w.heap.size, 0, none⟩) l.length l.length) l := by
  refine ⟨_, _, rfl, Nat.le_refl _, (fun h => by cases h), fun a ha j hj => ?_⟩
  cases ha
  rw [Addr.add_lit, Nat.zero_add, cell_of_row _ w.heap.size j _ _ fr (heap_alloc_new w _)]
  simp [hj]
theorem Vs.pre {w : World} {A : Option Addr} {n c k : Nat} {l : List α} (h : Vs f w (.slice A n c) l) (hk : k ≤ n) : Vs f w (.slice A k c) (l.take k) := by
  obtain ⟨A0, c0, he, h1, h2, h3⟩ := h
  simp only [Value.slice.injEq] at he
  obtain ⟨rfl, rfl, rfl⟩ := he
  have hl : (l.take k).length = k := by rw [List.length_take]; omega
  refine ⟨A, c, by rw [hl], by rw [hl]; omega, h2, fun a ha j hj => ?_⟩
  rw [h3 a ha j (by rw [hl] at hj; omega)]
  simp

variable {E : TypeId}
theorem ow_nil (w : World) (B : Nat) : Ow f E w B (.slice none 0 0) [] := ⟨by simp, .inl ⟨rfl, rfl⟩⟩
theorem Ow.lt {w : World} {B : Nat} {v : Value} {l : List α} (h : Ow f E w B v l) : ∀ k, v.ownBlock = some k → B ≤ k ∧ k < w.heap.size := World.ownsRow.lt h
theorem Ow.vs {w : World} {B : Nat} {v : Value} {l : List α} (h : Ow f E w B v l) : Vs f w v l := by
  rcases h.2 with ⟨rfl, h0⟩ | ⟨g, cap, cur, rfl, _, _, hle, _, _, _⟩
  · have hl : l = [] := List.eq_nil_of_length_eq_zero h0
    subst hl; exact Vs.nil_ w
  · refine ⟨_, cap, rfl, hle, (fun h => by cases h), fun a ha j hj => ?_⟩
    cases ha
    exact World.ownsRow.cells h (g := g) rfl j _ (by simp [hj])
theorem Ow.shape {w : World} {B : Nat} {v : Value} {l : List α} (h : Ow f E w B v l) : ∃ A c, v = .slice A l.length c := h.vs.shape
theorem Ow.keep {w w' : World} {B : Nat} {v : Value} {l : List α} (h : Ow f E w B v l) (hk : ∀ k, v.ownBlock = some k → w'.heap[k]? = w.heap[k]?) : Ow f E w' B v l := row_keep h hk
theorem Ow.fr {S : Nat → Prop} {w w' : World} {B : Nat} {v : Value} {l : List α} (h : Ow f E w B v l) (hf : Fr S w w') (hn : ∀ k, v.ownBlock = some k → ¬ S k) : Ow f E w' B v l :=
  h.keep fun k hk => hf.block k (h.lt k hk).2 (hn k hk)
theorem Ow.non {w w' : World} {B : Nat} {v : Value} {l : List α} (h : Ow f E w B v l) (hf : Fr Non w w') : Ow f E w' B v l := h.fr hf fun _ _ e => e
theorem Ow.alloc {w : World} {B : Nat} {v : Value} {l : List α} (h : Ow f E w B v l) (o : Obj) : Ow f E (w.alloc o) B v l := h.non ((Fr.refl _ _).alloc o)
theorem Ow.drew {w : World} {B : Nat} {v : Value} {l : List α} (h : Ow f E w B v l) : Ow f E w.drew B v l := h
theorem Ow.drewN {w : World} {B : Nat} {v : Value} {l : List α} (h : Ow f E w B v l) (n : Nat) : Ow f E (w.drewN n) B v l := h
theorem Ow.mono {w : World} {B B' : Nat} {v : Value} {l : List α} (h : Ow f E w B v l) (hB : B' ≤ B) : Ow f E w B' v l := row_mono h hB
theorem Ow.kind {w : World} {B : Nat} {v : Value} {l : List α} (h : Ow f E w B v l) : ∀ k, v.ownBlock = some k → ∃ cur, w.heap[k]? = some (.cells cur E (0, 0)) := row_kind h
/-- where it has an element, it stands at a row's head -/
theorem Ow.row {w : World} {B : Nat} {v : Value} {l : List α} (h : Ow f E w B v l) (hn : 0 < l.length) : ∃ g cap, v = .slice (some ⟨g, 0, none⟩) l.length cap ∧ B ≤ g ∧ g < w.heap.size ∧ l.length ≤ cap ∧ cap ≤ maxLen := by
  rcases h.2 with ⟨rfl, h0⟩ | ⟨g, cap, cur, rfl, hb, hg, hle, hm, _⟩
  · omega
  · exact ⟨g, cap, rfl, hb, (Array.getElem?_eq_some_iff.1 hg).1, hle, hm⟩
theorem Ow.cell {w : World} {B g n cap : Nat} {l : List α} (h : Ow f E w B (.slice (some ⟨g, 0, none⟩) n cap) l) (hn : n = l.length) (j : Nat) (x : α) (hb : l[j]? = some x) : w.cell? ⟨g, j, none⟩ = some (f x) := by
  subst hn
  have hj : j < l.length := (List.getElem?_eq_some_iff.1 hb).1
  rw [World.ownsRow.cellAt h j (by omega), List.getElem?_map, hb]; rfl
theorem Ow.frozen {w : World} {B g n cap : Nat} {l : List α} (h : Ow f E w B (.slice (some ⟨g, 0, none⟩) n cap) l) (hn : n = l.length) (j : Nat) : w.frozen? ⟨g, j, none⟩ = false := by
  subst hn; exact World.ownsRow.frozenAt h j
theorem Ow.store {w : World} {B g n cap : Nat} {l : List α} (h : Ow f E w B (.slice (some ⟨g, 0, none⟩) n cap) l) (hn : n = l.length) (j : Nat) (x : α) : Ow f E (w.setCell ⟨g, j, none⟩ (f x)) B (.slice (some ⟨g, 0, none⟩) n cap) (l.set j x) := by
  subst hn
  have := (World.ownsRow.stored h j (f x)).1
  unfold Ow
  rw [List.length_set, List.map_set]
  exact this
theorem ow_lit (w : World) (B g : Nat) (l : List α) (cs : Array Value) (hcs : cs.toList = l.map f) (hg : g = w.heap.size) (hB : B ≤ g) (hm : l.length ≤ maxLen) : Ow f E (w.alloc (.cells cs E)) B (.slice (some ⟨g, 0, none⟩) l.length l.length) l := by
  subst hg
  unfold Ow
  rw [← hcs]
  exact World.ownsRow_lit w cs l.length hB hm (by have := congrArg List.length hcs; simpa using this)
theorem ow_lit0 (w : World) (B g : Nat) (hg : g = w.heap.size) (hB : B ≤ g) : Ow f E (w.alloc (.cells #[] E)) B (.slice (some ⟨g, 0, none⟩) 0 0) [] :=
  ow_lit w B g [] #[] rfl hg hB (by unfold maxLen; simp)

/-! ### Steps -/
variable {T : TypeId} {z : Value} {by_ : Nat}
/-- append of one element, which was stored in a new block first -/
theorem wpList_pushG (hE : El T E z by_) (hf1 : ∀ x, (f x).oneCell' = true) {w0 : World} {ops : Array Oper} {rest : List Oper} {o : Oper} {a : Act} {Q : Exit → Act → World → Prop} (hgd : o.guard = none) (s x : Operand)
    (ho : o.op = .call { callee := .builtin .append, args := #[s, x], argTypes := #[T, T] })
    (B : Nat) (v : Value) (l : List α) (hs : a.eval s = v) (hown : Ow f E w0 B v l) (u : Value) (y : α) (hu : u = f y) (hx : a.eval x = .slice (some ⟨w0.heap.size, 0, none⟩) 1 1)
    (hl : l.length < 1099511627776) (hB : B ≤ w0.heap.size)
    (h : ∀ v' w', Ow f E w' B v' (l ++ [y]) → Fr (fun k => v.ownBlock = some k) w0 w' → wpList Tryz.prog ops Q rest (a.put o.dst v') w') :
    wpList Tryz.prog ops Q (o :: rest) a (w0.alloc (.cells #[u] E)) := by
  subst hu
  have hown' : w0.ownsRow B E 1 v (l.map f).length (l.map f) := by rw [List.length_map]; exact hown
  have hs' := hE.small
  have hbl : ((l.map f).length + 1) * by_ ≤ 140737488355328 := by
    rw [List.length_map]
    have := Nat.mul_le_mul (show l.length + 1 ≤ 1099511627776 by omega) hs'
    omega
  obtain ⟨v', w', hr, h1, h2⟩ := run_pushv T E o.type z by_ hE.under hE.info (by rw [hE.cells]; rfl) w0 B v (f y) (l.map f) hown' (hf1 y) hbl (by rw [List.length_map]; unfold maxLen; omega) hB w0.heap.size rfl
  refine wpList_plain hgd fun K hK => ?_
  unfold Oper.wp execOp
  simp only [ho, resolve, invoke, builtin, Sem.run_bind, Sem.run_pure, Result.andThen_ok, List.map_toArray, List.map_cons, List.map_nil, hs, hx, hr]
  refine hK _ _ (h v' w' ?_ h2)
  unfold Ow
  simpa [List.map_append] using h1

/-- 'make([]E, 0, n)' -/
theorem wpList_mkG (f : α → Value) (hE : El T E z by_) {w : World} {ops : Array Oper} {rest : List Oper} {o : Oper} {a : Act} {Q : Exit → Act → World → Prop} (hgd : o.guard = none) (x c : Operand)
    (ho : o.op = .makeSlice T x c) (kl kc : IntKind) (C : Int) (n : Nat) (hx : a.eval x = .int kl 0) (hc : a.eval c = .int kc C) (hC : C = (n : Int)) (hn : n ≤ 1099511627776)
    (h : ∀ v' w', Ow f E w' w.heap.size v' [] → Fr Non w w' → wpList Tryz.prog ops Q rest (a.put o.dst v') w') : wpList Tryz.prog ops Q (o :: rest) a w := by
  obtain ⟨i, hi, hz0, hz1, hz2⟩ := info_parts hE.info
  have hs' := hE.small
  have hbl : by_ * n ≤ 70368744177664 := by
    have := Nat.mul_le_mul hs' hn
    omega
  refine wpList_make_own w hgd x c T ho w.heap.size E i _ 1 hE.under hi hz0 hz1 kl kc C n hx hc hC (by rw [hz2]; omega) (by unfold maxLen; omega) (Nat.le_refl _) ?_
  intro w' h1 h2
  exact h _ _ h1 ((Fr.of_grown h2).mono fun k _ e => by cases e)

/-- 'make([]E, n)' -/
theorem wpList_mkfullG (hE : El T E z by_) (y : α) (hy : f y = z) {w : World} {ops : Array Oper} {rest : List Oper} {o : Oper} {a : Act} {Q : Exit → Act → World → Prop} (hgd : o.guard = none) (x c : Operand)
    (ho : o.op = .makeSlice T x c) (kl kc : IntKind) (C L : Int) (n : Nat) (hx : a.eval x = .int kl L) (hc : a.eval c = .int kc C) (hL : L = (n : Int)) (hC : C = (n : Int)) (hn : n ≤ 1099511627776)
    (h : ∀ w', Ow f E w' w.heap.size (.slice (some ⟨w.heap.size, 0, none⟩) n n) (List.replicate n y) → Fr Non w w' → wpList Tryz.prog ops Q rest (a.put o.dst (.slice (some ⟨w.heap.size, 0, none⟩) n n)) w') : wpList Tryz.prog ops Q (o :: rest) a w := by
  obtain ⟨i, hi, hz0, hz1, hz2⟩ := info_parts hE.info
  have hs' := hE.small
  have hbl : by_ * n ≤ 70368744177664 := by
    have := Nat.mul_le_mul hs' hn
    omega
  refine wpList_make_full w hgd x c T ho w.heap.size E i z 1 hE.under hi hz0 hz1 kl kc L C n hx hc hL hC (by rw [hz2]; omega) (by unfold maxLen; omega) (Nat.le_refl _) ?_
  intro w' h1 h2
  refine h _ ?_ ((Fr.of_grown h2).mono fun k _ e => by cases e)
  unfold Ow
  rw [hE.cells, Nat.mul_one, toList_madeCells_one] at h1
  rw [List.length_replicate, List.map_replicate, hy]
  exact h1

/-! ### Pieces -/
theorem slice_loG (hE : El T E z by_) (A : Option Addr) (n c k : Nat) (kl : IntKind) (y : Int) (hy : y = (k : Int)) (hk : k ≤ n) (hn : n ≤ c) :
    ∃ A' c', (∀ W, (Instr.slice T (.slice A n c) (some (.int kl y)) none none).run Tryz.prog W = .ok (.slice A' (n - k) c') W) ∧
      (∀ {α : Type} (f : α → Value) W (l : List α), l.length = n → Vs f W (.slice A n c) l → Vs f W (.slice A' (n - k) c') (l.drop k)) ∧ (Value.slice A' (n - k) c').ownBlock = (Value.slice A n c).ownBlock := by
  subst hy
  refine ⟨if c = k then A else A.map (·.add k), c - k, fun W => ?_, ?_, ?_⟩
  · rw [run_slice_any W T A n c (by rw [hE.elem]; exact hE.under)]
    have hb : (Instr.sliceBounds true n c (some (.int kl (k : Int))) none none).run Tryz.prog W = .ok (k, n, c) W := by
      simp [Instr.sliceBounds, run_sliceBound, hk, hn]
    rw [hb]
    simp only [Result.andThen_ok, hE.sz]
    simp [sliced]
  · rintro α f W l hl ⟨A0, c0, he, h1, h2, h3⟩
    simp only [Value.slice.injEq] at he
    obtain ⟨rfl, hl', rfl⟩ := he
    refine ⟨if c = k then A else A.map (·.add k), c - k, by rw [List.length_drop, hl], by rw [List.length_drop]; omega, fun e => ?_, fun a ha j hj => ?_⟩
    · split at e
      · have := h2 e; omega
      · have := h2 (by simpa using e); omega
    · rw [List.length_drop] at hj
      rw [if_neg (by omega)] at ha
      cases A with
      | none => cases ha
      | some b =>
        obtain rfl : b.add k = a := by simpa using ha
        rw [add_add, h3 b rfl (k + j) (by omega)]
        simp
  · split
    · cases A <;> rfl
    · cases A <;> simp [Value.ownBlock, add_block]

theorem slice_hiG (hE : El T E z by_) (A : Option Addr) (n c k : Nat) (kl : IntKind) (y : Int) (hy : y = (k : Int)) (hk : k ≤ n) (hn : n ≤ c) :
    ∃ A' c', (∀ W, (Instr.slice T (.slice A n c) none (some (.int kl y)) none).run Tryz.prog W = .ok (.slice A' k c') W) ∧
      (∀ {α : Type} (f : α → Value) W (l : List α), l.length = n → Vs f W (.slice A n c) l → Vs f W (.slice A' k c') (l.take k)) ∧ (Value.slice A' k c').ownBlock = (Value.slice A n c).ownBlock := by
  subst hy
  refine ⟨if c = 0 then A else A.map (·.add 0), c, fun W => ?_, ?_, ?_⟩
  · rw [run_slice_any W T A n c (by rw [hE.elem]; exact hE.under)]
    have hb : (Instr.sliceBounds true n c none (some (.int kl (k : Int))) none).run Tryz.prog W = .ok (0, k, c) W := by
      simp [Instr.sliceBounds, run_sliceBound, show (k : Int) ≤ c by omega]
    rw [hb]
    simp only [Result.andThen_ok, hE.sz]
    simp [sliced]
  · rintro α f W l hl ⟨A0, c0, he, h1, h2, h3⟩
    simp only [Value.slice.injEq] at he
    obtain ⟨rfl, hl', rfl⟩ := he
    refine ⟨if c = 0 then A else A.map (·.add 0), c, by rw [List.length_take, hl, Nat.min_eq_left hk], by rw [List.length_take]; omega, fun e => ?_, fun a ha j hj => ?_⟩
    · split at e
      · have := h2 e; omega
      · have := h2 (by simpa using e); omega
    · rw [List.length_take] at hj
      rw [if_neg (by omega)] at ha
      cases A with
      | none => cases ha
      | some b =>
        obtain rfl : b.add 0 = a := by simpa using ha
        rw [add_add, h3 b rfl (0 + j) (by omega)]
        simp
  · split
    · cases A <;> rfl
    · cases A <;> simp [Value.ownBlock, add_block]
end

/-- how many elements a slice has -/
def slLen : Value → Nat
  | .slice _ n _ => n
  | _ => 0
theorem slLen_vs {α : Type} {f : α → Value} {w : World} {v : Value} {l : List α} (h : Vs f w v l) : slLen v = l.length := by
  obtain ⟨A, c, rfl⟩ := h.shape; rfl

/-! ### Truths, whole numbers, bytes -/
def tv (b : Bool) : Value := .bool b
theorem tv_one (b : Bool) : (tv b).oneCell' = true := rfl
theorem bv_oneC (b : UInt8) : (bv b).oneCell' = true := rfl
theorem iv_oneC (n : Int) : (iv n).oneCell' = true := rfl
theorem el_bool : El 96 4 (.bool false) 1 := ⟨Tryz.underlying96, by kernel_rfl, rfl, by decide, by kernel_rfl, fun _ => by kernel_rfl⟩
theorem el_u8 : El 26 5 (.int .u8 0) 1 := ⟨Tryz.underlying26, by kernel_rfl, rfl, by decide, by kernel_rfl, fun _ => by kernel_rfl⟩
theorem el_int : El 134 3 (.int .i64 0) 8 := ⟨Tryz.underlying134, by kernel_rfl, rfl, by decide, by kernel_rfl, fun _ => by kernel_rfl⟩
theorem Bs.vs {w : World} {v : Value} {l : List UInt8} (h : Bs w v l) : Vs bv w v l := h
theorem Vs.bs {w : World} {v : Value} {l : List UInt8} (h : Vs bv w v l) : Bs w v l := h
theorem Own.ow {w : World} {B : Nat} {v : Value} {l : List UInt8} (h : Own w B v l) : Ow bv 5 w B v l := h
theorem Ow.own {w : World} {B : Nat} {v : Value} {l : List UInt8} (h : Ow bv 5 w B v l) : Own w B v l := h

end Go.Proofs.YtheefloegbkflaaGreatDoor


namespace Go.Proofs.YtheefloegbkflaaGreatDoor
set_option linter.unusedVariables false
set_option linter.unusedSimpArgs false
set_option maxRecDepth 100000

/-- the number that bytes begin with, from its i-th byte on, acc being what the bytes ahead of it make -/
def rd (i acc : Nat) : List UInt8 → Option (Nat × List UInt8)
  | [] => none
  | c :: r => if (i = 9 ∧ 1 < c.toNat) ∨ (0 < i ∧ c.toNat = 0) then none else if c.toNat < 128 then some (acc + c.toNat * 128 ^ i, r) else rd (i + 1) (acc + (c.toNat - 128) * 128 ^ i) r

def two64 : Nat := 18446744073709551616

theorem rd_bad {i acc : Nat} {c : UInt8} {r : List UInt8} (h : (i = 9 ∧ 1 < c.toNat) ∨ (0 < i ∧ c.toNat = 0)) : rd i acc (c :: r) = none := by rw [rd, if_pos h]
theorem rd_last {i acc : Nat} {c : UInt8} {r : List UInt8} (h : ¬ ((i = 9 ∧ 1 < c.toNat) ∨ (0 < i ∧ c.toNat = 0))) (h2 : c.toNat < 128) : rd i acc (c :: r) = some (acc + c.toNat * 128 ^ i, r) := by
  rw [rd, if_neg h, if_pos h2]
theorem rd_more {i acc : Nat} {c : UInt8} {r : List UInt8} (h : ¬ ((i = 9 ∧ 1 < c.toNat) ∨ (0 < i ∧ c.toNat = 0))) (h2 : 128 ≤ c.toNat) : rd i acc (c :: r) = rd (i + 1) (acc + (c.toNat - 128) * 128 ^ i) r := by
  rw [rd, if_neg h, if_neg (by omega)]

theorem pow128_9 : (128 : Nat) ^ 9 = 9223372036854775808 := by decide
theorem pow128_8 : (128 : Nat) ^ 8 = 72057594037927936 := by decide

theorem toNat_small {m : Nat} (h : m < 256) : m.toUInt8.toNat = m := by
  simp only [Nat.toUInt8_eq, UInt8.toNat_ofNat']; omega

/-- what is written is read -/
theorem rd_uvarint : ∀ (m i acc : Nat) (r : List UInt8), i ≤ 9 → m * 128 ^ i < two64 → (0 < i → m ≠ 0) → rd i acc (Lib.uvarint m ++ r) = some (acc + m * 128 ^ i, r) := by
  intro m
  induction m using Nat.strongRecOn with
  | _ m ih =>
    intro i acc r hi hm h0
    by_cases hs : m < 128
    · rw [Lib.uvarint_small hs]
      have hb := toNat_small (m := m) (by omega)
      rw [List.singleton_append, rd_last, hb]
      · rw [hb]
        rintro (⟨rfl, h⟩ | ⟨h, h'⟩)
        · rw [pow128_9, two64] at hm; omega
        · exact h0 h h'
      · omega
    · rw [Lib.uvarint_big (by omega)]
      have hb := toNat_small (m := m % 128 + 128) (by omega)
      have hi8 : i ≤ 8 := by
        rcases Nat.lt_or_ge i 9 with h | h
        · omega
        · obtain rfl : i = 9 := by omega
          rw [pow128_9, two64] at hm; omega
      have hsplit : m = 128 * (m / 128) + m % 128 := by omega
      have hpow : (128 : Nat) ^ (i + 1) = 128 * 128 ^ i := by rw [Nat.pow_succ, Nat.mul_comm]
      have hmul : m / 128 * 128 ^ (i + 1) + (m % 128) * 128 ^ i = m * 128 ^ i := by
        rw [hpow, ← Nat.mul_assoc, ← Nat.add_mul]; congr 1; omega
      rw [List.cons_append, rd_more, hb, ih (m / 128) (by omega) (i + 1) _ r (by omega) (by omega) (fun _ => by omega)]
      · congr 2
        rw [Nat.add_sub_cancel]; omega
      · rw [hb]; omega
      · omega

theorem eight_lt {m c : Nat} (hm : m * 9223372036854775808 < 18446744073709551616) (hc : c < 256) : m * 9223372036854775808 + (c - 128) * 72057594037927936 < 18446744073709551616 := by
  rcases Nat.lt_or_ge m 2 with h | h
  · clear hm
    have h1 : m ≤ 1 := by omega
    omega
  · exact absurd hm (Nat.not_lt.2 (Nat.le_trans (by decide) (Nat.mul_le_mul_right 9223372036854775808 h)))

/-- what is read was written so -/
theorem rd_back : ∀ (l : List UInt8) (i acc n : Nat) (r : List UInt8), i ≤ 9 → rd i acc l = some (n, r) → ∃ m, n = acc + m * 128 ^ i ∧ l = Lib.uvarint m ++ r ∧ m * 128 ^ i < two64 ∧ (0 < i → m ≠ 0) := by
  intro l
  induction l with
  | nil => intro i acc n r _ h; simp [rd] at h
  | cons c l ih =>
    intro i acc n r hi h
    by_cases hbad : (i = 9 ∧ 1 < c.toNat) ∨ (0 < i ∧ c.toNat = 0)
    · rw [rd_bad hbad] at h; cases h
    · have hc := c.toNat_lt
      have hle : (128 : Nat) ^ i ≤ 128 ^ 9 := Nat.pow_le_pow_right (by decide) hi
      rw [pow128_9] at hle
      by_cases h2 : c.toNat < 128
      · rw [rd_last hbad h2] at h
        simp only [Option.some.injEq, Prod.mk.injEq] at h
        obtain ⟨rfl, rfl⟩ := h
        refine ⟨c.toNat, rfl, ?_, ?_, fun h0 e => hbad (.inr ⟨h0, e⟩)⟩
        · rw [Lib.uvarint_small h2]
          simp
        · by_cases h9 : i = 9
          · subst h9
            rw [pow128_9, two64]; omega
          · have hle8 : (128 : Nat) ^ i ≤ 128 ^ 8 := Nat.pow_le_pow_right (by decide) (by omega)
            rw [pow128_8] at hle8
            have := Nat.mul_le_mul (show c.toNat ≤ 127 by omega) hle8
            rw [two64]; omega
      · have hi8 : i ≤ 8 := by omega
        rw [rd_more hbad (by omega)] at h
        obtain ⟨m, rfl, hl, hm, h0⟩ := ih (i + 1) _ n r (by omega) h
        have h0' := h0 (by omega)
        have hpow : (128 : Nat) ^ (i + 1) = 128 * 128 ^ i := by rw [Nat.pow_succ, Nat.mul_comm]
        have hmul : m * 128 ^ (i + 1) + (c.toNat - 128) * 128 ^ i = (128 * m + (c.toNat - 128)) * 128 ^ i := by
          rw [hpow, Nat.add_mul, ← Nat.mul_assoc, Nat.mul_comm m 128]
        refine ⟨128 * m + (c.toNat - 128), by omega, ?_, ?_, fun _ => by omega⟩
        · rw [Lib.uvarint_big (by omega), hl, show (128 * m + (c.toNat - 128)) / 128 = m by omega, show (128 * m + (c.toNat - 128)) % 128 + 128 = c.toNat by omega]
          simp
        · rw [← hmul]
          by_cases h8 : i = 8
          · subst h8
            rw [show (8 : Nat) + 1 = 9 from rfl, pow128_9, two64] at hm
            rw [show (8 : Nat) + 1 = 9 from rfl, pow128_9, pow128_8, two64]
            exact eight_lt hm hc
          · have hm1 : 128 ^ (i + 1) * 128 ≤ 128 ^ 9 := by
              rw [← Nat.pow_succ]; exact Nat.pow_le_pow_right (by decide) (by omega)
            have hdvd : 128 ^ (i + 1) ∣ two64 := by
              refine ⟨two64 / 128 ^ (i + 1), ?_⟩
              have : i + 1 = 1 ∨ i + 1 = 2 ∨ i + 1 = 3 ∨ i + 1 = 4 ∨ i + 1 = 5 ∨ i + 1 = 6 ∨ i + 1 = 7 ∨ i + 1 = 8 := by omega
              rcases this with h | h | h | h | h | h | h | h <;> rw [h] <;> decide
            obtain ⟨q, hq⟩ := hdvd
            rw [hq] at hm ⊢
            have hmq : m < q := by
              rw [Nat.mul_comm m] at hm
              exact Nat.lt_of_mul_lt_mul_left hm
            have : m * 128 ^ (i + 1) + 128 ^ (i + 1) ≤ 128 ^ (i + 1) * q := by
              rw [Nat.mul_comm m, ← Nat.mul_succ]; exact Nat.mul_le_mul_left _ hmq
            have hlt : (c.toNat - 128) * 128 ^ i < 128 ^ (i + 1) := by
              rw [hpow]; exact Nat.mul_lt_mul_of_pos_right (by omega) (Nat.pos_of_neZero _)
            omega

theorem rd_len {l : List UInt8} {i acc n : Nat} {r : List UInt8} (hi : i ≤ 9) (h : rd i acc l = some (n, r)) : r.length < l.length := by
  obtain ⟨m, _, rfl, _⟩ := rd_back l i acc n r hi h
  have := Lib.uvarint_pos m
  simp; omega

theorem rd_lt {l : List UInt8} {n : Nat} {r : List UInt8} (h : rd 0 0 l = some (n, r)) : n < two64 := by
  obtain ⟨m, rfl, _, h2, _⟩ := rd_back l 0 0 n r (by omega) h
  simpa using h2

theorem rd_own {n : Nat} (hn : n < two64) (r : List UInt8) : rd 0 0 (Lib.uvarint n ++ r) = some (n, r) := by
  have := rd_uvarint n 0 0 r (by omega) (by simpa using hn) (by simp)
  simpa using this

theorem rd_is {l : List UInt8} {n : Nat} {r : List UInt8} (h : rd 0 0 l = some (n, r)) : l = Lib.uvarint n ++ r := by
  obtain ⟨m, rfl, h1, _, _⟩ := rd_back l 0 0 n r (by omega) h
  simpa using h1

/-- zig-zag there and back -/
def unzig (n : Nat) : Int := if n % 2 = 1 then -((n / 2 : Nat) : Int) - 1 else ((n / 2 : Nat) : Int)
def zig (k : Int) : Nat := if k < 0 then (-2 * k - 1).toNat else (2 * k).toNat
theorem unzig_zig (k : Int) : unzig (zig k) = k := by unfold unzig zig; split <;> split <;> omega
theorem zig_unzig (n : Nat) : zig (unzig n) = n := by unfold unzig zig; split <;> split <;> omega
theorem zig_lt {k : Int} (h1 : -9223372036854775808 ≤ k) (h2 : k ≤ 9223372036854775807) : zig k < two64 := by unfold zig two64; split <;> omega

end Go.Proofs.YtheefloegbkflaaGreatDoor


namespace Go.Proofs.YtheefloegbkflaaGreatDoor
set_option linter.unusedVariables false
set_option linter.unusedSimpArgs false
set_option maxRecDepth 100000
open Go.RowKit

def hiB (m : Nat) : UInt8 := (m % 128 + 128).toUInt8
def loB (m : Nat) : UInt8 := m.toUInt8
theorem hiB_nat (m : Nat) : (hiB m).toNat = m % 128 + 128 := toNat_small (by omega)
theorem hiB_or (m : Nat) : bits BinOp.or IntKind.u8 ((m : Int) % 256) 128 = ((hiB m).toNat : Int) := by
  rw [Lib.u8_or128_any _ (by omega) (by omega), hiB_nat]; omega
theorem loB_small {m : Nat} (h : ¬ (128 : Int) ≤ m) : (m : Int) = ((loB m).toNat : Int) := by
  unfold loB; rw [toNat_small (by omega)]

set_option maxHeartbeats 400000 in
theorem vnum_any (n : Nat) (w : World) (hn : n < two64) :
    Calls Tryz.prog 26 #[.int .u64 n] w fun e w' => ∃ v, e = .returned v ∧ Own w' w.heap.size v (Lib.uvarint n) ∧ Fr Non w w' := by
  have hl10 : (Lib.uvarint n).length ≤ 10 := Lib.uvarint_length64 hn
  clear hn
  go_enter Tryz.func26, Tryz.ntmps26
  go_wp2
  go_loopw [0, 3] (fun x v wr => ∃ (m : Nat) (bs : List UInt8), m ≤ n ∧ x = .int .u64 m ∧ Lib.uvarint n = bs ++ Lib.uvarint m ∧ Own wr w.heap.size v bs ∧ Fr Non w wr) (fun x _ _ => (intOf x).toNat)
  case atStart => exact ⟨n, [], Nat.le_refl _, rfl, rfl, own_nil _ _, Fr.refl _ _⟩
  case round =>
    obtain ⟨m, bs, hm, rfl, hnum, hown, hfr⟩ := hrel
    have hlen : bs.length < 140737488355327 := by rw [hnum] at hl10; simp at hl10; omega
    have Hnum := Lib.hid hnum; clear hnum
    have e1 := hiB_or m
    have hB := hfr.size
    by_cases hm : (128 : Int) ≤ m
    · go_wp2_with (at_builtin; refine wpList_push rfl (.tmp 6) (.tmp 10) rfl w.heap.size u3 bs rfl hown _ (hiB m) rfl rfl hlen hB ?_; intro v' w1 hown1 hb1)
      refine ⟨⟨m / 128, bs ++ [hiB m], by omega, rfl, ?_, hown1, hfr.fresh hb1 fun k hk => (hown.lt k hk).1⟩, by simp [intOf]; omega⟩
      rw [Hnum.out, Lib.uvarint_big (by omega)]; simp [hiB]
    · go_wp2_with (at_builtin; refine wpList_push rfl (.tmp 14) (.tmp 17) rfl w.heap.size u3 bs rfl hown _ (loB m) (loB_small (by omega)) rfl hlen hB ?_; intro v' w1 hown1 hb1)
      go_ret
      refine ⟨v', rfl, ?_, hfr.fresh hb1 fun k hk => (hown.lt k hk).1⟩
      rw [Hnum.out, Lib.uvarint_small (by omega)]; exact hown1

theorem u64_div128 {m : Nat} (h : m < two64) : IntKind.u64.wrap ((m : Int) / 128) = (m : Int) / 128 := by
  unfold two64 at h
  exact IntWalk.u64_in _ ⟨by omega, by omega⟩

theorem refHi (m : Nat) : ((m : Int) % 128 + 128) = ((hiB m).toNat : Int) := by rw [hiB_nat]; omega

set_option maxHeartbeats 400000 in
theorem rnum_any (n : Nat) (w : World) (hn : n < two64) :
    Calls Tryz.prog 34 #[.int .u64 n] w fun e w' => ∃ v, e = .returned v ∧ Own w' w.heap.size v (Lib.uvarint n) ∧ Fr Non w w' := by
  have hl10 : (Lib.uvarint n).length ≤ 10 := Lib.uvarint_length64 hn
  go_enter Tryz.func34, Tryz.ntmps34
  go_wp2
  go_loopw [0, 3] (fun x v wr => ∃ (m : Nat) (bs : List UInt8), m ≤ n ∧ x = .int .u64 m ∧ Lib.uvarint n = bs ++ Lib.uvarint m ∧ Own wr w.heap.size v bs ∧ Fr Non w wr) (fun x _ _ => (intOf x).toNat)
  case atStart =>
    refine ⟨n, [], Nat.le_refl _, rfl, rfl, ?_, (Fr.refl _ _).alloc _⟩
    exact World.ownsRow_made w #[] 0 (Nat.le_refl _) (by unfold maxLen; omega) rfl
  case round =>
    obtain ⟨m, bs, hm, rfl, hnum, hown, hfr⟩ := hrel
    have hlen : bs.length < 140737488355327 := by rw [hnum] at hl10; simp at hl10; omega
    have Hnum := Lib.hid hnum; clear hnum
    have hB := hfr.size
    by_cases hm : (127 : Int) < m
    · have e3 := u64_div128 (m := m) (by omega)
      go_wp2_with (at_builtin; refine wpList_push rfl (.tmp 7) (.tmp 12) rfl w.heap.size u3 bs rfl hown _ (hiB m) (refHi m) rfl hlen hB ?_; intro v' w1 hown1 hb1)
      refine ⟨⟨m / 128, bs ++ [hiB m], by omega, rfl, ?_, hown1, hfr.fresh hb1 fun k hk => (hown.lt k hk).1⟩, by simp [intOf]; omega⟩
      rw [Hnum.out, Lib.uvarint_big (by omega)]; simp [hiB]
    · go_wp2_with (at_builtin; refine wpList_push rfl (.tmp 16) (.tmp 19) rfl w.heap.size u3 bs rfl hown _ (loB m) (loB_small (by omega)) rfl hlen hB ?_; intro v' w1 hown1 hb1)
      go_ret
      refine ⟨v', rfl, ?_, hfr.fresh hb1 fun k hk => (hown.lt k hk).1⟩
      rw [Hnum.out, Lib.uvarint_small (by omega)]; exact hown1

end Go.Proofs.YtheefloegbkflaaGreatDoor


namespace Go.Proofs.YtheefloegbkflaaGreatDoor
set_option linter.unusedVariables false
set_option linter.unusedSimpArgs false
set_option maxRecDepth 100000
open Go.RowKit

theorem zig_nonneg {k : Int} (h : ¬ k < 0) : ((zig k : Nat) : Int) = 2 * k := by unfold zig; rw [if_neg h]; omega
theorem zig_neg {k : Int} (h : k < 0) : ((zig k : Nat) : Int) = -2 * k - 1 := by unfold zig; rw [if_pos h]; omega

theorem vzig {k : Int} (h1 : -9223372036854775808 ≤ k) (h2 : k ≤ 9223372036854775807) :
    bits BinOp.xor IntKind.u64 (IntKind.u64.wrap (IntKind.u64.wrap k * 2)) (IntKind.u64.wrap (k / 9223372036854775808)) = ((zig k : Nat) : Int) := by
  by_cases h : k < 0
  · have e1 : IntKind.u64.wrap (IntKind.u64.wrap k * 2) = (((2 * k + 18446744073709551616).toNat : Nat) : Int) := by
      rw [IntKind.wrap_u64, IntKind.wrap_u64]; omega
    have e2 : IntKind.u64.wrap (k / 9223372036854775808) = ((2 ^ 64 - 1 : Nat) : Int) := by
      rw [IntKind.wrap_u64, show k / 9223372036854775808 = -1 by omega]; decide
    rw [e1, e2, bits_xor_u64_nat _ _ (by omega) (by decide), Nat.xor_comm, Lib.xor_ones64 _ (by omega), zig_neg h]
    omega
  · have e1 : IntKind.u64.wrap (IntKind.u64.wrap k * 2) = (((2 * k).toNat : Nat) : Int) := by
      rw [IntKind.wrap_u64, IntKind.wrap_u64]; omega
    have e2 : IntKind.u64.wrap (k / 9223372036854775808) = ((0 : Nat) : Int) := by
      rw [IntKind.wrap_u64, show k / 9223372036854775808 = 0 by omega]; decide
    rw [e1, e2, bits_xor_u64_nat _ _ (by omega) (by decide), Nat.xor_zero, zig_nonneg h]
    omega

theorem rzig_neg {k : Int} (h1 : -9223372036854775808 ≤ k) (h : k < 0) :
    IntKind.u64.wrap (IntKind.u64.wrap (2 * IntKind.u64.wrap (-IntKind.u64.wrap k)) - 1) = ((zig k : Nat) : Int) := by
  rw [zig_neg h]; simp only [IntKind.wrap_u64]; omega
theorem rzig_pos {k : Int} (h2 : k ≤ 9223372036854775807) (h : ¬ k < 0) : IntKind.u64.wrap (2 * IntKind.u64.wrap k) = ((zig k : Nat) : Int) := by
  rw [zig_nonneg h]; simp only [IntKind.wrap_u64]; omega

theorem vint_any (k : Int) (w : World) (h1 : -9223372036854775808 ≤ k) (h2 : k ≤ 9223372036854775807) :
    Calls Tryz.prog 115 #[.int .i64 k] w fun e w' => ∃ v, e = .returned v ∧ Own w' w.heap.size v (Lib.uvarint (zig k)) ∧ Fr Non w w' := by
  have e1 := vzig h1 h2
  have Hz := Lib.hid (zig_lt h1 h2)
  clear h1 h2
  go_enter Tryz.func115, Tryz.ntmps115
  go_wp2_with fail
  refine (vnum_any (zig k) w Hz.out).mono ?_
  rintro e w' ⟨v, rfl, hown, hfr⟩
  go_wp2
  go_ret
  exact ⟨v, rfl, hown, hfr⟩

theorem rint_any (k : Int) (w : World) (h1 : -9223372036854775808 ≤ k) (h2 : k ≤ 9223372036854775807) :
    Calls Tryz.prog 126 #[.int .i64 k] w fun e w' => ∃ v, e = .returned v ∧ Own w' w.heap.size v (Lib.uvarint (zig k)) ∧ Fr Non w w' := by
  have Hz := Lib.hid (zig_lt h1 h2)
  by_cases h0 : k < 0
  · have e1 := rzig_neg h1 h0
    clear h1 h2
    go_enter Tryz.func126, Tryz.ntmps126
    go_wp2_with fail
    refine (rnum_any (zig k) w Hz.out).mono ?_
    rintro e w' ⟨v, rfl, hown, hfr⟩
    go_wp2
    go_ret
    exact ⟨v, rfl, hown, hfr⟩
  · have e1 := rzig_pos h2 h0
    clear h1 h2
    go_enter Tryz.func126, Tryz.ntmps126
    go_wp2_with fail
    refine (rnum_any (zig k) w Hz.out).mono ?_
    rintro e w' ⟨v, rfl, hown, hfr⟩
    go_wp2
    go_ret
    exact ⟨v, rfl, hown, hfr⟩

end Go.Proofs.YtheefloegbkflaaGreatDoor


namespace Go.Proofs.YtheefloegbkflaaGreatDoor
set_option linter.unusedVariables false
set_option linter.unusedSimpArgs false
set_option maxRecDepth 100000

abbrev Tx := List UInt8

theorem bless : ∀ (x y : Tx), Op.bytesLess x y = decide (x < y)
  | x, [] => by cases x <;> simp [Op.bytesLess]
  | [], b :: y => by simp [Op.bytesLess]
  | a :: x, b :: y => by
    rw [Op.bytesLess, bless x y, Bool.eq_iff_iff]
    simp [List.cons_lt_cons_iff]

/-- ahead, the same, behind: of texts, and of numbers -/
def cmpT (x y : Tx) : Int := if x < y then -1 else if y < x then 1 else 0
def cmpI (x y : Int) : Int := if x < y then -1 else if y < x then 1 else 0
theorem tx_tri (x y : Tx) : x < y ∨ x = y ∨ y < x := by
  by_cases h1 : x < y
  · exact .inl h1
  · by_cases h2 : y < x
    · exact .inr (.inr h2)
    · exact .inr (.inl (List.le_antisymm (List.not_lt.1 h2) (List.not_lt.1 h1)))
theorem cmpT_lt {x y : Tx} (h : x < y) : cmpT x y = -1 := by unfold cmpT; rw [if_pos h]
theorem cmpT_gt {x y : Tx} (h : y < x) : cmpT x y = 1 := by
  unfold cmpT; rw [if_neg (fun e => List.lt_irrefl x (List.lt_trans e h)), if_pos h]
theorem cmpT_self (x : Tx) : cmpT x x = 0 := by unfold cmpT; rw [if_neg (List.lt_irrefl x), if_neg (List.lt_irrefl x)]
theorem cmpT_neg (x y : Tx) : cmpT y x = -cmpT x y := by
  rcases tx_tri x y with h | h | h
  · rw [cmpT_lt h, cmpT_gt h]; rfl
  · subst h; rw [cmpT_self]; rfl
  · rw [cmpT_lt h, cmpT_gt h]
theorem cmpT_zero {x y : Tx} : cmpT x y = 0 ↔ x = y := by
  rcases tx_tri x y with h | h | h
  · rw [cmpT_lt h]; exact ⟨fun e => by omega, fun e => absurd (e ▸ h) (List.lt_irrefl _)⟩
  · subst h; simp [cmpT_self]
  · rw [cmpT_gt h]; exact ⟨fun e => by omega, fun e => absurd (e ▸ h) (List.lt_irrefl _)⟩
theorem cmpT_le {x y : Tx} : cmpT x y ≤ 0 ↔ ¬ y < x := by
  rcases tx_tri x y with h | h | h
  · rw [cmpT_lt h]; exact ⟨fun _ e => List.lt_irrefl x (List.lt_trans h e), fun _ => by omega⟩
  · subst h; simp [cmpT_self, List.lt_irrefl]
  · rw [cmpT_gt h]; simp [h]
theorem cmpT_trans {x y z : Tx} (h1 : cmpT x y ≤ 0) (h2 : cmpT y z ≤ 0) : cmpT x z ≤ 0 := by
  rw [cmpT_le] at *
  exact fun h => h2 (by
    rcases tx_tri x y with h3 | h3 | h3
    · exact List.lt_trans h h3
    · subst h3; exact h
    · exact absurd h3 h1)
end Go.Proofs.YtheefloegbkflaaGreatDoor


namespace Go.Proofs.YtheefloegbkflaaGreatDoor
set_option linter.unusedVariables false
set_option linter.unusedSimpArgs false
set_option maxRecDepth 100000
open Go.RowKit

/-- a cell: null or not, its number, its text -/
structure Cl where
  null : Bool
  num : Int
  txt : List UInt8
  deriving DecidableEq
/-- its cells, and its value -/
def clC (c : Cl) : Array Value := #[.bool c.null, .int .i64 c.num, .string ⟨c.txt.toArray⟩]
def clV (c : Cl) : Value := .agg (clC c)
/-- are two the same? -/
def ceq (a b : Cl) : Bool := decide (a = b)
theorem ceq_self (a : Cl) : ceq a a = true := by simp [ceq]
theorem ceq_is {a b : Cl} (h : ceq a b = true) : a = b := by simpa [ceq] using h
theorem eq_parts (a b : Cl) : ceq a b = (a.null == b.null && (a.num == b.num && a.txt == b.txt)) := by
  obtain ⟨an, ai, at_⟩ := a
  obtain ⟨bn, bi, bt⟩ := b
  unfold ceq
  rw [Bool.eq_iff_iff]
  simp

theorem run_eql_cl (W : World) (a b : Cl) : (binOp .eql 54 (.agg #[.bool a.null, .int .i64 a.num, .string ⟨a.txt.toArray⟩]) (.agg #[.bool b.null, .int .i64 b.num, .string ⟨b.txt.toArray⟩])).run Tryz.prog W = .ok (.bool (ceq a b)) W := by
  rw [eq_parts]
  obtain ⟨an, ai, at_⟩ := a
  obtain ⟨bn, bi, bt⟩ := b
  go_simp
  by_cases h1 : an = bn <;> by_cases h2 : ai = bi <;> by_cases h3 : at_ = bt <;> simp [h1, h2, h3]
theorem run_neq_cl (W : World) (a b : Cl) : (binOp .neq 54 (.agg #[.bool a.null, .int .i64 a.num, .string ⟨a.txt.toArray⟩]) (.agg #[.bool b.null, .int .i64 b.num, .string ⟨b.txt.toArray⟩])).run Tryz.prog W = .ok (.bool (!ceq a b)) W := by
  rw [eq_parts]
  obtain ⟨an, ai, at_⟩ := a
  obtain ⟨bn, bi, bt⟩ := b
  go_simp
  by_cases h1 : an = bn <;> by_cases h2 : ai = bi <;> by_cases h3 : at_ = bt <;> simp [h1, h2, h3]

theorem csame_any (a b : Cl) (w : World) : Calls Tryz.prog 113 #[clV a, clV b] w fun e w' => e = .returned (.bool (ceq a b)) ∧ Fr Non w w' := by
  have h := fun W => run_eql_cl W a b
  unfold clV clC
  go_enter Tryz.func113, Tryz.ntmps113
  go_wp2
  go_ret
  exact ⟨rfl, ((Fr.refl _ _).alloc _).alloc _⟩

/-- is there such a type? -/
def isTy (ty : Int) : Bool := ty == 1 || ty == 2 || ty == 3
/-- which cells there may be -/
def mayC (ty : Int) (nl : Bool) (c : Cl) : Bool :=
  isTy ty && (if c.null then nl && (c.num == 0 && c.txt.isEmpty) else if ty = 3 then c.num == 0 && decide (c.txt.length ≤ 40) else c.txt.isEmpty && (ty == 1 || (c.num == 0 || c.num == 1)))

theorem istype_any (ty : Int) (w : World) : Calls Tryz.prog 144 #[.int .i64 ty] w fun e w' => e = .returned (.bool (isTy ty)) ∧ w = w' := by
  go_enter Tryz.func144, Tryz.ntmps144
  go_wp2
  all_goals
    go_ret
    exact ⟨ret_boolE (by simp_all [isTy]), rfl⟩

theorem slen (l : List UInt8) : ByteArray.size ⟨l.toArray⟩ = l.length := by simp [ByteArray.size]
theorem mayC_no {ty : Int} (h1 : ¬ ty = 1) (h2 : ¬ ty = 2) (h3 : ¬ ty = 3) (nl : Bool) (c : Cl) : mayC ty nl c = false := by
  simp [mayC, isTy, h1, h2, h3]
theorem mayC_null (ty : Int) (nl : Bool) (i : Int) (t : Tx) : mayC ty nl ⟨true, i, t⟩ = (nl && (isTy ty && ceq ⟨true, i, t⟩ ⟨true, 0, []⟩)) := by
  rw [eq_parts]
  unfold mayC
  cases isTy ty <;> cases nl <;> cases t <;> simp

set_option maxHeartbeats 1000000 in
theorem may_any (ty : Int) (nl : Bool) (c : Cl) (w : World) : Calls Tryz.prog 93 #[.int .i64 ty, .bool nl, clV c] w fun e w' => e = .returned (.bool (mayC ty nl c)) ∧ Fr Non w w' := by
  obtain ⟨n, i, t⟩ := c
  unfold clV clC
  cases n
  · have hs := slen t
    by_cases h1 : ty = 1
    · subst h1
      go_enter Tryz.func93, Tryz.ntmps93
      go_wp2
      all_goals
        go_ret
        exact ⟨ret_boolE (by first | rfl | (simp [mayC, isTy]; done) | (simp_all [mayC, isTy]; done) | (simp_all [mayC, isTy] <;> omega)), (Fr.refl _ _).alloc _⟩
    · by_cases h2 : ty = 2
      · subst h2
        go_enter Tryz.func93, Tryz.ntmps93
        go_wp2
        all_goals
          go_ret
          exact ⟨ret_boolE (by first | rfl | (simp [mayC, isTy]; done) | (simp_all [mayC, isTy]; done) | (simp_all [mayC, isTy] <;> omega)), (Fr.refl _ _).alloc _⟩
      · by_cases h3 : ty = 3
        · subst h3
          go_enter Tryz.func93, Tryz.ntmps93
          go_wp2
          all_goals
            go_ret
            exact ⟨ret_boolE (by first | rfl | (simp [mayC, isTy]; done) | (simp_all [mayC, isTy]; done) | (simp_all [mayC, isTy] <;> omega)), (Fr.refl _ _).alloc _⟩
        · have H := Lib.hid (mayC_no h1 h2 h3 nl ⟨false, i, t⟩)
          go_enter Tryz.func93, Tryz.ntmps93
          go_wp2
          go_ret
          exact ⟨ret_boolE H.out.symm, (Fr.refl _ _).alloc _⟩
  · have H := Lib.hid (mayC_null ty nl i t)
    cases nl
    · go_enter Tryz.func93, Tryz.ntmps93
      go_wp2
      go_ret
      exact ⟨ret_boolE (by rw [H.out]; rfl), (Fr.refl _ _).alloc _⟩
    · cases hT : isTy ty with
      | false =>
        have h0 := fun W => istype_any ty W
        simp only [hT] at h0
        have HT := Lib.hid hT
        clear hT
        go_enter Tryz.func93, Tryz.ntmps93
        go_wp2_with fail
        refine (h0 _).mono ?_
        rintro e w1 ⟨rfl, rfl⟩
        go_wp2
        go_ret
        exact ⟨ret_boolE (by rw [H.out, HT.out]; rfl), (Fr.refl _ _).alloc _⟩
      | true =>
        have h0 := fun W => istype_any ty W
        simp only [hT] at h0
        have HT := Lib.hid hT
        clear hT
        go_enter Tryz.func93, Tryz.ntmps93
        go_wp2_with fail
        refine (h0 _).mono ?_
        rintro e w1 ⟨rfl, rfl⟩
        go_wp2_with fail
        refine (csame_any ⟨true, i, t⟩ ⟨true, 0, []⟩ _).mono ?_
        rintro e w1 ⟨rfl, hf1⟩
        go_wp2
        go_ret
        exact ⟨ret_boolE (by rw [H.out, HT.out]; rfl), ((Fr.refl _ _).alloc _).trans hf1⟩

set_option maxHeartbeats 1000000 in
theorem rmay_any (ty : Int) (nl : Bool) (c : Cl) (w : World) : Calls Tryz.prog 64 #[.int .i64 ty, .bool nl, clV c] w fun e w' => e = .returned (.bool (mayC ty nl c)) ∧ Fr Non w w' := by
  obtain ⟨n, i, t⟩ := c
  unfold clV clC
  by_cases h0 : ty < 1
  · have H := Lib.hid (mayC_no (ty := ty) (by omega) (by omega) (by omega) nl ⟨n, i, t⟩)
    go_enter Tryz.func64, Tryz.ntmps64
    go_wp2
    go_ret
    exact ⟨ret_boolE H.out.symm, (Fr.refl _ _).alloc _⟩
  · by_cases h4 : 3 < ty
    · have H := Lib.hid (mayC_no (ty := ty) (by omega) (by omega) (by omega) nl ⟨n, i, t⟩)
      go_enter Tryz.func64, Tryz.ntmps64
      go_wp2
      go_ret
      exact ⟨ret_boolE H.out.symm, (Fr.refl _ _).alloc _⟩
    · have hs := slen t
      have h3 : ty = 1 ∨ ty = 2 ∨ ty = 3 := by omega
      clear h0 h4
      cases n
      · rcases h3 with h | h | h
        · subst h
          go_enter Tryz.func64, Tryz.ntmps64
          go_wp2
          all_goals
            go_ret
            exact ⟨ret_boolE (by first | rfl | (simp [mayC, isTy]; done) | (simp_all [mayC, isTy]; done) | (simp_all [mayC, isTy] <;> omega)), (Fr.refl _ _).alloc _⟩
        · subst h
          go_enter Tryz.func64, Tryz.ntmps64
          go_wp2
          all_goals
            go_ret
            exact ⟨ret_boolE (by first | rfl | (simp [mayC, isTy]; done) | (simp_all [mayC, isTy]; done) | (simp_all [mayC, isTy] <;> omega)), (Fr.refl _ _).alloc _⟩
        · subst h
          go_enter Tryz.func64, Tryz.ntmps64
          go_wp2
          all_goals
            go_ret
            exact ⟨ret_boolE (by first | rfl | (simp [mayC, isTy]; done) | (simp_all [mayC, isTy]; done) | (simp_all [mayC, isTy] <;> omega)), (Fr.refl _ _).alloc _⟩
      · have hT : isTy ty = true := by rcases h3 with rfl | rfl | rfl <;> rfl
        have hl : ¬ ty < 1 := by omega
        have hg : ¬ 3 < ty := by omega
        clear h3
        cases nl
        · go_enter Tryz.func64, Tryz.ntmps64
          go_wp2
          all_goals
            go_ret
            exact ⟨ret_boolE (by first | (simp [mayC, hT]; done) | (simp_all [mayC]; done)), (Fr.refl _ _).alloc _⟩
        · go_enter Tryz.func64, Tryz.ntmps64
          go_wp2
          all_goals
            go_ret
            exact ⟨ret_boolE (by first | (simp [mayC, hT]; done) | (simp_all [mayC]; done)), (Fr.refl _ _).alloc _⟩
end Go.Proofs.YtheefloegbkflaaGreatDoor


namespace Go.Proofs.YtheefloegbkflaaGreatDoor
set_option linter.unusedVariables false
set_option linter.unusedSimpArgs false
set_option maxRecDepth 100000
open Go.RowKit

/-- the cell c lies in block g -/
abbrev ClB (w : World) (g : Nat) (c : Cl) : Prop := Blk w g 54 #[.bool c.null, .int .i64 c.num, .string ⟨c.txt.toArray⟩]
/-- what a walk asks of it -/
theorem ClB.facts {w : World} {g : Nat} {c : Cl} (h : ClB w g c) :
    w.cell? ⟨g, 0, none⟩ = some (.bool c.null) ∧ w.cell? ⟨g, 1, none⟩ = some (.int .i64 c.num) ∧ w.cell? ⟨g, 2, none⟩ = some (.string ⟨c.txt.toArray⟩) ∧
    w.frozen? ⟨g, 0, none⟩ = false ∧ w.frozen? ⟨g, 1, none⟩ = false ∧ w.frozen? ⟨g, 2, none⟩ = false :=
  ⟨h.cell 0, h.cell 1, h.cell 2, h.frozen 0, h.frozen 1, h.frozen 2⟩
/-- a cell stored whole, as a walk spells it -/
def setCl (w : World) (g : Nat) (n : Bool) (i : Int) (t : List UInt8) : World := ((w.setCell ⟨g, 0, none⟩ (.bool n)).setCell ⟨g, 1, none⟩ (.int .i64 i)).setCell ⟨g, 2, none⟩ (.string ⟨t.toArray⟩)
theorem setCl_B {w : World} {g : Nat} {c : Cl} (h : ClB w g c) (n : Bool) (i : Int) (t : List UInt8) : ClB (setCl w g n i t) g ⟨n, i, t⟩ := ((h.set 0 _).set 1 _).set 2 _
theorem setCl_fr (w : World) (g : Nat) (n : Bool) (i : Int) (t : List UInt8) : Fr (One g) w (setCl w g n i t) := (((Fr.refl (One g) w).set1 0 _).set1 1 _).set1 2 _
/-- a call's end where its one result is a cell in a block -/
theorem ret_cl {fn : Func} {p : Tmp} (h : fn.results = #[.cell p 54]) (tmps : Array Value) (w : World) (g : Nat) (c : Cl)
    (hp : tmps.getD p undef = .pointer (some ⟨g, 0, none⟩)) (hg : ClB w g c) : (results fn tmps).run Tryz.prog w = .ok (clV c) w :=
  results_cell_row h tmps w g 54 _ (0, 0) _ hp hg Tryz.underlying54 rfl (by kernel_rfl)
theorem cl_new (w : World) (c : Cl) : ClB (w.alloc (.cells #[.bool c.null, .int .i64 c.num, .string ⟨c.txt.toArray⟩] 54)) w.heap.size c := Blk.new _ _ _
end Go.Proofs.YtheefloegbkflaaGreatDoor


namespace Go.Proofs.YtheefloegbkflaaGreatDoor
set_option linter.unusedVariables false
set_option linter.unusedSimpArgs false
set_option maxRecDepth 100000
open Go.RowKit

/-- a cell's three values, and those of many -/
def clL (c : Cl) : List Value := [.bool c.null, .int .i64 c.num, .string ⟨c.txt.toArray⟩]
def clsL (l : List Cl) : List Value := l.flatMap clL
theorem clsL_cons (c : Cl) (l : List Cl) : clsL (c :: l) = clL c ++ clsL l := by simp [clsL]
theorem clsL_app (l m : List Cl) : clsL (l ++ m) = clsL l ++ clsL m := by simp [clsL]
theorem clsL_one (c : Cl) : clsL [c] = clL c := by simp [clsL]
theorem clsL_len (l : List Cl) : (clsL l).length = l.length * 3 := by
  induction l with
  | nil => rfl
  | cons c l ih => rw [clsL_cons, List.length_append, ih, List.length_cons]; simp [clL]; omega
theorem clsL_at (l : List Cl) (j : Nat) (i : Nat) (hj : j < l.length) (hi : i < 3) : (clsL l)[j * 3 + i]? = (clL l[j])[i]? := by
  induction l generalizing j with
  | nil => cases hj
  | cons c l ih =>
    rw [clsL_cons]
    cases j with
    | zero => rw [List.getElem?_append_left (by simp [clL]; omega)]; simp
    | succ j =>
      rw [List.getElem?_append_right (by simp [clL]; omega)]
      rw [show (j + 1) * 3 + i - (clL c).length = j * 3 + i by simp [clL]; omega]
      exact ih j (by simpa using hj)
theorem clsL_one' (l : List Cl) : ∀ u ∈ clsL l, u.oneCell' = true := by
  intro u hu
  obtain ⟨c, _, hc⟩ := List.mem_flatMap.1 hu
  simp [clL] at hc
  rcases hc with rfl | rfl | rfl <;> rfl
theorem clsL_set (l : List Cl) (j : Nat) (c : Cl) (hj : j < l.length) : clsL (l.set j c) = (((clsL l).set (j * 3) (.bool c.null)).set (j * 3 + 1) (.int .i64 c.num)).set (j * 3 + 2) (.string ⟨c.txt.toArray⟩) := by
  induction l generalizing j with
  | nil => cases hj
  | cons d l ih =>
    cases j with
    | zero => simp [clsL_cons, clL]
    | succ j =>
      rw [List.set_cons_succ, clsL_cons, clsL_cons, ih j (by simpa using hj)]
      rw [show (j + 1) * 3 = 3 + j * 3 by omega]
      have e : ∀ (k : Nat) (u : Value) (m : List Value), (clL d ++ m).set (3 + k) u = clL d ++ m.set k u := fun k u m => by
        rw [List.set_append_right _ _ (by simp [clL] <;> omega)]
        congr 2
        simp [clL] <;> omega
      rw [e, show 3 + j * 3 + 1 = 3 + (j * 3 + 1) by omega, e, show 3 + j * 3 + 2 = 3 + (j * 3 + 2) by omega, e]

/-- three cells, one behind the other, that hold c -/
structure At3 (w : World) (a : Addr) (c : Cl) : Prop where
  c0 : w.cell? a = some (.bool c.null)
  c1 : w.cell? (a.add 1) = some (.int .i64 c.num)
  c2 : w.cell? (a.add 2) = some (.string ⟨c.txt.toArray⟩)

/-- the slice v reads as the cells l -/
def Cs (w : World) (v : Value) (l : List Cl) : Prop :=
  ∃ A c, v = .slice A l.length c ∧ l.length ≤ c ∧ (A = none → c = 0) ∧ ∀ a, A = some a → ∀ j (h : j < l.length), At3 w (a.add (j * 3)) l[j]
/-- a row of the call's own, from block B on -/
def Oc (w : World) (B : Nat) (v : Value) (l : List Cl) : Prop := w.ownsRow B 54 3 v l.length (clsL l)

theorem At3.keep {w w' : World} {a : Addr} {c : Cl} (h : At3 w a c) (hk : w'.heap[a.block]? = w.heap[a.block]?) : At3 w' a c := by
  obtain ⟨h0, h1, h2⟩ := h
  exact ⟨by rw [← h0]; exact World.cell?_of_block hk, by rw [← h1]; exact World.cell?_of_block (by rw [add_block]; exact hk), by rw [← h2]; exact World.cell?_of_block (by rw [add_block]; exact hk)⟩

theorem Cs.nil_ (w : World) : Cs w (.slice none 0 0) [] := ⟨none, 0, rfl, Nat.le_refl _, fun _ => rfl, fun _ h => by cases h⟩
theorem Cs.keep {w w' : World} {v : Value} {l : List Cl} (h : Cs w v l) (hk : ∀ k, v.ownBlock = some k → k < w.heap.size → w'.heap[k]? = w.heap[k]?) : Cs w' v l := by
  obtain ⟨A, c, rfl, h1, h2, h3⟩ := h
  refine ⟨A, c, rfl, h1, h2, fun a ha j hj => ?_⟩
  have := h3 a ha j hj
  subst ha
  have hb := World.block_lt_of_cell? w _ this.c0
  refine this.keep ?_
  rw [add_block] at hb ⊢
  exact hk _ rfl hb
theorem Cs.fr {S : Nat → Prop} {w w' : World} {v : Value} {l : List Cl} (h : Cs w v l) (hf : Fr S w w') (hn : ∀ k, v.ownBlock = some k → ¬ S k) : Cs w' v l :=
  h.keep fun k hk hlt => hf.block k hlt (hn k hk)
theorem Cs.non {w w' : World} {v : Value} {l : List Cl} (h : Cs w v l) (hf : Fr Non w w') : Cs w' v l := h.fr hf fun _ _ e => e
theorem Cs.drew {w : World} {v : Value} {l : List Cl} (h : Cs w v l) : Cs w.drew v l := h.keep fun _ _ _ => rfl
theorem Cs.shape {w : World} {v : Value} {l : List Cl} (h : Cs w v l) : ∃ A c, v = .slice A l.length c := by
  obtain ⟨A, c, rfl, _⟩ := h; exact ⟨A, c, rfl⟩
theorem Cs.addr {w : World} {A : Option Addr} {n c : Nat} {l : List Cl} (h : Cs w (.slice A n c) l) (hl : 0 < n) : ∃ a, A = some a ∧ n = l.length ∧ n ≤ c ∧ ∀ j (h : j < l.length), At3 w (a.add (j * 3)) l[j] := by
  obtain ⟨A0, c0, he, h1, h2, h3⟩ := h
  simp only [Value.slice.injEq] at he
  obtain ⟨rfl, rfl, rfl⟩ := he
  cases A with
  | none => have := h2 rfl; omega
  | some a => exact ⟨a, rfl, rfl, h1, h3 a rfl⟩
/-- what a walk asks of the element at j -/
theorem Cs.el {w : World} {a : Addr} {n c : Nat} {l : List Cl} (h : Cs w (.slice (some a) n c) l) (j : Nat) (x : Cl) (hx : l[j]? = some x) :
    w.cell? (a.add (j * 3)) = some (.bool x.null) ∧ w.cell? ((a.add (j * 3)).add 1) = some (.int .i64 x.num) ∧ w.cell? ((a.add (j * 3)).add 2) = some (.string ⟨x.txt.toArray⟩) := by
  obtain ⟨A0, c0, he, h1, h2, h3⟩ := h
  simp only [Value.slice.injEq] at he
  obtain ⟨rfl, rfl, rfl⟩ := he
  obtain ⟨hj, rfl⟩ := List.getElem?_eq_some_iff.1 hx
  have := h3 a rfl j hj
  exact ⟨this.c0, this.c1, this.c2⟩

theorem Fr.at3 {w w' : World} {a : Addr} {c : Cl} (hf : Fr Non w w') (h : At3 w a c) : At3 w' a c :=
  h.keep (hf.block _ (World.block_lt_of_cell? w _ h.c0) (fun e => e))
/-- as a walk spells them -/
theorem At3.lit {w : World} {a : Addr} {c : Cl} (h : At3 w a c) : w.cell? a = some (.bool c.null) ∧ w.cell? { block := a.block, off := a.off + 1 } = some (.int .i64 c.num) ∧ w.cell? { block := a.block, off := a.off + 2 } = some (.string ⟨c.txt.toArray⟩) := ⟨h.c0, h.c1, h.c2⟩
theorem all_take {f : Cl → Bool} {l : List Cl} {k : Nat} (h : k < l.length) (h1 : (l.take k).all f = true) : (l.take (k + 1)).all f = f l[k] := by
  rw [List.take_succ_eq_append_getElem h, List.all_append, h1]; simp
theorem all_false {f : Cl → Bool} {l : List Cl} {k : Nat} (h : k < l.length) (h1 : f l[k] = false) : l.all f = false :=
  List.all_eq_false.2 ⟨l[k], List.getElem_mem h, by simp [h1]⟩

theorem oc_nil (w : World) (B : Nat) : Oc w B (.slice none 0 0) [] := ⟨by simp [clsL], .inl ⟨rfl, rfl⟩⟩
theorem Oc.lt {w : World} {B : Nat} {v : Value} {l : List Cl} (h : Oc w B v l) : ∀ k, v.ownBlock = some k → B ≤ k ∧ k < w.heap.size := World.ownsRow.lt h
theorem Oc.cs {w : World} {B : Nat} {v : Value} {l : List Cl} (h : Oc w B v l) : Cs w v l := by
  rcases h.2 with ⟨rfl, h0⟩ | ⟨g, cap, cur, rfl, _, _, hle, _, _, _⟩
  · have hl : l = [] := List.eq_nil_of_length_eq_zero h0
    subst hl; exact Cs.nil_ w
  · refine ⟨_, cap, rfl, hle, (fun h => by cases h), fun a ha j hj => ?_⟩
    cases ha
    have H := fun i hi => World.ownsRow.cells h (g := g) rfl (j * 3 + i) _ ((clsL_at l j i hj hi).trans (List.getElem?_eq_getElem (by simp [clL]; omega)))
    refine ⟨?_, ?_, ?_⟩
    · have := H 0 (by omega); simpa [clL] using this
    · rw [add_add]; have := H 1 (by omega); simpa [clL] using this
    · rw [add_add]; have := H 2 (by omega); simpa [clL] using this
theorem Oc.shape {w : World} {B : Nat} {v : Value} {l : List Cl} (h : Oc w B v l) : ∃ A c, v = .slice A l.length c := h.cs.shape
theorem Oc.keep {w w' : World} {B : Nat} {v : Value} {l : List Cl} (h : Oc w B v l) (hk : ∀ k, v.ownBlock = some k → w'.heap[k]? = w.heap[k]?) : Oc w' B v l := by
  refine ⟨h.1, ?_⟩
  rcases h.2 with h2 | ⟨g, cap, cur, hv, hb, hg, r⟩
  · exact .inl h2
  · exact .inr ⟨g, cap, cur, hv, hb, by rw [hk g (by rw [hv]; rfl)]; exact hg, r⟩
theorem Oc.fr {S : Nat → Prop} {w w' : World} {B : Nat} {v : Value} {l : List Cl} (h : Oc w B v l) (hf : Fr S w w') (hn : ∀ k, v.ownBlock = some k → ¬ S k) : Oc w' B v l :=
  h.keep fun k hk => hf.block k (h.lt k hk).2 (hn k hk)
theorem Oc.non {w w' : World} {B : Nat} {v : Value} {l : List Cl} (h : Oc w B v l) (hf : Fr Non w w') : Oc w' B v l := h.fr hf fun _ _ e => e
theorem Oc.alloc {w : World} {B : Nat} {v : Value} {l : List Cl} (h : Oc w B v l) (o : Obj) : Oc (w.alloc o) B v l := h.non ((Fr.refl _ _).alloc o)
theorem Oc.drew {w : World} {B : Nat} {v : Value} {l : List Cl} (h : Oc w B v l) : Oc w.drew B v l := h
theorem Oc.mono {w : World} {B B' : Nat} {v : Value} {l : List Cl} (h : Oc w B v l) (hB : B' ≤ B) : Oc w B' v l := by
  refine ⟨h.1, ?_⟩
  rcases h.2 with h2 | ⟨g, cap, cur, hv, hb, r⟩
  · exact .inl h2
  · exact .inr ⟨g, cap, cur, hv, by omega, r⟩
theorem Oc.kind {w : World} {B : Nat} {v : Value} {l : List Cl} (h : Oc w B v l) : ∀ k, v.ownBlock = some k → ∃ cur, w.heap[k]? = some (.cells cur 54 (0, 0)) := by
  intro k hk
  rcases h.2 with ⟨rfl, _⟩ | ⟨g, cap, cur, rfl, _, hg, _⟩
  · cases hk
  · obtain rfl : g = k := by simpa [Value.ownBlock] using hk
    exact ⟨cur, hg⟩
theorem Oc.row {w : World} {B : Nat} {v : Value} {l : List Cl} (h : Oc w B v l) (hn : 0 < l.length) : ∃ g cap, v = .slice (some ⟨g, 0, none⟩) l.length cap ∧ B ≤ g ∧ g < w.heap.size ∧ l.length ≤ cap ∧ cap ≤ maxLen := by
  rcases h.2 with ⟨rfl, h0⟩ | ⟨g, cap, cur, rfl, hb, hg, hle, hm, _⟩
  · omega
  · exact ⟨g, cap, rfl, hb, (Array.getElem?_eq_some_iff.1 hg).1, hle, hm⟩
/-- what a walk asks of a row's element at j -/
theorem Oc.el {w : World} {B g n cap : Nat} {l : List Cl} (h : Oc w B (.slice (some ⟨g, 0, none⟩) n cap) l) (hn : n = l.length) (j : Nat) (x : Cl) (hx : l[j]? = some x) :
    w.cell? ⟨g, j * 3, none⟩ = some (.bool x.null) ∧ w.cell? ⟨g, j * 3 + 1, none⟩ = some (.int .i64 x.num) ∧ w.cell? ⟨g, j * 3 + 2, none⟩ = some (.string ⟨x.txt.toArray⟩) := by
  subst hn
  obtain ⟨hj, rfl⟩ := List.getElem?_eq_some_iff.1 hx
  refine ⟨?_, ?_, ?_⟩
  · rw [World.ownsRow.cellAt h (j * 3) (by omega)]; have := clsL_at l j 0 hj (by omega); simpa [clL] using this
  · rw [World.ownsRow.cellAt h (j * 3 + 1) (by omega)]; have := clsL_at l j 1 hj (by omega); simpa [clL] using this
  · rw [World.ownsRow.cellAt h (j * 3 + 2) (by omega)]; have := clsL_at l j 2 hj (by omega); simpa [clL] using this
theorem Oc.frozen {w : World} {B g n cap : Nat} {l : List Cl} (h : Oc w B (.slice (some ⟨g, 0, none⟩) n cap) l) (hn : n = l.length) (j : Nat) : w.frozen? ⟨g, j, none⟩ = false := by
  subst hn; exact World.ownsRow.frozenAt h j
/-- one value stored -/
theorem Oc.put0 {w : World} {B g n cap : Nat} {l : List Cl} (h : Oc w B (.slice (some ⟨g, 0, none⟩) n cap) l) (hn : n = l.length) (j : Nat) (x : Cl) (hx : l[j]? = some x) (b : Bool) :
    Oc (w.setCell ⟨g, j * 3, none⟩ (.bool b)) B (.slice (some ⟨g, 0, none⟩) n cap) (l.set j ⟨b, x.num, x.txt⟩) := by
  subst hn
  have hj := (List.getElem?_eq_some_iff.1 hx).1
  have h1 := (World.ownsRow.stored h (j * 3) (.bool b)).1
  obtain ⟨_, e1, e2⟩ := h.el rfl j x hx
  unfold Oc
  rw [List.length_set, clsL_set l j _ hj]
  have q1 : ((clsL l).set (j * 3) (.bool b))[j * 3 + 1]? = some (.int .i64 x.num) := by
    rw [List.getElem?_set_ne (by omega), ← World.ownsRow.cellAt h (j * 3 + 1) (by omega), e1]
  have q2 : ((clsL l).set (j * 3) (.bool b))[j * 3 + 2]? = some (.string ⟨x.txt.toArray⟩) := by
    rw [List.getElem?_set_ne (by omega), ← World.ownsRow.cellAt h (j * 3 + 2) (by omega), e2]
  have s1 : ((clsL l).set (j * 3) (.bool b)).set (j * 3 + 1) (.int .i64 x.num) = (clsL l).set (j * 3) (.bool b) := by
    obtain ⟨hlt, he⟩ := List.getElem?_eq_some_iff.1 q1; rw [← he]; exact List.set_getElem_self hlt
  have s2 : ((clsL l).set (j * 3) (.bool b)).set (j * 3 + 2) (.string ⟨x.txt.toArray⟩) = (clsL l).set (j * 3) (.bool b) := by
    obtain ⟨hlt, he⟩ := List.getElem?_eq_some_iff.1 q2; rw [← he]; exact List.set_getElem_self hlt
  simp only [s1, s2]
  exact h1
theorem Oc.put1 {w : World} {B g n cap : Nat} {l : List Cl} (h : Oc w B (.slice (some ⟨g, 0, none⟩) n cap) l) (hn : n = l.length) (j : Nat) (x : Cl) (hx : l[j]? = some x) (i : Int) :
    Oc (w.setCell ⟨g, j * 3 + 1, none⟩ (.int .i64 i)) B (.slice (some ⟨g, 0, none⟩) n cap) (l.set j ⟨x.null, i, x.txt⟩) := by
  subst hn
  have hj := (List.getElem?_eq_some_iff.1 hx).1
  have h1 := (World.ownsRow.stored h (j * 3 + 1) (.int .i64 i)).1
  obtain ⟨e0, _, e2⟩ := h.el rfl j x hx
  unfold Oc
  rw [List.length_set, clsL_set l j _ hj]
  have q0 : (clsL l)[j * 3]? = some (.bool x.null) := by rw [← World.ownsRow.cellAt h (j * 3) (by omega), e0]
  have q2 : ((clsL l).set (j * 3 + 1) (.int .i64 i))[j * 3 + 2]? = some (.string ⟨x.txt.toArray⟩) := by
    rw [List.getElem?_set_ne (by omega), ← World.ownsRow.cellAt h (j * 3 + 2) (by omega), e2]
  have s0 : (clsL l).set (j * 3) (.bool x.null) = clsL l := by
    obtain ⟨hlt, he⟩ := List.getElem?_eq_some_iff.1 q0; rw [← he]; exact List.set_getElem_self hlt
  have s2 : ((clsL l).set (j * 3 + 1) (.int .i64 i)).set (j * 3 + 2) (.string ⟨x.txt.toArray⟩) = (clsL l).set (j * 3 + 1) (.int .i64 i) := by
    obtain ⟨hlt, he⟩ := List.getElem?_eq_some_iff.1 q2; rw [← he]; exact List.set_getElem_self hlt
  simp only [s0, s2]
  exact h1
theorem Oc.put2 {w : World} {B g n cap : Nat} {l : List Cl} (h : Oc w B (.slice (some ⟨g, 0, none⟩) n cap) l) (hn : n = l.length) (j : Nat) (x : Cl) (hx : l[j]? = some x) (t : List UInt8) :
    Oc (w.setCell ⟨g, j * 3 + 2, none⟩ (.string ⟨t.toArray⟩)) B (.slice (some ⟨g, 0, none⟩) n cap) (l.set j ⟨x.null, x.num, t⟩) := by
  subst hn
  have hj := (List.getElem?_eq_some_iff.1 hx).1
  have h1 := (World.ownsRow.stored h (j * 3 + 2) (.string ⟨t.toArray⟩)).1
  obtain ⟨e0, e1, _⟩ := h.el rfl j x hx
  unfold Oc
  rw [List.length_set, clsL_set l j _ hj]
  have q0 : (clsL l)[j * 3]? = some (.bool x.null) := by rw [← World.ownsRow.cellAt h (j * 3) (by omega), e0]
  have q1 : (clsL l)[j * 3 + 1]? = some (.int .i64 x.num) := by rw [← World.ownsRow.cellAt h (j * 3 + 1) (by omega), e1]
  have s0 : (clsL l).set (j * 3) (.bool x.null) = clsL l := by
    obtain ⟨hlt, he⟩ := List.getElem?_eq_some_iff.1 q0; rw [← he]; exact List.set_getElem_self hlt
  have s1 : (clsL l).set (j * 3 + 1) (.int .i64 x.num) = clsL l := by
    obtain ⟨hlt, he⟩ := List.getElem?_eq_some_iff.1 q1; rw [← he]; exact List.set_getElem_self hlt
  simp only [s0, s1]
  exact h1
/-- a cell stored whole -/
theorem Oc.put3 {w : World} {B g n cap : Nat} {l : List Cl} (h : Oc w B (.slice (some ⟨g, 0, none⟩) n cap) l) (hn : n = l.length) (j : Nat) (hj : j < l.length) (c : Cl) :
    Oc (((w.setCell ⟨g, j * 3, none⟩ (.bool c.null)).setCell ⟨g, j * 3 + 1, none⟩ (.int .i64 c.num)).setCell ⟨g, j * 3 + 2, none⟩ (.string ⟨c.txt.toArray⟩)) B (.slice (some ⟨g, 0, none⟩) n cap) (l.set j c) := by
  subst hn
  unfold Oc
  rw [List.length_set, clsL_set l j c hj]
  exact (World.ownsRow.stored (World.ownsRow.stored (World.ownsRow.stored h (j * 3) _).1 (j * 3 + 1) _).1 (j * 3 + 2) _).1

theorem info_cl : (Tryz.prog.info? 54).map (fun i => (i.zero, i.size, i.bytes)) = some (some (.agg #[.bool false, .int .i64 0, .string ⟨#[]⟩]), 3, 32) := by kernel_rfl
theorem oc_lit0 (w : World) (B g : Nat) (hg : g = w.heap.size) (hB : B ≤ g) : Oc (w.alloc (.cells #[] 54)) B (.slice (some ⟨g, 0, none⟩) 0 0) [] := by
  subst hg
  exact World.ownsRow_lit w #[] 0 hB (by unfold maxLen; omega) rfl
theorem oc_lit (w : World) (B g : Nat) (l : List Cl) (cs : Array Value) (hcs : cs.toList = clsL l) (hg : g = w.heap.size) (hB : B ≤ g) (hm : l.length ≤ 1000000) : Oc (w.alloc (.cells cs 54)) B (.slice (some ⟨g, 0, none⟩) l.length l.length) l := by
  subst hg
  have h := World.ownsRow_lit (e := 54) (size := 3) w cs l.length hB (by unfold maxLen; omega) (by rw [← Array.length_toList, hcs, clsL_len])
  rw [hcs] at h
  exact h
theorem madeCls (n : Nat) : (madeCells #[.bool false, .int .i64 0, .string ⟨#[]⟩] (n * 3)).toList = clsL (List.replicate n ⟨false, 0, []⟩) := by
  refine List.ext_getElem? fun k => ?_
  by_cases hk : k < n * 3
  · have e := clsL_at (List.replicate n (⟨false, 0, []⟩ : Cl)) (k / 3) (k % 3) (by simp; omega) (Nat.mod_lt _ (by omega))
    rw [show k / 3 * 3 + k % 3 = k by omega] at e
    rw [e]
    simp only [madeCells, Array.toList_map, Array.toList_range, List.getElem?_map]
    rw [List.getElem?_range hk]
    have h3 : k % 3 = 0 ∨ k % 3 = 1 ∨ k % 3 = 2 := by omega
    rcases h3 with h | h | h <;> simp [clL, h]
  · rw [List.getElem?_eq_none_iff.2 (by simp [size_madeCells]; omega), List.getElem?_eq_none_iff.2 (by rw [clsL_len]; simp; omega)]

/-! ### Steps -/
/-- 'make([]Cell, n)' -/
theorem wpList_mkC {w : World} {ops : Array Oper} {rest : List Oper} {o : Oper} {a : Act} {Q : Exit → Act → World → Prop} (hgd : o.guard = none) (x c : Operand)
    (ho : o.op = .makeSlice 59 x c) (kl kc : IntKind) (C L : Int) (n : Nat) (hx : a.eval x = .int kl L) (hc : a.eval c = .int kc C) (hL : L = (n : Int)) (hC : C = (n : Int)) (hn : n ≤ 1099511627776)
    (h : ∀ w', Oc w' w.heap.size (.slice (some ⟨w.heap.size, 0, none⟩) n n) (List.replicate n ⟨false, 0, []⟩) → Fr Non w w' → wpList Tryz.prog ops Q rest (a.put o.dst (.slice (some ⟨w.heap.size, 0, none⟩) n n)) w') : wpList Tryz.prog ops Q (o :: rest) a w := by
  obtain ⟨i, hi, hz0, hz1, hz2⟩ := info_parts info_cl
  refine wpList_make_full w hgd x c _ ho w.heap.size 54 i _ 3 Tryz.underlying59 hi hz0 hz1 kl kc L C n hx hc hL hC (by rw [hz2]; omega) (by unfold maxLen; omega) (Nat.le_refl _) ?_
  intro w' h1 h2
  refine h _ ?_ ((Fr.of_grown h2).mono fun k _ e => by cases e)
  unfold Oc
  rw [List.length_replicate, ← madeCls]
  exact h1
/-- append of one cell, which was stored in a new block first -/
theorem wpList_pushC {w0 : World} {ops : Array Oper} {rest : List Oper} {o : Oper} {a : Act} {Q : Exit → Act → World → Prop} (hgd : o.guard = none) (s x : Operand)
    (ho : o.op = .call { callee := .builtin .append, args := #[s, x], argTypes := #[59, 59] })
    (B : Nat) (v : Value) (l : List Cl) (hs : a.eval s = v) (hown : Oc w0 B v l) (y : Cl) (b : Bool) (i : Int) (t : ByteArray) (hb : b = y.null) (hi : i = y.num) (ht : t = ⟨y.txt.toArray⟩) (g : Nat) (hx : a.eval x = .slice (some ⟨g, 0, none⟩) 1 1) (hg : g = w0.heap.size)
    (hl : l.length < 1099511627776) (hB : B ≤ w0.heap.size)
    (h : ∀ v' w', Oc w' B v' (l ++ [y]) → Fr (fun k => v.ownBlock = some k) w0 w' → wpList Tryz.prog ops Q rest (a.put o.dst v') w') :
    wpList Tryz.prog ops Q (o :: rest) a (w0.alloc (.cells #[.bool b, .int .i64 i, .string t] 54)) := by
  subst hb hi ht hg
  obtain ⟨ii, hi, hz0, hz1, hz2⟩ := info_parts info_cl
  have hbl := ((cl_new w0 y).facts)
  refine wpList_append_own _ hgd s x _ ho B 54 ii _ 3 32 Tryz.underlying59 hi hz0 hz1 hz2 rfl (by omega) v l.length (clsL l) hs (hown.alloc _) ⟨w0.heap.size, 0, none⟩ 1 1 (clL y) hx rfl ?_ ?_ (by unfold maxLen; omega) (by omega) (by simp; omega) ?_
  · intro j u hu
    rw [Addr.add_lit, Nat.zero_add]
    match j with
    | 0 => obtain rfl : _ = u := by simpa [clL] using hu
           exact hbl.1
    | 1 => obtain rfl : _ = u := by simpa [clL] using hu
           exact hbl.2.1
    | 2 => obtain rfl : _ = u := by simpa [clL] using hu
           exact hbl.2.2.1
    | j + 3 => simp [clL] at hu
  · intro u hu
    exact clsL_one' [y] u (by rw [clsL_one]; exact hu)
  · intro v' w' h1 h2 _
    refine h v' w' ?_ ?_
    · unfold Oc
      rw [clsL_app, clsL_one, List.length_append]
      exact h1
    · exact ((Fr.refl _ _).alloc _).join (Fr.of_grown h2) fun k hk e => e.symm ▸ rfl
end Go.Proofs.YtheefloegbkflaaGreatDoor


namespace Go.Proofs.YtheefloegbkflaaGreatDoor
set_option linter.unusedVariables false
set_option linter.unusedSimpArgs false
set_option maxRecDepth 100000
open Go.RowKit

/-- a slice's words -/
structure Sl where
  A : Option Addr
  n : Nat
  c : Nat
def slV (s : Sl) : Value := .slice s.A s.n s.c
def noSl : Sl := ⟨none, 0, 0⟩
theorem el_rows : El 23 59 (.slice none 0 0) 24 := ⟨Tryz.underlying23, by kernel_rfl, rfl, by decide, by kernel_rfl, fun _ => by kernel_rfl⟩

/-- the slice v reads as the rows rs -/
def Rs (w : World) (v : Value) (rs : List (List Cl)) : Prop := ∃ hs : List Sl, hs.length = rs.length ∧ Vs slV w v hs ∧ ∀ i (h : i < hs.length) (h2 : i < rs.length), Cs w (slV hs[i]) rs[i]
theorem Rs.non {w w' : World} {v : Value} {rs : List (List Cl)} (h : Rs w v rs) (hf : Fr Non w w') : Rs w' v rs := by
  obtain ⟨hs, h1, h2, h3⟩ := h
  exact ⟨hs, h1, h2.non hf, fun i a b => (h3 i a b).non hf⟩
theorem Rs.shape {w : World} {v : Value} {rs : List (List Cl)} (h : Rs w v rs) : ∃ A c, v = .slice A rs.length c := by
  obtain ⟨hs, h1, h2, _⟩ := h
  obtain ⟨A, c, e⟩ := h2.shape
  exact ⟨A, c, by rw [e, h1]⟩
theorem Rs.nil_ (w : World) : Rs w (.slice none 0 0) [] := ⟨[], rfl, Vs.nil_ w, fun i h => by cases h⟩
/-- the row at j -/
theorem Rs.el {w : World} {A : Option Addr} {n c : Nat} {rs : List (List Cl)} (h : Rs w (.slice A n c) rs) (j : Nat) (hj : j < rs.length) :
    ∃ a A' c', A = some a ∧ n = rs.length ∧ w.cell? (a.add j) = some (.slice A' rs[j].length c') ∧ Cs w (.slice A' rs[j].length c') rs[j] := by
  obtain ⟨hs, h1, h2, h3⟩ := h
  obtain ⟨A0, c0, he, _⟩ := h2
  have h2' : Vs slV w (.slice A n c) hs := ⟨A0, c0, he, by assumption⟩
  simp only [Value.slice.injEq] at he
  obtain ⟨rfl, rfl, rfl⟩ := he
  obtain ⟨a, rfl, _, _, hc⟩ := h2'.addr (by omega)
  have h4 := h3 j (by omega) hj
  obtain ⟨A', c', e⟩ := h4.shape
  have h5 := hc j (by omega)
  rw [e] at h4 h5
  exact ⟨a, A', c', rfl, h1, h5, h4⟩

/-- rows of the call's own, from block B on -/
def Ro (w : World) (B : Nat) (v : Value) (rs : List (List Cl)) : Prop := ∃ hs : List Sl, hs.length = rs.length ∧ Ow slV 59 w B v hs ∧ ∀ i (h : i < hs.length) (h2 : i < rs.length), Oc w B (slV hs[i]) rs[i]
theorem Ro.rs {w : World} {B : Nat} {v : Value} {rs : List (List Cl)} (h : Ro w B v rs) : Rs w v rs := by
  obtain ⟨hs, h1, h2, h3⟩ := h
  exact ⟨hs, h1, h2.vs, fun i a b => (h3 i a b).cs⟩
theorem Ro.non {w w' : World} {B : Nat} {v : Value} {rs : List (List Cl)} (h : Ro w B v rs) (hf : Fr Non w w') : Ro w' B v rs := by
  obtain ⟨hs, h1, h2, h3⟩ := h
  exact ⟨hs, h1, h2.non hf, fun i a b => (h3 i a b).non hf⟩
theorem Ro.mono {w : World} {B B' : Nat} {v : Value} {rs : List (List Cl)} (h : Ro w B v rs) (hB : B' ≤ B) : Ro w B' v rs := by
  obtain ⟨hs, h1, h2, h3⟩ := h
  exact ⟨hs, h1, h2.mono hB, fun i a b => (h3 i a b).mono hB⟩
theorem Ro.shape {w : World} {B : Nat} {v : Value} {rs : List (List Cl)} (h : Ro w B v rs) : ∃ A c, v = .slice A rs.length c := h.rs.shape
theorem ro_nil (w : World) (B : Nat) : Ro w B (.slice none 0 0) [] := ⟨[], rfl, ow_nil w B, fun i h => by cases h⟩
/-- made, all of them nil -/
theorem ro_made {w : World} {B n : Nat} {v : Value} (h : Ow slV 59 w B v (List.replicate n noSl)) : Ro w B v (List.replicate n []) := by
  refine ⟨_, by simp, h, fun i a b => ?_⟩
  simp only [List.getElem_replicate]
  exact oc_nil w B
theorem Ro.frozen {w : World} {B g n cap : Nat} {rs : List (List Cl)} (h : Ro w B (.slice (some ⟨g, 0, none⟩) n cap) rs) (hn : n = rs.length) (j : Nat) : w.frozen? ⟨g, j, none⟩ = false := by
  obtain ⟨hs, h1, h2, h3⟩ := h
  exact h2.frozen (by omega) j
theorem Ro.lt {w : World} {B : Nat} {v : Value} {rs : List (List Cl)} (h : Ro w B v rs) : ∀ k, v.ownBlock = some k → B ≤ k ∧ k < w.heap.size := by
  obtain ⟨hs, h1, h2, h3⟩ := h
  exact h2.lt
theorem oc_kind_ne {w : World} {B g : Nat} {v : Value} {l : List Cl} {cur : Array Value} {E : TypeId} (h : Oc w B v l) (hg : w.heap[g]? = some (.cells cur E (0, 0))) (hE : 54 ≠ E) : ∀ k, v.ownBlock = some k → k ≠ g := by
  rintro k hk rfl
  obtain ⟨c, h1⟩ := h.kind k hk
  rw [hg] at h1
  simp at h1
  exact hE h1.2.symm
theorem cell_ne_cells : 54 ≠ 59 := by decide
/-- a row stored -/
theorem Ro.put {w : World} {B g n cap : Nat} {rs : List (List Cl)} (h : Ro w B (.slice (some ⟨g, 0, none⟩) n cap) rs) (hn : n = rs.length) (j : Nat) {u : Value} {l : List Cl} (hu : Oc w B u l) :
    Ro (w.setCell ⟨g, j, none⟩ u) B (.slice (some ⟨g, 0, none⟩) n cap) (rs.set j l) := by
  obtain ⟨hs, h1, h2, h3⟩ := h
  obtain ⟨A, c, rfl⟩ := hu.shape
  obtain ⟨cur, hg⟩ := h2.kind g rfl
  have hf : Fr (One g) w (w.setCell ⟨g, j, none⟩ (.slice A l.length c)) := (Fr.refl _ _).set1 j _
  refine ⟨hs.set j ⟨A, l.length, c⟩, by simp [h1], h2.store (by omega) j ⟨A, l.length, c⟩, fun i a b => ?_⟩
  simp only [List.getElem_set]
  split
  · exact hu.fr hf (oc_kind_ne hu hg cell_ne_cells)
  · have h4 := h3 i (by simpa using a) (by simpa using b)
    exact h4.fr hf (oc_kind_ne h4 hg cell_ne_cells)
/-- the row at j, of the call's own -/
theorem Ro.el {w : World} {B g n cap : Nat} {rs : List (List Cl)} (h : Ro w B (.slice (some ⟨g, 0, none⟩) n cap) rs) (hn : n = rs.length) (j : Nat) (hj : j < rs.length) :
    ∃ A' c', w.cell? ⟨g, j, none⟩ = some (.slice A' rs[j].length c') ∧ Cs w (.slice A' rs[j].length c') rs[j] := by
  obtain ⟨hs, h1, h2, h3⟩ := h
  have h4 := (h3 j (by omega) hj).cs
  obtain ⟨A', c', e⟩ := h4.shape
  have h5 := h2.cell (by omega) j hs[j] (List.getElem?_eq_getElem (by omega))
  rw [e] at h4 h5
  exact ⟨A', c', h5, h4⟩

/-! ### Rows whose blocks are apart, to be appended to in their places -/
/-- the slices' blocks are apart -/
def Apart (hs : List Sl) : Prop := ∀ i j (hi : i < hs.length) (hj : j < hs.length), i ≠ j → ∀ k, (slV hs[i]).ownBlock = some k → (slV hs[j]).ownBlock ≠ some k
def Rq (w : World) (B : Nat) (v : Value) (rs : List (List Cl)) : Prop := ∃ hs : List Sl, hs.length = rs.length ∧ Ow slV 59 w B v hs ∧ (∀ i (h : i < hs.length) (h2 : i < rs.length), Oc w B (slV hs[i]) rs[i]) ∧ Apart hs
theorem Rq.non {w w' : World} {B : Nat} {v : Value} {rs : List (List Cl)} (h : Rq w B v rs) (hf : Fr Non w w') : Rq w' B v rs := by
  obtain ⟨hs, h1, h2, h3, h4⟩ := h
  exact ⟨hs, h1, h2.non hf, fun i a b => (h3 i a b).non hf, h4⟩
/-- the row at j, and what is left when another one, in the same block or in a new one, is stored in its place -/
theorem Rq.el {w : World} {B g n cap : Nat} {rs : List (List Cl)} (h : Rq w B (.slice (some ⟨g, 0, none⟩) n cap) rs) (hn : n = rs.length) (j : Nat) (hj : j < rs.length) :
    ∃ A' c', w.cell? ⟨g, j, none⟩ = some (.slice A' rs[j].length c') ∧ Oc w B (.slice A' rs[j].length c') rs[j] ∧
      ∀ (w1 w2 : World) (u : Value) (l : List Cl), Fr Non w w1 → Fr (fun k => (Value.slice A' rs[j].length c').ownBlock = some k) w1 w2 → Oc w2 B u l → (u.ownBlock = (Value.slice A' rs[j].length c').ownBlock ∨ ∀ k, u.ownBlock = some k → w1.heap.size ≤ k) →
        w2.frozen? ⟨g, j, none⟩ = false ∧ g < w2.heap.size ∧ Rq (w2.setCell ⟨g, j, none⟩ u) B (.slice (some ⟨g, 0, none⟩) n cap) (rs.set j l) := by
  obtain ⟨hs, h1, h2, h3, h4⟩ := h
  have hj' : j < hs.length := by omega
  have h5 := h3 j hj' hj
  obtain ⟨A', c', e⟩ := h5.shape
  have h6 := h2.cell (by omega) j hs[j] (List.getElem?_eq_getElem hj')
  have hown : (slV hs[j]).ownBlock = (Value.slice A' rs[j].length c').ownBlock := by rw [e]
  refine ⟨A', c', by rw [h6, e], by rw [← e]; exact h5, fun w1 w2 u l f1 f2 hu hblk => ?_⟩
  obtain ⟨cur0, hg0⟩ := h2.kind g rfl
  have hng : ∀ k, (Value.slice A' rs[j].length c').ownBlock = some k → k ≠ g := by rw [← e]; exact oc_kind_ne h5 hg0 cell_ne_cells
  have o1 := h2.non f1
  have o2 : Ow slV 59 w2 B (.slice (some ⟨g, 0, none⟩) n cap) hs := o1.fr f2 (fun k hk e2 => hng k e2 (by simpa [Value.ownBlock] using hk.symm))
  obtain ⟨cur, hg⟩ := o2.kind g rfl
  obtain ⟨A, c, rfl⟩ := hu.shape
  have hf : Fr (One g) w2 (w2.setCell ⟨g, j, none⟩ (.slice A l.length c)) := (Fr.refl _ _).set1 j _
  refine ⟨o2.frozen (by omega) j, (o2.lt g rfl).2, hs.set j ⟨A, l.length, c⟩, by simp [h1], o2.store (by omega) j ⟨A, l.length, c⟩, fun i a b => ?_, fun i i' hi hi' hne k hk hk' => ?_⟩
  · simp only [List.getElem_set]
    split
    · exact hu.fr hf (oc_kind_ne hu hg cell_ne_cells)
    · rename_i hne
      have a' : i < hs.length := by simpa using a
      have h7 := (h3 i a' (by simpa using b)).non f1
      have h8 := h7.fr f2 (fun k hk e2 => h4 i j a' hj' (fun e => hne e.symm) k hk (by rw [hown]; exact e2))
      exact h8.fr hf (oc_kind_ne h8 hg cell_ne_cells)
  · simp only [List.length_set] at hi hi'
    simp only [List.getElem_set] at hk hk'
    have old : ∀ i (hi : i < hs.length), i ≠ j → ∀ k, (slV hs[i]).ownBlock = some k → (slV (⟨A, l.length, c⟩ : Sl)).ownBlock ≠ some k := by
      intro i hi hne k hk hk'
      have hk2 : (Value.slice A l.length c).ownBlock = some k := hk'
      rcases hblk with hb | hb
      · rw [hb] at hk2
        exact h4 i j hi hj' hne k hk (by rw [hown]; exact hk2)
      · have h9 := hb k hk2
        have h10 := ((h3 i hi (by omega)).lt k hk).2
        have := f1.size
        omega
    by_cases e1 : j = i
    · rw [if_pos e1] at hk
      rw [if_neg (fun e2 => hne (by omega))] at hk'
      exact old i' hi' (by omega) k hk' hk
    · rw [if_neg e1] at hk
      by_cases e2 : j = i'
      · rw [if_pos e2] at hk'
        exact old i hi (by omega) k hk hk'
      · rw [if_neg e2] at hk'
        exact h4 i i' hi hi' hne k hk hk'

end Go.Proofs.YtheefloegbkflaaGreatDoor


namespace Go.Proofs.YtheefloegbkflaaGreatDoor
set_option linter.unusedVariables false
set_option linter.unusedSimpArgs false
set_option maxRecDepth 100000
open Go.RowKit

/-- a row of slices, from the head of block g on, that read as the lists ls -/
def Parts (w : World) (g : Nat) (xs : List Value) (ls : List (List UInt8)) : Prop :=
  xs.length = ls.length ∧ ∀ j x l, xs[j]? = some x → ls[j]? = some l → w.cell? ⟨g, j, none⟩ = some x ∧ Bs w x l
theorem Parts.non {w w' : World} {g : Nat} {xs : List Value} {ls : List (List UInt8)} (h : Parts w g xs ls) (hf : Fr Non w w') : Parts w' g xs ls :=
  ⟨h.1, fun j x l hx hl => by
    obtain ⟨h1, h2⟩ := h.2 j x l hx hl
    exact ⟨(hf.cell (p := ⟨g, j, none⟩) (World.block_lt_of_cell? w _ h1) (fun e => e)).trans h1, h2.non hf⟩⟩
theorem Parts.two {w : World} {t : TypeId} {x y : Value} {l m : List UInt8} (hx : Bs w x l) (hy : Bs w y m) : Parts (w.alloc (.cells #[x, y] t)) w.heap.size [x, y] [l, m] := by
  refine ⟨rfl, fun j u k hu hk => ?_⟩
  have hb := Blk.new w t #[x, y]
  have hf : Fr Non w (w.alloc (.cells #[x, y] t)) := (Fr.refl _ _).alloc _
  match j with
  | 0 =>
    obtain rfl : x = u := by simpa using hu
    obtain rfl : l = k := by simpa using hk
    exact ⟨hb.cell 0, hx.non hf⟩
  | 1 =>
    obtain rfl : y = u := by simpa using hu
    obtain rfl : m = k := by simpa using hk
    exact ⟨hb.cell 1, hy.non hf⟩
  | j + 2 => simp at hu

theorem flat_snoc (ls : List (List UInt8)) (k : Nat) (h : k < ls.length) : (ls.take (k + 1)).flatten = (ls.take k).flatten ++ ls[k] := by
  rw [List.take_succ_eq_append_getElem h, List.flatten_append]; simp only [List.flatten_cons, List.flatten_nil, List.append_nil]
theorem flat_le (ls : List (List UInt8)) (k : Nat) : (ls.take k).flatten.length ≤ ls.flatten.length := by
  conv => rhs; rw [← List.take_append_drop k ls, List.flatten_append, List.length_append]
  omega

set_option maxHeartbeats 1000000 in
theorem join_any (g n c : Nat) (xs : List Value) (ls : List (List UInt8)) (w : World) (hn : ls.length = n) (hn2 : n < 1000) (hp : Parts w g xs ls) (hb : ls.flatten.length < 1099511627776) :
    Calls Tryz.prog 167 #[.slice (some ⟨g, 0, none⟩) n c] w fun e w' => ∃ v, e = .returned v ∧ Own w' w.heap.size v ls.flatten ∧ Fr Non w w' := by
  have Hb := Lib.hid hb; clear hb
  go_enter Tryz.func167, Tryz.ntmps167
  go_wp2
  go_loop [3, 11] (fun s i => ∃ k : Nat, k ≤ n ∧ i = .int .i64 k ∧ s = .int .i64 (ls.take k).flatten.length) (fun _ i => n - (intOf i).toNat)
  case atStart => exact ⟨0, Nat.zero_le _, rfl, rfl⟩
  case round =>
    obtain ⟨k, hk, rfl, rfl⟩ := hrel
    have hle := flat_le ls k
    have hb1 : (ls.take k).flatten.length < 1099511627776 := by have := Hb.out; omega
    by_cases hlt : k < n
    · have hkl : k < ls.length := by omega
      have hkx : k < xs.length := by rw [hp.1]; omega
      obtain ⟨hcell, hbs⟩ := hp.2 k xs[k] ls[k] (by simp [hkx]) (by simp [hkl])
      have hsn := flat_snoc ls k hkl
      have hle2 := flat_le ls (k + 1)
      have hb2 : (ls.take k).flatten.length + ls[k].length < 1099511627776 := by rw [hsn, List.length_append] at hle2; have := Hb.out; omega
      have HS := Lib.hid hsn
      clear hsn hle hle2
      generalize ls[k] = l at *
      generalize hx : xs[k] = x at *
      clear hx
      obtain ⟨A, d, rfl⟩ := hbs.shape
      generalize (ls.take k).flatten = F at *
      clear hbs
      go_wp2
      go_round
      case rel => exact ⟨k + 1, by omega, by go_num, by rw [HS.out, List.length_append]; go_num⟩
      case measure => simp [intOf]; omega
    · have hkn : k = n := by omega
      have hT : ls.take k = ls := List.take_of_length_le (by omega)
      rw [hT] at hb1 ⊢
      have HL := Lib.hid hn
      clear hle hT hkn hn
      generalize hF : ls.flatten.length = F at *
      have HF := Lib.hid hF; clear hF
      go_wp2_with (at_make; refine wpList_mkbytes rfl _ _ rfl _ _ _ F rfl rfl rfl (by omega) ?_; intro v1 w1 hown1 hfr1)
      have hp1 := hp.non hfr1
      go_loopw [6, 24] (fun v i wr => ∃ k : Nat, k ≤ n ∧ i = .int .i64 k ∧ Own wr w.heap.size v (ls.take k).flatten ∧ Fr Non w wr) (fun _ i _ => n - (intOf i).toNat)
      case atStart => exact ⟨0, Nat.zero_le _, rfl, hown1, hfr1⟩
      case round =>
        obtain ⟨j, hj, rfl, hown, hfr⟩ := hrel
        have hB := hfr.size
        have hle := flat_le ls j
        by_cases hlt : j < n
        · have hkl : j < ls.length := by rw [HL.out]; exact hlt
          have hkx : j < xs.length := by rw [hp.1]; exact hkl
          obtain ⟨hcell, hbs⟩ := (hp.non hfr).2 j xs[j] ls[j] (by simp [hkx]) (by simp [hkl])
          have hsn := flat_snoc ls j hkl
          have hle2 := flat_le ls (j + 1)
          have hb2 : (ls.take j).flatten.length + ls[j].length < 140737488355328 := by rw [hsn, List.length_append] at hle2; have := HF.out; omega
          have HS := Lib.hid hsn
          clear hsn hle hle2 hp1 hp
          generalize ls[j] = l at *
          generalize hx : xs[j] = x at *
          clear hx
          generalize (ls.take j).flatten = G at *
          go_wp2_with (at_builtin; refine wpList_app rfl (.tmp 28) (.tmp 29) rfl w.heap.size u6 x G l rfl hown rfl hbs hb2 hB ?_; intro v' w' hown' hfr')
          go_roundw
          case rel => exact ⟨j + 1, by omega, by go_num, by rw [HS.out]; exact hown', hfr.fresh hfr' fun k hk => (hown.lt k hk).1⟩
          case measure => simp [intOf]; omega
        · have hT : ls.take j = ls := List.take_of_length_le (by rw [HL.out]; omega)
          rw [hT] at hown
          clear hT hle hp1 hp
          go_wp2
          go_ret
          exact ⟨_, rfl, hown, hfr⟩

/-- a text's bytes -/
def textB (l : List UInt8) : List UInt8 := Lib.uvarint l.length ++ l

theorem Own.shape {w : World} {B : Nat} {v : Value} {l : List UInt8} (h : Own w B v l) : ∃ A c, v = .slice A l.length c := h.bs.shape

set_option maxHeartbeats 400000 in
theorem vtext_any (l : List UInt8) (w : World) (hl : l.length < 1048576) :
    Calls Tryz.prog 116 #[.string ⟨l.toArray⟩] w fun e w' => ∃ v, e = .returned v ∧ Own w' w.heap.size v (textB l) ∧ Fr Non w w' := by
  have Hn := Lib.hid (show l.length < two64 by unfold two64; omega)
  have hs : ByteArray.size ⟨l.toArray⟩ = l.length := by simp [ByteArray.size]
  go_enter Tryz.func116, Tryz.ntmps116
  go_wp2_with fail
  refine (vnum_any l.length w Hn.out).mono ?_
  rintro e w1 ⟨v1, rfl, hown1, hfr1⟩
  obtain ⟨A1, c1, rfl⟩ := hown1.shape
  go_wp2_with (refine wpList_strbytes rfl _ rfl l rfl ?_; intro v2 w2 hbs2 hfr2 hnew2; obtain ⟨A2, c2, rfl⟩ := hbs2.shape)
  refine (join_any w2.heap.size 2 2 [.slice A1 (Lib.uvarint l.length).length c1, .slice A2 l.length c2] [Lib.uvarint l.length, l] _ rfl (by omega) (Parts.two (hown1.bs.non hfr2) hbs2) ?_).mono ?_
  · have := Lib.uvarint_length64 Hn.out
    simp; omega
  · rintro e w3 ⟨v3, rfl, hown3, hfr3⟩
    go_wp2
    go_ret
    refine ⟨v3, rfl, ?_, ((hfr1.then hfr2).alloc _).then hfr3⟩
    have h := hown3.mono (B' := w.heap.size) (by have := hfr1.size; have := hfr2.size; simp; omega)
    simpa [textB] using h

set_option maxHeartbeats 400000 in
theorem rtext_any (l : List UInt8) (w : World) (hl : l.length < 1048576) :
    Calls Tryz.prog 127 #[.string ⟨l.toArray⟩] w fun e w' => ∃ v, e = .returned v ∧ Own w' w.heap.size v (textB l) ∧ Fr Non w w' := by
  have Hn := Lib.hid (show l.length < two64 by unfold two64; omega)
  have hs : ByteArray.size ⟨l.toArray⟩ = l.length := by simp [ByteArray.size]
  go_enter Tryz.func127, Tryz.ntmps127
  go_wp2_with fail
  refine (rnum_any l.length w Hn.out).mono ?_
  rintro e w1 ⟨v1, rfl, hown1, hfr1⟩
  have hl10 := Lib.uvarint_length64 Hn.out
  have hB := hfr1.size
  go_wp2_with (at_builtin; refine wpList_appstr rfl (.tmp 6) (.tmp 7) rfl w.heap.size v1 _ l rfl hown1 rfl (by omega) hB ?_; intro v2 w2 hown2 hfr2)
  go_ret
  exact ⟨v2, rfl, hown2, hfr1.fresh hfr2 fun k hk => (hown1.lt k hk).1⟩

end Go.Proofs.YtheefloegbkflaaGreatDoor
