/-
  Joined: Words of our own on memory, for all texts of this seat: what changed between two worlds (Fr), a known block (Blk), bytes that a slice reads as (Bs), bytes in a row of the call's own (Own), and the steps append and convert over them. · Layer 1 as plain functions on lists of bytes: what a number's bytes are (the library's 'uvarint'), which number bytes begin with (rd), and that each is the other's back. Nothing of the program. · Layer 1, what is written: contracts of the functions that make bytes of numbers and texts, the program's own and the document's. · Layer 1, what is written, texts: contracts of join and Text, the program's own and the document's. · Layer 1, what is read: contracts of Source's methods. · Layer 1, what is read: contracts of Source's methods. · Layer 1, what is read: contracts of Source's Int, Below, Text, Take. · Layer 2's plain mathematics: the sum of bytes, bit by bit; four bits at once by a table; a difference is carried on and never dies. No program is named here. · Layer 3 in plain numbers and lists: a frame's bytes; what a frame's head says; what is got; what is told of a changed body; all frames one behind the other. · Truths as bits, plain: bytes of truths, truths of bytes. · Layer 1, what is read: contracts of the document's own source, S. · Layer 1, what is read: contracts of the document's own source: Int, Below, Take, Text, End. · What is read: its length, a number's own bytes; a list's beginning filled. · Layer 9: a cell as a value; which cells there may be, both programs'. · Layer 14, mathematics: which rows are gone as bytes, and read again; more rows gone; the rows that are left.
-/
import Derived.Lib.Zigzag
import Derived.Laws.Rows
import Derived.Laws.ResultCell
import Derived.BigFrame
import Derived.Deep.RegionWith
import Derived.Deep.RegionHeld3
import Derived.Deep.QuietTactic
import Derived.Deep.Slices
import Derived.Test.YtdofgniemkahnaaDoorProg
import Derived.WalkKit
import Derived.WalkSpells
import Derived.Deep.AppendSrc
import Derived.Maps.AppendAt
import Derived.Lib.Hide
import Derived.Deep.Draws
import Derived.Lib.AppendStr
import Derived.Lib.Varint
import Derived.Laws.StructEq

namespace Go.Proofs.YtdofgniemkahnaaDoor
set_option linter.unusedVariables false
set_option linter.unusedSimpArgs false
set_option maxRecDepth 100000
open Go.RowKit

/-! ### What changed: of the blocks that were there, at most those of S -/
structure Fr (S : Nat → Prop) (w w' : World) : Prop where
  os : w'.os = w.os
  tape : w'.tape = w.tape
  output : w'.output = w.output
  size : w.heap.size ≤ w'.heap.size
  block : ∀ k, k < w.heap.size → ¬ S k → w'.heap[k]? = w.heap[k]?

/-- nothing -/
def Non : Nat → Prop := fun _ => False
/-- one block -/
def One (g : Nat) : Nat → Prop := fun k => k = g

theorem Fr.refl (S : Nat → Prop) (w : World) : Fr S w w := ⟨rfl, rfl, rfl, Nat.le_refl _, fun _ _ _ => rfl⟩
theorem Fr.join {S S' : Nat → Prop} {w w1 w2 : World} (h : Fr S w w1) (h' : Fr S' w1 w2) (hs : ∀ k, k < w.heap.size → S' k → S k) : Fr S w w2 :=
  ⟨h'.os.trans h.os, h'.tape.trans h.tape, h'.output.trans h.output, Nat.le_trans h.size h'.size,
    fun k hk hn => (h'.block k (Nat.lt_of_lt_of_le hk h.size) (fun e => hn (hs k hk e))).trans (h.block k hk hn)⟩
theorem Fr.trans {S : Nat → Prop} {w w1 w2 : World} (h : Fr S w w1) (h' : Fr S w1 w2) : Fr S w w2 := h.join h' fun _ _ e => e
theorem Fr.then {S : Nat → Prop} {w w1 w2 : World} (h : Fr S w w1) (h' : Fr Non w1 w2) : Fr S w w2 := h.join h' fun _ _ e => e.elim
theorem Fr.mono {S S' : Nat → Prop} {w w' : World} (h : Fr S w w') (hs : ∀ k, k < w.heap.size → S k → S' k) : Fr S' w w' :=
  ⟨h.os, h.tape, h.output, h.size, fun k hk hn => h.block k hk fun e => hn (hs k hk e)⟩
theorem Fr.any {S : Nat → Prop} {w w' : World} (h : Fr Non w w') : Fr S w w' := h.mono fun _ _ e => e.elim
theorem Fr.fresh {S S' : Nat → Prop} {w w1 w2 : World} (h : Fr S w w1) (h' : Fr S' w1 w2) (hs : ∀ k, S' k → w.heap.size ≤ k) : Fr S w w2 :=
  h.join h' fun k hk e => absurd (hs k e) (by omega)
theorem Fr.drew {S : Nat → Prop} {w w' : World} (h : Fr S w w') : Fr S w w'.drew := ⟨h.os, h.tape, h.output, h.size, h.block⟩
theorem Fr.drewN {S : Nat → Prop} {w w' : World} (h : Fr S w w') (n : Nat) : Fr S w (w'.drewN n) := ⟨h.os, h.tape, h.output, h.size, h.block⟩
theorem Fr.alloc {S : Nat → Prop} {w w' : World} (h : Fr S w w') (o : Obj) : Fr S w (w'.alloc o) :=
  h.then ⟨rfl, rfl, rfl, by simp, fun k hk _ => Below.heap_alloc _ _ _ hk⟩
theorem Fr.setCell {S : Nat → Prop} {w w' : World} (h : Fr S w w') {p : Addr} (hp : p.block < w.heap.size → S p.block) (u : Value) : Fr S w (w'.setCell p u) :=
  ⟨h.os, h.tape, h.output, by simpa [World.setCell] using h.size, fun k hk hn => (Below.heap_setCell w' p u k (fun e => hn (by subst e; exact hp hk))).trans (h.block k hk hn)⟩
theorem Fr.set1 {g : Nat} {w w' : World} (h : Fr (One g) w w') (i : Nat) (u : Value) : Fr (One g) w (w'.setCell ⟨g, i, none⟩ u) := h.setCell (p := ⟨g, i, none⟩) (fun _ => rfl) u
theorem Fr.below {w w' : World} (h : Fr Non w w') : Below w.heap.size w w' := ⟨h.os, h.tape, h.output, h.size, fun k hk => h.block k hk fun e => e⟩
theorem Fr.of_grown {w w' : World} {row : Option Nat} (h : w.grownBy w' row) : Fr (fun k => row = some k) w w' :=
  ⟨h.os, h.tape, h.output, h.size, fun k hk hn => h.block k hk (fun e => hn e.symm)⟩
theorem Fr.cell {S : Nat → Prop} {w w' : World} (h : Fr S w w') {p : Addr} (hp : p.block < w.heap.size) (hn : ¬ S p.block) : w'.cell? p = w.cell? p := World.cell?_of_block (h.block _ hp hn)

theorem ret_int {k : IntKind} {a b : Int} (h : a = b) : Ending.returned (.int k a) = .returned (.int k b) := by rw [h]

/-! ### A block that is known whole -/
def Blk (w : World) (g : Nat) (t : TypeId) (cs : Array Value) : Prop := w.heap[g]? = some (.cells cs t (0, 0))
theorem Blk.lt {w : World} {g : Nat} {t : TypeId} {cs : Array Value} (h : Blk w g t cs) : g < w.heap.size := (Array.getElem?_eq_some_iff.1 h).1
theorem Blk.cell {w : World} {g : Nat} {t : TypeId} {cs : Array Value} (h : Blk w g t cs) (i : Nat) : w.cell? ⟨g, i, none⟩ = cs[i]? := cell_of_row w g i cs t (0, 0) h
theorem Blk.frozen {w : World} {g : Nat} {t : TypeId} {cs : Array Value} (h : Blk w g t cs) (i : Nat) : w.frozen? ⟨g, i, none⟩ = false := by
  unfold Blk at h; simp [World.frozen?, h]
theorem Blk.new (w : World) (t : TypeId) (cs : Array Value) : Blk (w.alloc (.cells cs t)) w.heap.size t cs := heap_alloc_new w _
theorem Blk.fr {S : Nat → Prop} {w w' : World} {g : Nat} {t : TypeId} {cs : Array Value} (h : Blk w g t cs) (hf : Fr S w w') (hn : ¬ S g) : Blk w' g t cs := (hf.block g h.lt hn).trans h
theorem Blk.set {w : World} {g : Nat} {t : TypeId} {cs : Array Value} (h : Blk w g t cs) (i : Nat) (u : Value) : Blk (w.setCell ⟨g, i, none⟩ u) g t (cs.setIfInBounds i u) := by
  unfold Blk at h ⊢; simp [World.setCell, Array.getElem?_modify, h]
theorem Blk.drew {w : World} {g : Nat} {t : TypeId} {cs : Array Value} (h : Blk w g t cs) : Blk w.drew g t cs := h
theorem cell_new1 (w : World) (v : Value) (t : TypeId) : (w.alloc (.cells #[v] t)).cell? ⟨w.heap.size, 0, none⟩ = some v := (Blk.new w t #[v]).cell 0

/-! ### Bytes -/
def bv (b : UInt8) : Value := .int .u8 b.toNat
theorem bv_one (l : List UInt8) : ∀ u ∈ l.map bv, u.oneCell' = true := by
  intro u hu; obtain ⟨b, _, rfl⟩ := List.mem_map.1 hu; rfl
theorem info_u8 : (Tryd.prog.info? 5).map (fun i => (i.zero, i.size, i.bytes)) = some (some (.int .u8 0), 1, 1) := by kernel_rfl

theorem add_block (a : Addr) (n : Nat) : (a.add n).block = a.block := by unfold Addr.add; split <;> rfl
theorem add_add (a : Addr) (i j : Nat) : (a.add i).add j = a.add (i + j) := by
  unfold Addr.add
  by_cases hi : i = 0 <;> by_cases hj : j = 0 <;> simp [hi, hj, Nat.add_assoc]

/-- the slice v reads as the bytes l -/
def Bs (w : World) (v : Value) (l : List UInt8) : Prop :=
  ∃ A c, v = .slice A l.length c ∧ l.length ≤ c ∧ (A = none → c = 0) ∧ ∀ a, A = some a → ∀ j (h : j < l.length), w.cell? (a.add j) = some (bv l[j])

theorem Bs.nil_ (w : World) : Bs w (.slice none 0 0) [] := ⟨none, 0, rfl, Nat.le_refl _, fun _ => rfl, fun _ h => by cases h⟩
theorem Bs.keep {w w' : World} {v : Value} {l : List UInt8} (h : Bs w v l) (hk : ∀ k, v.ownBlock = some k → k < w.heap.size → w'.heap[k]? = w.heap[k]?) : Bs w' v l := by
  obtain ⟨A, c, rfl, h1, h2, h3⟩ := h
  refine ⟨A, c, rfl, h1, h2, fun a ha j hj => ?_⟩
  have := h3 a ha j hj
  subst ha
  have hb := World.block_lt_of_cell? w _ this
  rw [add_block] at hb
  rw [← this]
  exact World.cell?_of_block (by rw [add_block]; exact hk _ rfl hb)
theorem Bs.fr {S : Nat → Prop} {w w' : World} {v : Value} {l : List UInt8} (h : Bs w v l) (hf : Fr S w w') (hn : ∀ k, v.ownBlock = some k → ¬ S k) : Bs w' v l :=
  h.keep fun k hk hlt => hf.block k hlt (hn k hk)
theorem Bs.non {w w' : World} {v : Value} {l : List UInt8} (h : Bs w v l) (hf : Fr Non w w') : Bs w' v l := h.fr hf fun _ _ e => e
theorem Bs.drew {w : World} {v : Value} {l : List UInt8} (h : Bs w v l) : Bs w.drew v l := h
theorem Bs.shape {w : World} {v : Value} {l : List UInt8} (h : Bs w v l) : ∃ A c, v = .slice A l.length c := by
  obtain ⟨A, c, rfl, _⟩ := h; exact ⟨A, c, rfl⟩

theorem run_conv_Bs {P : Program} {w : World} {v : Value} {l : List UInt8} (h : Bs w v l) (src dst e : TypeId) (hs : P.underlying src = some (.slice e)) (he : P.underlying e = some (.int .u8)) (hd : P.underlying dst = some .string) :
    (convert src dst v).run P w = .ok (.string ⟨l.toArray⟩) w := by
  obtain ⟨A, c, rfl, hlc, hn, hc⟩ := h
  cases A with
  | none =>
    have := hn rfl
    have hl : l = [] := List.eq_nil_of_length_eq_zero (by omega)
    subst hl
    rw [run_convert_bytes_nil w src e hs he _ _ dst hd]; rfl
  | some a => exact run_convert_bytes_back w src dst e a c l hs he hd (hc a rfl)

/-- bytes that the call owns: a row of its own, from block B on -/
def Own (w : World) (B : Nat) (v : Value) (l : List UInt8) : Prop := w.ownsRow B 5 1 v l.length (l.map bv)
theorem own_nil (w : World) (B : Nat) : Own w B (.slice none 0 0) [] := ⟨by simp, .inl ⟨rfl, rfl⟩⟩
theorem Own.lt {w : World} {B : Nat} {v : Value} {l : List UInt8} (h : Own w B v l) : ∀ k, v.ownBlock = some k → B ≤ k ∧ k < w.heap.size := World.ownsRow.lt h
theorem Own.bs {w : World} {B : Nat} {v : Value} {l : List UInt8} (h : Own w B v l) : Bs w v l := by
  rcases h.2 with ⟨rfl, h0⟩ | ⟨g, cap, cur, rfl, _, _, hle, _, _, _⟩
  · have hl : l = [] := List.eq_nil_of_length_eq_zero h0
    subst hl; exact Bs.nil_ w
  · refine ⟨_, cap, rfl, hle, (fun h => by cases h), fun a ha j hj => ?_⟩
    cases ha
    exact World.ownsRow.cells h (g := g) rfl j _ (by simp [hj])
theorem Own.keep {w w' : World} {B : Nat} {v : Value} {l : List UInt8} (h : Own w B v l) (hk : ∀ k, v.ownBlock = some k → w'.heap[k]? = w.heap[k]?) : Own w' B v l := by
  refine ⟨h.1, ?_⟩
  rcases h.2 with h2 | ⟨g, cap, cur, hv, hb, hg, r⟩
  · exact .inl h2
  · exact .inr ⟨g, cap, cur, hv, hb, by rw [hk g (by rw [hv]; rfl)]; exact hg, r⟩
theorem Own.fr {S : Nat → Prop} {w w' : World} {B : Nat} {v : Value} {l : List UInt8} (h : Own w B v l) (hf : Fr S w w') (hn : ∀ k, v.ownBlock = some k → ¬ S k) : Own w' B v l :=
  h.keep fun k hk => hf.block k (h.lt k hk).2 (hn k hk)
theorem Own.non {w w' : World} {B : Nat} {v : Value} {l : List UInt8} (h : Own w B v l) (hf : Fr Non w w') : Own w' B v l := h.fr hf fun _ _ e => e
theorem Own.alloc {w : World} {B : Nat} {v : Value} {l : List UInt8} (h : Own w B v l) (o : Obj) : Own (w.alloc o) B v l := h.non ((Fr.refl _ _).alloc o)
theorem Own.mono {w : World} {B B' : Nat} {v : Value} {l : List UInt8} (h : Own w B v l) (hB : B' ≤ B) : Own w B' v l := by
  refine ⟨h.1, ?_⟩
  rcases h.2 with h2 | ⟨g, cap, cur, hv, hb, r⟩
  · exact .inl h2
  · exact .inr ⟨g, cap, cur, hv, by omega, r⟩

theorem Own.row {w : World} {B : Nat} {v : Value} {l : List UInt8} (h : Own w B v l) (hn : l ≠ []) : ∃ g cap, v = .slice (some ⟨g, 0, none⟩) l.length cap ∧ B ≤ g ∧ g < w.heap.size ∧ l.length ≤ cap ∧ cap ≤ maxLen := by
  rcases h.2 with ⟨rfl, h0⟩ | ⟨g, cap, cur, rfl, hb, hg, hle, hm, _⟩
  · exact absurd (List.eq_nil_of_length_eq_zero h0) hn
  · exact ⟨g, cap, rfl, hb, (Array.getElem?_eq_some_iff.1 hg).1, hle, hm⟩
theorem Own.store {w : World} {B g n cap : Nat} {l : List UInt8} (h : Own w B (.slice (some ⟨g, 0, none⟩) n cap) l) (hn : n = l.length) (j : Nat) (b : UInt8) : Own (w.setCell ⟨g, j, none⟩ (bv b)) B (.slice (some ⟨g, 0, none⟩) n cap) (l.set j b) := by
  subst hn
  have := (World.ownsRow.stored h j (bv b)).1
  unfold Own
  rw [List.length_set, List.map_set]
  exact this
theorem Own.cell {w : World} {B g n cap : Nat} {l : List UInt8} (h : Own w B (.slice (some ⟨g, 0, none⟩) n cap) l) (hn : n = l.length) (j : Nat) (b : UInt8) (hb : l[j]? = some b) : w.cell? ⟨g, j, none⟩ = some (.int .u8 b.toNat) := by
  subst hn
  have hj : j < l.length := (List.getElem?_eq_some_iff.1 hb).1
  rw [World.ownsRow.cellAt h j (by omega), List.getElem?_map, hb]; rfl
theorem Own.frozen {w : World} {B g n cap : Nat} {l : List UInt8} (h : Own w B (.slice (some ⟨g, 0, none⟩) n cap) l) (hn : n = l.length) (j : Nat) : w.frozen? ⟨g, j, none⟩ = false := by
  subst hn; exact World.ownsRow.frozenAt h j
theorem own_lit0 (w : World) (B g : Nat) (hg : g = w.heap.size) (hB : B ≤ g) : Own (w.alloc (.cells #[] 5)) B (.slice (some ⟨g, 0, none⟩) 0 0) [] := by
  subst hg
  exact World.ownsRow_lit w #[] 0 hB (by unfold maxLen; omega) rfl
theorem Own.drew {w : World} {B : Nat} {v : Value} {l : List UInt8} (h : Own w B v l) : Own w.drew B v l := h

/-- append of bytes onto bytes of the call's own, out of a slice -/
theorem wp_app {w : World} {o : Oper} {a : Act} {K : Act → World → Prop} {Q : Exit → Act → World → Prop} (s x : Operand)
    (ho : o.op = .call { callee := .builtin .append, args := #[s, x], argTypes := #[24, 24] })
    (B : Nat) (v y : Value) (l m : List UInt8) (hs : a.eval s = v) (hown : Own w B v l) (hx : a.eval x = y) (hy : Bs w y m)
    (hl : l.length + m.length < 140737488355328) (hB : B ≤ w.heap.size)
    (h : ∀ v' w', Own w' B v' (l ++ m) → Fr (fun k => v.ownBlock = some k) w w' → K (a.put o.dst v') w') : o.wp Tryd.prog a w K Q := by
  obtain ⟨i, hi, hz0, hz1, hz2⟩ := info_parts info_u8
  obtain ⟨A, c, rfl, hmc, hn, hcells⟩ := hy
  cases A with
  | some ad =>
    refine wp_append_own w s x 24 ho B 5 i _ 1 1 Tryd.underlying24 hi hz0 hz1 hz2 rfl (by omega) v l.length (l.map bv) hs hown ad m.length c (m.map bv) hx (by simp) ?_ (bv_one m) (by unfold maxLen; omega) (by omega) hB ?_
    · intro j u hu
      have hj : j < m.length := by simpa using (List.getElem?_eq_some_iff.1 hu).1
      rw [hcells ad rfl j hj]
      simpa [hj] using hu
    · intro v' w' h1 h2 _
      refine h v' w' ?_ (Fr.of_grown h2)
      unfold Own; simpa using h1
  | none =>
    have hm : m = [] := List.eq_nil_of_length_eq_zero (by have := hn rfl; omega)
    subst hm
    have hc : c = 0 := hn rfl
    subst hc
    have hrun := run_append_owned_none (P := Tryd.prog) (w := w) B 24 o.type 5 i 1 Tryd.underlying24 hi v l.length (l.map bv) hown
    unfold Oper.wp
    have hx' : a.eval x = .slice none 0 0 := hx
    simp [execOp, ho, resolve, invoke, builtin, hs, hx', hrun, Result.andThen]
    exact h v w (by simpa using hown) (Fr.refl _ _)

theorem wpList_app {w : World} {ops : Array Oper} {rest : List Oper} {o : Oper} {a : Act} {Q : Exit → Act → World → Prop} (hgd : o.guard = none) (s x : Operand)
    (ho : o.op = .call { callee := .builtin .append, args := #[s, x], argTypes := #[24, 24] })
    (B : Nat) (v y : Value) (l m : List UInt8) (hs : a.eval s = v) (hown : Own w B v l) (hx : a.eval x = y) (hy : Bs w y m)
    (hl : l.length + m.length < 140737488355328) (hB : B ≤ w.heap.size)
    (h : ∀ v' w', Own w' B v' (l ++ m) → Fr (fun k => v.ownBlock = some k) w w' → wpList Tryd.prog ops Q rest (a.put o.dst v') w') : wpList Tryd.prog ops Q (o :: rest) a w :=
  wpList_plain hgd fun _ hK => wp_app s x ho B v y l m hs hown hx hy hl hB fun v' w' h1 h2 => hK _ _ (h v' w' h1 h2)

/-- append of one byte, which was stored in a new block first -/
theorem wpList_push {w0 : World} {ops : Array Oper} {rest : List Oper} {o : Oper} {a : Act} {Q : Exit → Act → World → Prop} (hgd : o.guard = none) (s x : Operand)
    (ho : o.op = .call { callee := .builtin .append, args := #[s, x], argTypes := #[24, 24] })
    (B : Nat) (v : Value) (l : List UInt8) (hs : a.eval s = v) (hown : Own w0 B v l) (z : Int) (b : UInt8) (hz : z = b.toNat) (hx : a.eval x = .slice (some ⟨w0.heap.size, 0, none⟩) 1 1)
    (hl : l.length < 140737488355327) (hB : B ≤ w0.heap.size)
    (h : ∀ v' w', Own w' B v' (l ++ [b]) → Fr (fun k => v.ownBlock = some k) w0 w' → wpList Tryd.prog ops Q rest (a.put o.dst v') w') :
    wpList Tryd.prog ops Q (o :: rest) a (w0.alloc (.cells #[.int .u8 z] 5)) := by
  subst hz
  refine wpList_app hgd s x ho B v _ l [b] hs (hown.alloc _) hx ⟨_, 1, rfl, Nat.le_refl _, (fun h => by cases h), fun a ha j hj => ?_⟩ (by simp; omega) (by simp; omega) ?_
  · cases ha
    obtain rfl : j = 0 := by simpa using hj
    exact cell_new1 _ _ _
  · intro v' w' h1 h2
    refine h v' w' h1 (((Fr.refl _ _).alloc _).join h2 fun k hk e => e)

/-- '[]byte(s)': new bytes -/
theorem wpList_strbytes {w : World} {ops : Array Oper} {rest : List Oper} {o : Oper} {a : Act} {Q : Exit → Act → World → Prop} (hgd : o.guard = none) (x : Operand)
    (ho : o.op = .convert 9 24 x) (m : List UInt8) (hx : a.eval x = .string ⟨m.toArray⟩)
    (h : ∀ v' w', Bs w' v' m → Fr Non w w' → (∀ k, v'.ownBlock = some k → w.heap.size ≤ k) → wpList Tryd.prog ops Q rest (a.put o.dst v') w') : wpList Tryd.prog ops Q (o :: rest) a w := by
  have hm : ByteArray.size ⟨m.toArray⟩ = m.length := by simp [ByteArray.size]
  have hrun := run_bytes_of_string (P := Tryd.prog) w 9 24 5 ⟨m.toArray⟩ Tryd.underlying9 Tryd.underlying24 Tryd.underlying5
  refine wpList_plain hgd fun K hK => ?_
  unfold Oper.wp
  simp [execOp, ho, hx, hrun, Result.andThen]
  refine hK _ _ (h _ _ ?_ (((Fr.refl _ _).drew).alloc _) ?_)
  · rw [hm]
    refine ⟨_, _, rfl, grownCap_ge _ _ _ _, (fun h => by cases h), fun a ha j hj => ?_⟩
    cases ha
    have hA : (⟨w.heap.size, 0, none⟩ : Addr).add j = ⟨w.drew.heap.size, j, none⟩ := by rw [Addr.add_lit]; simp
    rw [hA, World.cell?_alloc_mark, bytesRow_at _ _ _ (by simpa using hj)]
    simp [bv]
  · intro k hk
    simp [Value.ownBlock] at hk
    omega

/-! ### A slice of slices of bytes -/
def Bss (w : World) (v : Value) (ls : List (List UInt8)) : Prop :=
  ∃ A c, v = .slice A ls.length c ∧ ls.length ≤ c ∧ (A = none → c = 0) ∧ ∀ a, A = some a → ∀ j (h : j < ls.length), ∃ u, w.cell? (a.add j) = some u ∧ Bs w u ls[j]
theorem Bss.non {w w' : World} {v : Value} {ls : List (List UInt8)} (h : Bss w v ls) (hf : Fr Non w w') : Bss w' v ls := by
  obtain ⟨A, c, rfl, h1, h2, h3⟩ := h
  refine ⟨A, c, rfl, h1, h2, fun a ha j hj => ?_⟩
  obtain ⟨u, hu, hb⟩ := h3 a ha j hj
  exact ⟨u, by rw [← hu]; exact hf.cell (World.block_lt_of_cell? w _ hu) (fun e => e), hb.non hf⟩
/-- one slice laid in a new block -/
theorem bss_one (w : World) (v : Value) (l : List UInt8) (t : TypeId) (h : Bs w v l) : Bss (w.alloc (.cells #[v] t)) (.slice (some ⟨w.heap.size, 0, none⟩) 1 1) [l] := by
  refine ⟨_, _, rfl, Nat.le_refl _, (fun h => by cases h), fun a ha j hj => ?_⟩
  cases ha
  obtain rfl : j = 0 := by simpa using hj
  exact ⟨v, cell_new1 w v t, h.non ((Fr.refl _ _).alloc _)⟩

/-! ### Pieces of a slice of bytes -/
theorem sz_u8 (w : World) : (sizeOf (Tryd.prog.elem 24)).run Tryd.prog w = .ok 1 w := by kernel_rfl
set_option maxRecDepth 100000 in
theorem slice_lo (A : Option Addr) (n c k : Nat) (kl : IntKind) (z : Int) (hz : z = (k : Int)) (hk : k ≤ n) (hn : n ≤ c) :
    ∃ A' c', (∀ W, (Instr.slice 24 (.slice A n c) (some (.int kl z)) none none).run Tryd.prog W = .ok (.slice A' (n - k) c') W) ∧
      (∀ W l, l.length = n → Bs W (.slice A n c) l → Bs W (.slice A' (n - k) c') (l.drop k)) ∧ (Value.slice A' (n - k) c').ownBlock = (Value.slice A n c).ownBlock := by
  subst hz
  refine ⟨if c = k then A else A.map (·.add k), c - k, fun W => ?_, ?_, ?_⟩
  · rw [run_slice_any W 24 A n c Tryd.underlying24]
    have hb : (Instr.sliceBounds true n c (some (.int kl (k : Int))) none none).run Tryd.prog W = .ok (k, n, c) W := by
      simp [Instr.sliceBounds, run_sliceBound, hk, hn]
    rw [hb]
    simp only [Result.andThen_ok, sz_u8]
    simp [sliced]
  · rintro W l hl ⟨A0, c0, he, h1, h2, h3⟩
    simp only [Value.slice.injEq] at he
    obtain ⟨rfl, hl', rfl⟩ := he
    refine ⟨if c = k then A else A.map (·.add k), c - k, by rw [List.length_drop, hl], by rw [List.length_drop]; omega, fun e => ?_, fun a ha j hj => ?_⟩
    · split at e
      · have := h2 e; omega
      · have := h2 (by simpa using e); omega
    · rw [List.length_drop] at hj
      rw [if_neg (by omega)] at ha
      cases A with
      | none => cases ha
      | some b =>
        obtain rfl : b.add k = a := by simpa using ha
        rw [add_add, h3 b rfl (k + j) (by omega)]
        simp
  · split
    · cases A <;> rfl
    · cases A <;> simp [Value.ownBlock, add_block]

set_option maxRecDepth 100000 in
theorem slice_hi (A : Option Addr) (n c k : Nat) (kl : IntKind) (z : Int) (hz : z = (k : Int)) (hk : k ≤ n) (hn : n ≤ c) :
    ∃ A' c', (∀ W, (Instr.slice 24 (.slice A n c) none (some (.int kl z)) none).run Tryd.prog W = .ok (.slice A' k c') W) ∧
      (∀ W l, l.length = n → Bs W (.slice A n c) l → Bs W (.slice A' k c') (l.take k)) ∧ (Value.slice A' k c').ownBlock = (Value.slice A n c).ownBlock := by
  subst hz
  refine ⟨if c = 0 then A else A.map (·.add 0), c, fun W => ?_, ?_, ?_⟩
  · rw [run_slice_any W 24 A n c Tryd.underlying24]
    have hb : (Instr.sliceBounds true n c none (some (.int kl (k : Int))) none).run Tryd.prog W = .ok (0, k, c) W := by
      simp [Instr.sliceBounds, run_sliceBound, show (k : Int) ≤ c by omega]
    rw [hb]
    simp only [Result.andThen_ok, sz_u8]
    simp [sliced]
  · rintro W l hl ⟨A0, c0, he, h1, h2, h3⟩
    simp only [Value.slice.injEq] at he
    obtain ⟨rfl, hl', rfl⟩ := he
    refine ⟨if c = 0 then A else A.map (·.add 0), c, by rw [List.length_take, hl, Nat.min_eq_left hk], by rw [List.length_take]; omega, fun e => ?_, fun a ha j hj => ?_⟩
    · split at e
      · have := h2 e; omega
      · have := h2 (by simpa using e); omega
    · rw [List.length_take] at hj
      rw [if_neg (by omega)] at ha
      cases A with
      | none => cases ha
      | some b =>
        obtain rfl : b.add 0 = a := by simpa using ha
        rw [add_add, h3 b rfl (0 + j) (by omega)]
        simp
  · split
    · cases A <;> rfl
    · cases A <;> simp [Value.ownBlock, add_block]

end Go.Proofs.YtdofgniemkahnaaDoor


namespace Go.Proofs.YtdofgniemkahnaaDoor
set_option linter.unusedVariables false
set_option linter.unusedSimpArgs false
set_option maxRecDepth 100000

/-- the number that bytes begin with, from its i-th byte on, acc being what the bytes ahead of it make -/
def rd (i acc : Nat) : List UInt8 → Option (Nat × List UInt8)
  | [] => none
  | c :: r => if (i = 9 ∧ 1 < c.toNat) ∨ (0 < i ∧ c.toNat = 0) then none else if c.toNat < 128 then some (acc + c.toNat * 128 ^ i, r) else rd (i + 1) (acc + (c.toNat - 128) * 128 ^ i) r

def two64 : Nat := 18446744073709551616

theorem rd_bad {i acc : Nat} {c : UInt8} {r : List UInt8} (h : (i = 9 ∧ 1 < c.toNat) ∨ (0 < i ∧ c.toNat = 0)) : rd i acc (c :: r) = none := by rw [rd, if_pos h]
theorem rd_last {i acc : Nat} {c : UInt8} {r : List UInt8} (h : ¬ ((i = 9 ∧ 1 < c.toNat) ∨ (0 < i ∧ c.toNat = 0))) (h2 : c.toNat < 128) : rd i acc (c :: r) = some (acc + c.toNat * 128 ^ i, r) := by
  rw [rd, if_neg h, if_pos h2]
theorem rd_more {i acc : Nat} {c : UInt8} {r : List UInt8} (h : ¬ ((i = 9 ∧ 1 < c.toNat) ∨ (0 < i ∧ c.toNat = 0))) (h2 : 128 ≤ c.toNat) : rd i acc (c :: r) = rd (i + 1) (acc + (c.toNat - 128) * 128 ^ i) r := by
  rw [rd, if_neg h, if_neg (by omega)]

theorem pow128_9 : (128 : Nat) ^ 9 = 9223372036854775808 := by decide
theorem pow128_8 : (128 : Nat) ^ 8 = 72057594037927936 := by decide

theorem toNat_small {m : Nat} (h : m < 256) : m.toUInt8.toNat = m := by
  simp only [Nat.toUInt8_eq, UInt8.toNat_ofNat']; omega

/-- what is written is read -/
theorem rd_uvarint : ∀ (m i acc : Nat) (r : List UInt8), i ≤ 9 → m * 128 ^ i < two64 → (0 < i → m ≠ 0) → rd i acc (Lib.uvarint m ++ r) = some (acc + m * 128 ^ i, r) := by
  intro m
  induction m using Nat.strongRecOn with
  | _ m ih =>
    intro i acc r hi hm h0
    by_cases hs : m < 128
    · rw [Lib.uvarint_small hs]
      have hb := toNat_small (m := m) (by omega)
      rw [List.singleton_append, rd_last, hb]
      · rw [hb]
        rintro (⟨rfl, h⟩ | ⟨h, h'⟩)
        · rw [pow128_9, two64] at hm; omega
        · exact h0 h h'
      · omega
    · rw [Lib.uvarint_big (by omega)]
      have hb := toNat_small (m := m % 128 + 128) (by omega)
      have hi8 : i ≤ 8 := by
        rcases Nat.lt_or_ge i 9 with h | h
        · omega
        · obtain rfl : i = 9 := by omega
          rw [pow128_9, two64] at hm; omega
      have hsplit : m = 128 * (m / 128) + m % 128 := by omega
      have hpow : (128 : Nat) ^ (i + 1) = 128 * 128 ^ i := by rw [Nat.pow_succ, Nat.mul_comm]
      have hmul : m / 128 * 128 ^ (i + 1) + (m % 128) * 128 ^ i = m * 128 ^ i := by
        rw [hpow, ← Nat.mul_assoc, ← Nat.add_mul]; congr 1; omega
      rw [List.cons_append, rd_more, hb, ih (m / 128) (by omega) (i + 1) _ r (by omega) (by omega) (fun _ => by omega)]
      · congr 2
        rw [Nat.add_sub_cancel]; omega
      · rw [hb]; omega
      · omega

theorem eight_lt {m c : Nat} (hm : m * 9223372036854775808 < 18446744073709551616) (hc : c < 256) : m * 9223372036854775808 + (c - 128) * 72057594037927936 < 18446744073709551616 := by
  rcases Nat.lt_or_ge m 2 with h | h
  · clear hm
    have h1 : m ≤ 1 := by omega
    omega
  · exact absurd hm (Nat.not_lt.2 (Nat.le_trans (by decide) (Nat.mul_le_mul_right 9223372036854775808 h)))

/-- what is read was written so -/
theorem rd_back : ∀ (l : List UInt8) (i acc n : Nat) (r : List UInt8), i ≤ 9 → rd i acc l = some (n, r) → ∃ m, n = acc + m * 128 ^ i ∧ l = Lib.uvarint m ++ r ∧ m * 128 ^ i < two64 ∧ (0 < i → m ≠ 0) := by
  intro l
  induction l with
  | nil => intro i acc n r _ h; simp [rd] at h
  | cons c l ih =>
    intro i acc n r hi h
    by_cases hbad : (i = 9 ∧ 1 < c.toNat) ∨ (0 < i ∧ c.toNat = 0)
    · rw [rd_bad hbad] at h; cases h
    · have hc := c.toNat_lt
      have hle : (128 : Nat) ^ i ≤ 128 ^ 9 := Nat.pow_le_pow_right (by decide) hi
      rw [pow128_9] at hle
      by_cases h2 : c.toNat < 128
      · rw [rd_last hbad h2] at h
        simp only [Option.some.injEq, Prod.mk.injEq] at h
        obtain ⟨rfl, rfl⟩ := h
        refine ⟨c.toNat, rfl, ?_, ?_, fun h0 e => hbad (.inr ⟨h0, e⟩)⟩
        · rw [Lib.uvarint_small h2]
          simp
        · by_cases h9 : i = 9
          · subst h9
            rw [pow128_9, two64]; omega
          · have hle8 : (128 : Nat) ^ i ≤ 128 ^ 8 := Nat.pow_le_pow_right (by decide) (by omega)
            rw [pow128_8] at hle8
            have := Nat.mul_le_mul (show c.toNat ≤ 127 by omega) hle8
            rw [two64]; omega
      · have hi8 : i ≤ 8 := by omega
        rw [rd_more hbad (by omega)] at h
        obtain ⟨m, rfl, hl, hm, h0⟩ := ih (i + 1) _ n r (by omega) h
        have h0' := h0 (by omega)
        have hpow : (128 : Nat) ^ (i + 1) = 128 * 128 ^ i := by rw [Nat.pow_succ, Nat.mul_comm]
        have hmul : m * 128 ^ (i + 1) + (c.toNat - 128) * 128 ^ i = (128 * m + (c.toNat - 128)) * 128 ^ i := by
          rw [hpow, Nat.add_mul, ← Nat.mul_assoc, Nat.mul_comm m 128]
        refine ⟨128 * m + (c.toNat - 128), by omega, ?_, ?_, fun _ => by omega⟩
        · rw [Lib.uvarint_big (by omega), hl, show (128 * m + (c.toNat - 128)) / 128 = m by omega, show (128 * m + (c.toNat - 128)) % 128 + 128 = c.toNat by omega]
          simp
        · rw [← hmul]
          by_cases h8 : i = 8
          · subst h8
            rw [show (8 : Nat) + 1 = 9 from rfl, pow128_9, two64] at hm
            rw [show (8 : Nat) + 1 = 9 from rfl, pow128_9, pow128_8, two64]
            exact eight_lt hm hc
          · have hm1 : 128 ^ (i + 1) * 128 ≤ 128 ^ 9 := by
              rw [← Nat.pow_succ]; exact Nat.pow_le_pow_right (by decide) (by omega)
            have hdvd : 128 ^ (i + 1) ∣ two64 := by
              refine ⟨two64 / 128 ^ (i + 1), ?_⟩
              have : i + 1 = 1 ∨ i + 1 = 2 ∨ i + 1 = 3 ∨ i + 1 = 4 ∨ i + 1 = 5 ∨ i + 1 = 6 ∨ i + 1 = 7 ∨ i + 1 = 8 := by omega
              rcases this with h | h | h | h | h | h | h | h <;> rw [h] <;> decide
            obtain ⟨q, hq⟩ := hdvd
            rw [hq] at hm ⊢
            have hmq : m < q := by
              rw [Nat.mul_comm m] at hm
              exact Nat.lt_of_mul_lt_mul_left hm
            have : m * 128 ^ (i + 1) + 128 ^ (i + 1) ≤ 128 ^ (i + 1) * q := by
              rw [Nat.mul_comm m, ← Nat.mul_succ]; exact Nat.mul_le_mul_left _ hmq
            have hlt : (c.toNat - 128) * 128 ^ i < 128 ^ (i + 1) := by
              rw [hpow]; exact Nat.mul_lt_mul_of_pos_right (by omega) (Nat.pos_of_neZero _)
            omega

theorem rd_len {l : List UInt8} {i acc n : Nat} {r : List UInt8} (hi : i ≤ 9) (h : rd i acc l = some (n, r)) : r.length < l.length := by
  obtain ⟨m, _, rfl, _⟩ := rd_back l i acc n r hi h
  have := Lib.uvarint_pos m
  simp; omega

theorem rd_lt {l : List UInt8} {n : Nat} {r : List UInt8} (h : rd 0 0 l = some (n, r)) : n < two64 := by
  obtain ⟨m, rfl, _, h2, _⟩ := rd_back l 0 0 n r (by omega) h
  simpa using h2

theorem rd_own {n : Nat} (hn : n < two64) (r : List UInt8) : rd 0 0 (Lib.uvarint n ++ r) = some (n, r) := by
  have := rd_uvarint n 0 0 r (by omega) (by simpa using hn) (by simp)
  simpa using this

theorem rd_is {l : List UInt8} {n : Nat} {r : List UInt8} (h : rd 0 0 l = some (n, r)) : l = Lib.uvarint n ++ r := by
  obtain ⟨m, rfl, h1, _, _⟩ := rd_back l 0 0 n r (by omega) h
  simpa using h1

end Go.Proofs.YtdofgniemkahnaaDoor


namespace Go.Proofs.YtdofgniemkahnaaDoor
set_option linter.unusedVariables false
set_option linter.unusedSimpArgs false
set_option maxRecDepth 100000
open Go.RowKit

def hiB (m : Nat) : UInt8 := (m % 128 + 128).toUInt8
def loB (m : Nat) : UInt8 := m.toUInt8
theorem hiB_nat (m : Nat) : (hiB m).toNat = m % 128 + 128 := toNat_small (by omega)
theorem hiB_or (m : Nat) : bits BinOp.or IntKind.u8 ((m : Int) % 256) 128 = ((hiB m).toNat : Int) := by
  rw [Lib.u8_or128_any _ (by omega) (by omega), hiB_nat]; omega
theorem loB_small {m : Nat} (h : ¬ (128 : Int) ≤ m) : (m : Int) = ((loB m).toNat : Int) := by
  unfold loB; rw [toNat_small (by omega)]

set_option maxHeartbeats 400000 in
theorem vnum_any (n : Nat) (w : World) (hn : n < two64) :
    Calls Tryd.prog 21 #[.int .u64 n] w fun e w' => ∃ v, e = .returned v ∧ Own w' w.heap.size v (Lib.uvarint n) ∧ Fr Non w w' := by
  have hl10 : (Lib.uvarint n).length ≤ 10 := Lib.uvarint_length64 hn
  clear hn
  go_enter Tryd.func21, Tryd.ntmps21
  go_wp2
  go_loopw [0, 3] (fun x v wr => ∃ (m : Nat) (bs : List UInt8), m ≤ n ∧ x = .int .u64 m ∧ Lib.uvarint n = bs ++ Lib.uvarint m ∧ Own wr w.heap.size v bs ∧ Fr Non w wr) (fun x _ _ => (intOf x).toNat)
  case atStart => exact ⟨n, [], Nat.le_refl _, rfl, rfl, own_nil _ _, Fr.refl _ _⟩
  case round =>
    obtain ⟨m, bs, hm, rfl, hnum, hown, hfr⟩ := hrel
    have hlen : bs.length < 140737488355327 := by rw [hnum] at hl10; simp at hl10; omega
    have Hnum := Lib.hid hnum; clear hnum
    have e1 := hiB_or m
    have hB := hfr.size
    by_cases hm : (128 : Int) ≤ m
    · go_wp2_with (at_builtin; refine wpList_push rfl (.tmp 6) (.tmp 10) rfl w.heap.size u3 bs rfl hown _ (hiB m) rfl rfl hlen hB ?_; intro v' w1 hown1 hb1)
      refine ⟨⟨m / 128, bs ++ [hiB m], by omega, rfl, ?_, hown1, hfr.fresh hb1 fun k hk => (hown.lt k hk).1⟩, by simp [intOf]; omega⟩
      rw [Hnum.out, Lib.uvarint_big (by omega)]; simp [hiB]
    · go_wp2_with (at_builtin; refine wpList_push rfl (.tmp 14) (.tmp 17) rfl w.heap.size u3 bs rfl hown _ (loB m) (loB_small (by omega)) rfl hlen hB ?_; intro v' w1 hown1 hb1)
      go_ret
      refine ⟨v', rfl, ?_, hfr.fresh hb1 fun k hk => (hown.lt k hk).1⟩
      rw [Hnum.out, Lib.uvarint_small (by omega)]; exact hown1

end Go.Proofs.YtdofgniemkahnaaDoor


namespace Go.Proofs.YtdofgniemkahnaaDoor
set_option linter.unusedVariables false
set_option linter.unusedSimpArgs false
set_option maxRecDepth 100000
open Go.RowKit

/-- a row of slices, from the head of block g on, that read as the lists ls -/
def Parts (w : World) (g : Nat) (xs : List Value) (ls : List (List UInt8)) : Prop :=
  xs.length = ls.length ∧ ∀ j x l, xs[j]? = some x → ls[j]? = some l → w.cell? ⟨g, j, none⟩ = some x ∧ Bs w x l
theorem Parts.non {w w' : World} {g : Nat} {xs : List Value} {ls : List (List UInt8)} (h : Parts w g xs ls) (hf : Fr Non w w') : Parts w' g xs ls :=
  ⟨h.1, fun j x l hx hl => by
    obtain ⟨h1, h2⟩ := h.2 j x l hx hl
    exact ⟨(hf.cell (p := ⟨g, j, none⟩) (World.block_lt_of_cell? w _ h1) (fun e => e)).trans h1, h2.non hf⟩⟩
theorem Parts.two {w : World} {t : TypeId} {x y : Value} {l m : List UInt8} (hx : Bs w x l) (hy : Bs w y m) : Parts (w.alloc (.cells #[x, y] t)) w.heap.size [x, y] [l, m] := by
  refine ⟨rfl, fun j u k hu hk => ?_⟩
  have hb := Blk.new w t #[x, y]
  have hf : Fr Non w (w.alloc (.cells #[x, y] t)) := (Fr.refl _ _).alloc _
  match j with
  | 0 =>
    obtain rfl : x = u := by simpa using hu
    obtain rfl : l = k := by simpa using hk
    exact ⟨hb.cell 0, hx.non hf⟩
  | 1 =>
    obtain rfl : y = u := by simpa using hu
    obtain rfl : m = k := by simpa using hk
    exact ⟨hb.cell 1, hy.non hf⟩
  | j + 2 => simp at hu

theorem flat_snoc (ls : List (List UInt8)) (k : Nat) (h : k < ls.length) : (ls.take (k + 1)).flatten = (ls.take k).flatten ++ ls[k] := by
  rw [List.take_succ_eq_append_getElem h, List.flatten_append]; simp only [List.flatten_cons, List.flatten_nil, List.append_nil]
theorem flat_le (ls : List (List UInt8)) (k : Nat) : (ls.take k).flatten.length ≤ ls.flatten.length := by
  conv => rhs; rw [← List.take_append_drop k ls, List.flatten_append, List.length_append]
  omega

theorem Own.shape {w : World} {B : Nat} {v : Value} {l : List UInt8} (h : Own w B v l) : ∃ A c, v = .slice A l.length c := h.bs.shape

end Go.Proofs.YtdofgniemkahnaaDoor


namespace Go.Proofs.YtdofgniemkahnaaDoor
set_option linter.unusedVariables false
set_option linter.unusedSimpArgs false
set_option maxRecDepth 100000
open Go.RowKit

/-- what first answers -/
def fstN (l : List UInt8) : Nat := match rd 0 0 l with | none => 0 | some (n, _) => n
def fstS (l : List UInt8) : Nat := match rd 0 0 l with | none => 0 | some (_, r) => l.length - r.length

theorem byte_at (l : List UInt8) (k : Nat) (c : UInt8) (hk : k < l.length) (hc : l[k] = c) : ∀ h : k < ByteArray.size ⟨l.toArray⟩, (⟨l.toArray⟩ : ByteArray)[k] = c := by
  intro h; exact hc

theorem fst_some {l : List UInt8} {n : Nat} {r : List UInt8} (h : rd 0 0 l = some (n, r)) : fstN l = n ∧ fstS l = l.length - r.length := by
  unfold fstN fstS; rw [h]; exact ⟨rfl, rfl⟩
theorem fst_none {l : List UInt8} (h : rd 0 0 l = none) : fstN l = 0 ∧ fstS l = 0 := by
  unfold fstN fstS; rw [h]; exact ⟨rfl, rfl⟩
theorem drop_at {l : List UInt8} {k : Nat} {c : UInt8} (hk : k < l.length) (hc : l[k] = c) : l.drop k = c :: l.drop (k + 1) := by
  rw [List.drop_eq_getElem_cons hk, hc]

theorem pow27 (k : Nat) : (2 : Int) ^ (7 * k) = ((128 ^ k : Nat) : Int) := by
  rw [Int.pow_mul]; norm_cast
theorem or_step {k acc x : Nat} (hk : k ≤ 9) (ha : acc < 128 ^ k) (hx : x < 128) (h9 : k = 9 → x ≤ 1) :
    bits BinOp.or IntKind.u64 (acc : Int) (IntKind.u64.wrap ((x : Int) * 2 ^ (7 * k))) = ((acc + x * 128 ^ k : Nat) : Int) := by
  have hp : (128 : Nat) ^ k = 2 ^ (7 * k) := by rw [Nat.pow_mul]
  have hle : (128 : Nat) ^ k ≤ 128 ^ 9 := Nat.pow_le_pow_right (by decide) hk
  have hlt : x * 128 ^ k < 18446744073709551616 := by
    by_cases h : k = 9
    · subst h
      have := h9 rfl
      rw [pow128_9]
      clear hle hp ha
      omega
    · have hle8 : (128 : Nat) ^ k ≤ 128 ^ 8 := Nat.pow_le_pow_right (by decide) (by omega)
      rw [pow128_8] at hle8
      have := Nat.mul_le_mul (show x ≤ 127 by omega) hle8
      omega
  have hacc : acc < 18446744073709551616 := by rw [pow128_9] at hle; omega
  rw [pow27, show ((x : Int) * ((128 ^ k : Nat) : Int)) = ((x * 128 ^ k : Nat) : Int) by push_cast; rfl, IntWalk.u64_in _ ⟨by omega, by omega⟩]
  rw [bits_join_low .u64 64 (by decide) wraps_u64 (7 * k) _ _ (by omega) ?_ (by omega) (by omega) ?_ (by omega)]
  · push_cast; rfl
  · rw [hp] at ha; exact_mod_cast ha
  · rw [hp]; push_cast; exact Int.mul_emod_left _ _

set_option maxRecDepth 20000 in
theorem first_any (l : List UInt8) (w : World) :
    Calls Tryd.prog 61 #[.string ⟨l.toArray⟩] w fun e w' => e = .returned (.tuple #[.int .u64 (fstN l), .int .i64 (fstS l)]) ∧ w = w' := by
  have hs : ByteArray.size ⟨l.toArray⟩ = l.length := by simp [ByteArray.size]
  go_enter Tryd.func61, Tryd.ntmps61
  go_wp2
  go_loop [4, 9] (fun n i => ∃ k acc : Nat, k ≤ 9 ∧ k ≤ l.length ∧ i = .int .i64 k ∧ n = .int .u64 acc ∧ acc < 128 ^ k ∧ rd 0 0 l = rd k acc (l.drop k)) (fun _ i => l.length - (intOf i).toNat)
  case atStart => exact ⟨0, 0, by omega, by omega, rfl, rfl, by decide, by simp⟩
  case round =>
    obtain ⟨k, acc, hk9, hk, rfl, rfl, hacc, hrd⟩ := hrel
    have HA := Lib.hid hacc
    by_cases hlt : k < l.length
    · obtain ⟨c, hc⟩ : ∃ c, l[k] = c := ⟨_, rfl⟩
      rw [drop_at hlt hc] at hrd
      have HR := Lib.hid hrd
      have hb := byte_at l k c hlt hc
      clear hc hacc hrd
      have hc256 := c.toNat_lt
      by_cases b1 : 9 ≤ k ∧ 1 < c.toNat
      · have HN := Lib.hid (fst_none (HR.out.trans (rd_bad (.inl ⟨by omega, b1.2⟩))))
        obtain ⟨b1, b1'⟩ := b1
        clear HA HR
        go_wp2
        all_goals
          go_ret2
          rw [HN.out.1, HN.out.2]
          exact ⟨rfl, rfl⟩
      · have hO := or_step (x := c.toNat % 128) hk9 HA.out (by omega) (by omega)
        rw [show ((c.toNat % 128 : Nat) : Int) = (c.toNat : Int) % 128 by omega] at hO
        by_cases b5 : 9 ≤ k
        · obtain rfl : k = 9 := by omega
          by_cases b2 : c.toNat = 0
          · have HN := Lib.hid (fst_none (HR.out.trans (rd_bad (.inr ⟨by omega, b2⟩))))
            have b2' : c.toNat ≤ 0 := by omega
            clear HA HR b1 b2 hO
            go_wp2
            all_goals
              go_ret2
              rw [HN.out.1, HN.out.2]
              exact ⟨rfl, rfl⟩
          · have b2' : 0 < c.toNat := by omega
            have b1' : c.toNat ≤ 1 := by omega
            have HN := Lib.hid (fst_some (HR.out.trans (rd_last (by omega) (by omega))))
            clear HA HR b1 b2
            rw [show (2 : Int) ^ (7 * 9) = 9223372036854775808 by decide, IntWalk.u64_in _ ⟨by omega, by omega⟩] at hO
            have HE := Lib.hid (show acc + c.toNat % 128 * 128 ^ 9 = acc + c.toNat * 128 ^ 9 by rw [show c.toNat % 128 = c.toNat by omega])
            go_wp2
            go_ret2
            have hd : (l.drop (9 + 1)).length = l.length - 10 := by simp
            rw [HN.out.1, HN.out.2, ← HE.out, hd, show l.length - (l.length - 10) = 10 by omega]
            exact ⟨rfl, rfl⟩
        · have b5' : k < 9 := by omega
          clear b5 b1
          by_cases b2 : 0 < k ∧ c.toNat = 0
          · have HN := Lib.hid (fst_none (HR.out.trans (rd_bad (.inr b2))))
            obtain ⟨b2, b2'⟩ := b2
            have b2'' : c.toNat ≤ 0 := by omega
            clear HA HR b2' hO
            go_wp2
            all_goals
              go_ret2
              rw [HN.out.1, HN.out.2]
              exact ⟨rfl, rfl⟩
          · by_cases b3 : c.toNat < 128
            · have HN := Lib.hid (fst_some (HR.out.trans (rd_last (by omega) b3)))
              have hd : (l.drop (k + 1)).length = l.length - (k + 1) := by simp
              have HD := Lib.hid (show l.length - (l.drop (k + 1)).length = k + 1 by rw [hd]; omega)
              clear hd
              by_cases b6 : c.toNat = 0
              · obtain rfl : k = 0 := by omega
                obtain rfl : acc = 0 := by have := HA.out; omega
                have b6' : c.toNat ≤ 0 := by omega
                have HC := Lib.hid b6
                have hz : bits BinOp.or IntKind.u64 0 (IntKind.u64.wrap 0) = 0 := by decide
                have hz' : bits BinOp.or IntKind.u64 0 0 = 0 := by decide
                clear HA HR b2 b6 hO
                go_wp2
                all_goals
                  go_ret2
                  rw [HN.out.1, HN.out.2, HC.out, HD.out]
                  exact ⟨rfl, rfl⟩
              · have b6' : 0 < c.toNat := by omega
                have HE := Lib.hid (show acc + c.toNat % 128 * 128 ^ k = acc + c.toNat * 128 ^ k by rw [show c.toNat % 128 = c.toNat by omega])
                clear HA HR b2 b6
                go_wp2
                go_ret2
                rw [HN.out.1, HN.out.2, ← HE.out, HD.out]
                exact ⟨rfl, rfl⟩
            · have HN := Lib.hid (HR.out.trans (rd_more (by omega) (by omega)))
              have b3' : 128 ≤ c.toNat := by omega
              have HA2 := Lib.hid (show acc + c.toNat % 128 * 128 ^ k < 128 ^ (k + 1) by
                have h1 := HA.out
                have h2 : c.toNat % 128 ≤ 127 := by omega
                have h3 := Nat.mul_le_mul_right (128 ^ k) h2
                rw [Nat.pow_succ]; omega)
              have HE := Lib.hid (show acc + (c.toNat - 128) * 128 ^ k = acc + c.toNat % 128 * 128 ^ k by rw [show c.toNat - 128 = c.toNat % 128 by omega])
              clear HR b2 HA
              go_wp2
              refine ⟨⟨k + 1, acc + c.toNat % 128 * 128 ^ k, by omega, by omega, by go_num, rfl, HA2.out, ?_⟩, by simp [intOf]; omega⟩
              rw [HN.out, HE.out]
    · have hd : l.drop k = [] := List.drop_eq_nil_of_le (by omega)
      rw [hd] at hrd
      have HN := Lib.hid (fst_none (hrd.trans rfl))
      clear hrd HA hacc hd
      go_wp2
      go_ret2
      rw [HN.out.1, HN.out.2]
      exact ⟨rfl, rfl⟩

end Go.Proofs.YtdofgniemkahnaaDoor


namespace Go.Proofs.YtdofgniemkahnaaDoor
set_option linter.unusedVariables false
set_option linter.unusedSimpArgs false
set_option maxRecDepth 100000
open Go.RowKit

/-- a source in block g: what is left, and whether it failed -/
def Src (w : World) (g : Nat) (l : List UInt8) (bad : Bool) : Prop := Blk w g 79 #[.string ⟨l.toArray⟩, .bool bad] ∧ (bad = true → l = [])
abbrev ptr (g : Nat) : Value := .pointer (some ⟨g, 0, none⟩)

theorem Src.fr {S : Nat → Prop} {w w' : World} {g : Nat} {l : List UInt8} {bad : Bool} (h : Src w g l bad) (hf : Fr S w w') (hn : ¬ S g) : Src w' g l bad := ⟨h.1.fr hf hn, h.2⟩

/-- what a number leaves -/
def rest (l : List UInt8) : List UInt8 := match rd 0 0 l with | none => [] | some (_, r) => r
def fell (l : List UInt8) : Bool := match rd 0 0 l with | none => true | some _ => false
theorem rest_none {l : List UInt8} (h : rd 0 0 l = none) : rest l = [] ∧ fell l = true ∧ fstN l = 0 ∧ fstS l = 0 := by unfold rest fell fstN fstS; rw [h]; exact ⟨rfl, rfl, rfl, rfl⟩
theorem rest_some {l : List UInt8} {n : Nat} {r : List UInt8} (h : rd 0 0 l = some (n, r)) : rest l = r ∧ fell l = false ∧ fstN l = n ∧ fstS l = l.length - r.length := by unfold rest fell fstN fstS; rw [h]; exact ⟨rfl, rfl, rfl, rfl⟩

theorem from_any (v : Value) (l : List UInt8) (w : World) (h : Bs w v l) :
    Calls Tryd.prog 40 #[v] w fun e w' => e = .returned (ptr w.heap.size) ∧ Src w' w.heap.size l false ∧ Fr Non w w' := by
  have c1 := run_conv_Bs h 24 9 5 Tryd.underlying24 Tryd.underlying5 Tryd.underlying9
  clear h
  go_enter Tryd.func40, Tryd.ntmps40
  go_wp2
  go_ret
  exact ⟨rfl, ⟨Blk.new _ _ _, fun h => by cases h⟩, (Fr.refl _ _).alloc _⟩

theorem ok_any (g : Nat) (l : List UInt8) (bad : Bool) (w : World) (h : Src w g l bad) :
    Calls Tryd.prog 42 #[ptr g] w fun e w' => e = .returned (.bool (!bad)) ∧ w = w' := by
  have hc1 := h.1.cell 1
  clear h
  simp at hc1
  go_enter Tryd.func42, Tryd.ntmps42
  go_wp2
  go_ret
  exact ⟨rfl, rfl⟩

theorem left_any (g : Nat) (l : List UInt8) (bad : Bool) (w : World) (h : Src w g l bad) :
    Calls Tryd.prog 45 #[ptr g] w fun e w' => e = .returned (.int .i64 l.length) ∧ w = w' := by
  have hc1 := h.1.cell 0
  have hs : ByteArray.size ⟨l.toArray⟩ = l.length := by simp [ByteArray.size]
  clear h
  simp at hc1
  go_enter Tryd.func45, Tryd.ntmps45
  go_wp2
  go_ret
  exact ⟨rfl, rfl⟩

theorem fail_any (g : Nat) (l : List UInt8) (bad : Bool) (w : World) (h : Src w g l bad) :
    Calls Tryd.prog 54 #[ptr g] w fun e w' => e = .returned (.tuple #[]) ∧ Src w' g [] true ∧ Fr (One g) w w' := by
  have hc0 := h.1.cell 0
  have hc1 := h.1.cell 1
  have hf0 := h.1.frozen 0
  have hf1 := h.1.frozen 1
  have HB := Lib.hid h.1
  clear h
  simp at hc0 hc1
  go_enter Tryd.func54, Tryd.ntmps54
  go_wp2
  go_end0
  refine ⟨rfl, ⟨?_, fun _ => rfl⟩, ((Fr.refl _ _).set1 _ _).set1 _ _⟩
  exact (HB.out.set 0 _).set 1 _

theorem slice_from (l : List UInt8) (k : Nat) (hk : k ≤ l.length) : (⟨l.toArray⟩ : ByteArray).extract k l.length = ⟨(l.drop k).toArray⟩ := by
  apply ByteArray.ext
  simp
  exact List.take_of_length_le (by simp)
theorem slice_to (l : List UInt8) (k : Nat) : (⟨l.toArray⟩ : ByteArray).extract 0 k = ⟨(l.take k).toArray⟩ := by
  apply ByteArray.ext
  simp

set_option maxHeartbeats 400000 in
theorem num_any (g : Nat) (l : List UInt8) (bad : Bool) (w : World) (h : Src w g l bad) :
    Calls Tryd.prog 59 #[ptr g] w fun e w' => e = .returned (.int .u64 (fstN l)) ∧ Src w' g (rest l) (fell l) ∧ Fr (One g) w w' := by
  have h0 := ok_any g l bad w h
  cases bad
  · have hc0 := h.1.cell 0
    have hf0 := h.1.frozen 0
    simp at hc0
    have HB := Lib.hid h.1
    cases hr : rd 0 0 l with
    | none =>
      have HN := Lib.hid (rest_none hr)
      have hz := (rest_none hr).2.2.2
      clear hr
      go_enter Tryd.func59, Tryd.ntmps59
      go_wp2_with fail
      refine h0.mono ?_
      rintro e w' ⟨rfl, rfl⟩
      go_wp2_with fail
      refine (first_any l w).mono ?_
      rintro e w' ⟨rfl, rfl⟩
      go_wp2_with fail
      refine (fail_any g l false w h).mono ?_
      rintro e w' ⟨rfl, hs, hf⟩
      go_wp2
      go_ret
      refine ⟨by rw [HN.out.2.2.1]; rfl, by rw [HN.out.1, HN.out.2.1]; exact hs, hf⟩
    | some p =>
      obtain ⟨n, r⟩ := p
      have HN := Lib.hid (rest_some hr)
      have hlen := rd_len (by omega) hr
      have HI := Lib.hid (rd_is hr)
      have hz : fstS l ≤ l.length := by rw [(rest_some hr).2.2.2]; omega
      have hz0 : 0 < fstS l := by rw [(rest_some hr).2.2.2]; omega
      have hs : ByteArray.size ⟨l.toArray⟩ = l.length := by simp [ByteArray.size]
      have hsl := slice_from l (fstS l) hz
      clear hr hlen
      go_enter Tryd.func59, Tryd.ntmps59
      go_wp2_with fail
      refine h0.mono ?_
      rintro e w' ⟨rfl, rfl⟩
      go_wp2_with fail
      refine (first_any l w).mono ?_
      rintro e w' ⟨rfl, rfl⟩
      go_wp2
      go_ret
      refine ⟨rfl, ⟨?_, fun h => ?_⟩, (Fr.refl _ _).set1 _ _⟩
      · have hd : l.drop (fstS l) = rest l := by
          rw [HN.out.1, HN.out.2.2.2]
          conv => lhs; rw [HI.out]
          rw [List.length_append, Nat.add_sub_cancel, List.drop_left]
        rw [HN.out.2.1, ← hd]
        exact HB.out.set 0 _
      · rw [HN.out.2.1] at h; cases h
  · obtain rfl : l = [] := h.2 rfl
    go_enter Tryd.func59, Tryd.ntmps59
    go_wp2_with fail
    refine h0.mono ?_
    rintro e w' ⟨rfl, rfl⟩
    go_wp2
    go_ret
    exact ⟨rfl, h, Fr.refl _ _⟩

end Go.Proofs.YtdofgniemkahnaaDoor


namespace Go.Proofs.YtdofgniemkahnaaDoor
set_option linter.unusedVariables false
set_option linter.unusedSimpArgs false
set_option maxRecDepth 100000
open Go.RowKit

theorem fstN_lt (l : List UInt8) : fstN l < two64 := by
  cases hr : rd 0 0 l with
  | none => rw [(rest_none hr).2.2.1]; decide
  | some p => obtain ⟨n, r⟩ := p; rw [(rest_some hr).2.2.1]; exact rd_lt hr

/-- 'most' of a bound: the number, what is left, whether it failed -/
def mostOk (l : List UInt8) (m : Int) : Bool := decide (0 ≤ m ∧ (fstN l : Int) ≤ m)
def mostV (l : List UInt8) (m : Int) : Nat := if mostOk l m then fstN l else 0
def mostR (l : List UInt8) (m : Int) : List UInt8 := if mostOk l m then rest l else []
def mostB (l : List UInt8) (m : Int) : Bool := if mostOk l m then fell l else true
/-- 'cut' at a length -/
def cutOk (l : List UInt8) (n : Int) : Bool := decide (0 ≤ n ∧ n ≤ l.length)
def cutT (l : List UInt8) (n : Int) : List UInt8 := if cutOk l n then l.take n.toNat else []
def cutR (l : List UInt8) (n : Int) : List UInt8 := if cutOk l n then l.drop n.toNat else []
def cutB (l : List UInt8) (bad : Bool) (n : Int) : Bool := if cutOk l n then bad else true

set_option maxHeartbeats 400000 in
theorem most_any (g : Nat) (l : List UInt8) (bad : Bool) (m : Int) (w : World) (h : Src w g l bad) (hm : m ≤ 9223372036854775807) :
    Calls Tryd.prog 55 #[ptr g, .int .i64 m] w fun e w' => e = .returned (.int .i64 (mostV l m)) ∧ Src w' g (mostR l m) (mostB l m) ∧ Fr (One g) w w' := by
  have h0 := num_any g l bad w h
  have Hl := Lib.hid (fstN_lt l)
  clear h
  by_cases hneg : m < 0
  · have HV : Hid (mostV l m = 0 ∧ mostR l m = [] ∧ mostB l m = true) := by
      unfold mostV mostR mostB mostOk
      rw [decide_eq_false (by omega)]; exact ⟨rfl, rfl, rfl⟩
    go_enter Tryd.func55, Tryd.ntmps55
    go_wp2_with fail
    refine h0.mono ?_
    rintro e w' ⟨rfl, hs, hf⟩
    generalize fstN l = n at *
    go_wp2_with fail
    refine (fail_any g _ _ _ hs).mono ?_
    rintro e w2 ⟨rfl, hs2, hf2⟩
    go_wp2
    go_ret
    rw [HV.out.1, HV.out.2.1, HV.out.2.2]
    exact ⟨rfl, hs2, hf.trans hf2⟩
  · have hwr : IntKind.u64.wrap m = m := IntWalk.u64_in _ ⟨by omega, by omega⟩
    by_cases hle : (fstN l : Int) ≤ m
    · have HV : Hid (mostV l m = fstN l ∧ mostR l m = rest l ∧ mostB l m = fell l) := by
        unfold mostV mostR mostB mostOk
        rw [decide_eq_true ⟨by omega, hle⟩]; exact ⟨rfl, rfl, rfl⟩
      have hwi : IntKind.i64.wrap (fstN l) = fstN l := IntWalk.i64_in _ ⟨by omega, by omega⟩
      clear hm
      generalize fstN l = n at *
      go_enter Tryd.func55, Tryd.ntmps55
      go_wp2_with fail
      refine h0.mono ?_
      rintro e w' ⟨rfl, hs, hf⟩
      go_wp2
      go_ret
      rw [HV.out.1, HV.out.2.1, HV.out.2.2]
      exact ⟨rfl, hs, hf⟩
    · have HV : Hid (mostV l m = 0 ∧ mostR l m = [] ∧ mostB l m = true) := by
        unfold mostV mostR mostB mostOk
        rw [decide_eq_false (by omega)]; exact ⟨rfl, rfl, rfl⟩
      clear hm
      generalize fstN l = n at *
      go_enter Tryd.func55, Tryd.ntmps55
      go_wp2_with fail
      refine h0.mono ?_
      rintro e w' ⟨rfl, hs, hf⟩
      go_wp2_with fail
      refine (fail_any g _ _ _ hs).mono ?_
      rintro e w2 ⟨rfl, hs2, hf2⟩
      go_wp2
      go_ret
      rw [HV.out.1, HV.out.2.1, HV.out.2.2]
      exact ⟨rfl, hs2, hf.trans hf2⟩

theorem below_any (g : Nat) (l : List UInt8) (bad : Bool) (n : Int) (w : World) (h : Src w g l bad) (hn : n ≤ 9223372036854775807) :
    Calls Tryd.prog 41 #[ptr g, .int .i64 n] w fun e w' => e = .returned (.int .i64 (mostV l (n - 1))) ∧ Src w' g (mostR l (n - 1)) (mostB l (n - 1)) ∧ Fr (One g) w w' := by
  by_cases hneg : n ≤ 0
  · have HV : Hid (mostV l (n - 1) = 0 ∧ mostR l (n - 1) = [] ∧ mostB l (n - 1) = true) := by
      unfold mostV mostR mostB mostOk
      rw [decide_eq_false (by omega)]; exact ⟨rfl, rfl, rfl⟩
    have h0 := fail_any g l bad w h
    clear hn
    go_enter Tryd.func41, Tryd.ntmps41
    go_wp2_with fail
    refine h0.mono ?_
    rintro e w2 ⟨rfl, hs2, hf2⟩
    go_wp2
    go_ret
    rw [HV.out.1, HV.out.2.1, HV.out.2.2]
    exact ⟨rfl, hs2, hf2⟩
  · have h0 := most_any g l bad (n - 1) w h (by omega)
    have hw : IntKind.i64.wrap (n - 1) = n - 1 := IntWalk.i64_in _ ⟨by omega, by omega⟩
    go_enter Tryd.func41, Tryd.ntmps41
    go_wp2_with fail
    refine h0.mono ?_
    rintro e w2 ⟨rfl, hs2, hf2⟩
    go_wp2
    go_ret
    exact ⟨rfl, hs2, hf2⟩

set_option maxHeartbeats 400000 in
theorem cut_any (g : Nat) (l : List UInt8) (bad : Bool) (n : Int) (w : World) (h : Src w g l bad) :
    Calls Tryd.prog 56 #[ptr g, .int .i64 n] w fun e w' => e = .returned (.string ⟨(cutT l n).toArray⟩) ∧ Src w' g (cutR l n) (cutB l bad n) ∧ Fr (One g) w w' := by
  have h1 := left_any g l bad w h
  have h2 := fail_any g l bad w h
  by_cases hneg : n < 0
  · have HV : Hid (cutT l n = [] ∧ cutR l n = [] ∧ cutB l bad n = true) := by
      unfold cutT cutR cutB cutOk
      rw [decide_eq_false (by omega)]; exact ⟨rfl, rfl, rfl⟩
    go_enter Tryd.func56, Tryd.ntmps56
    go_wp2_with fail
    refine h2.mono ?_
    rintro e w2 ⟨rfl, hs2, hf2⟩
    go_wp2_with fail
    refine (ok_any g [] true w2 hs2).mono ?_
    rintro e w3 ⟨rfl, rfl⟩
    go_wp2
    go_ret
    rw [HV.out.1, HV.out.2.1, HV.out.2.2]
    exact ⟨rfl, hs2, hf2⟩
  · by_cases hbig : (l.length : Int) < n
    · have HV : Hid (cutT l n = [] ∧ cutR l n = [] ∧ cutB l bad n = true) := by
        unfold cutT cutR cutB cutOk
        rw [decide_eq_false (by omega)]; exact ⟨rfl, rfl, rfl⟩
      go_enter Tryd.func56, Tryd.ntmps56
      go_wp2_with fail
      refine h1.mono ?_
      rintro e w1 ⟨rfl, rfl⟩
      go_wp2_with fail
      refine h2.mono ?_
      rintro e w2 ⟨rfl, hs2, hf2⟩
      go_wp2_with fail
      refine (ok_any g [] true w2 hs2).mono ?_
      rintro e w3 ⟨rfl, rfl⟩
      go_wp2
      go_ret
      rw [HV.out.1, HV.out.2.1, HV.out.2.2]
      exact ⟨rfl, hs2, hf2⟩
    · obtain ⟨k, rfl⟩ := Int.eq_ofNat_of_zero_le (show 0 ≤ n by omega)
      have hk : k ≤ l.length := by omega
      have HV : Hid (cutT l k = l.take k ∧ cutR l k = l.drop k ∧ cutB l bad k = bad) := by
        unfold cutT cutR cutB cutOk
        rw [decide_eq_true (by omega)]; exact ⟨rfl, rfl, rfl⟩
      have h0 := ok_any g l bad w h
      have hc0 := h.1.cell 0
      have hf0 := h.1.frozen 0
      simp at hc0
      have HB := Lib.hid h
      have hs : ByteArray.size ⟨l.toArray⟩ = l.length := by simp [ByteArray.size]
      have hsl := slice_from l k hk
      have hst := slice_to l k
      clear h h2
      cases bad
      · go_enter Tryd.func56, Tryd.ntmps56
        go_wp2_with fail
        refine h1.mono ?_
        rintro e w1 ⟨rfl, rfl⟩
        go_wp2_with fail
        refine h0.mono ?_
        rintro e w1 ⟨rfl, rfl⟩
        go_wp2
        go_ret
        rw [HV.out.1, HV.out.2.1, HV.out.2.2]
        exact ⟨rfl, ⟨HB.out.1.set 0 _, fun h => by cases h⟩, (Fr.refl _ _).set1 _ _⟩
      · go_enter Tryd.func56, Tryd.ntmps56
        go_wp2_with fail
        refine h1.mono ?_
        rintro e w1 ⟨rfl, rfl⟩
        go_wp2_with fail
        refine h0.mono ?_
        rintro e w1 ⟨rfl, rfl⟩
        go_wp2
        go_ret
        rw [HV.out.1, HV.out.2.1, HV.out.2.2]
        obtain rfl : l = [] := HB.out.2 rfl
        simp only [List.take_nil, List.drop_nil]
        exact ⟨rfl, HB.out, Fr.refl _ _⟩

theorem take_any (g : Nat) (l : List UInt8) (bad : Bool) (n : Int) (w : World) (h : Src w g l bad) :
    Calls Tryd.prog 44 #[ptr g, .int .i64 n] w fun e w' => ∃ v, e = .returned v ∧ Bs w' v (cutT l n) ∧ (∀ k, v.ownBlock = some k → w.heap.size ≤ k) ∧ Src w' g (cutR l n) (cutB l bad n) ∧ Fr (One g) w w' := by
  have h0 := cut_any g l bad n w h
  clear h
  go_enter Tryd.func44, Tryd.ntmps44
  go_wp2_with fail
  refine h0.mono ?_
  rintro e w1 ⟨rfl, hs1, hf1⟩
  go_wp2_with (refine wpList_strbytes rfl _ rfl (cutT l n) rfl ?_; intro v2 w2 hbs2 hfr2 hnew2)
  go_ret
  exact ⟨v2, rfl, hbs2, fun k hk => Nat.le_trans hf1.size (hnew2 k hk), hs1.fr hfr2 (fun e => e), hf1.then hfr2⟩

end Go.Proofs.YtdofgniemkahnaaDoor


namespace Go.Proofs.YtdofgniemkahnaaDoor
set_option linter.unusedVariables false
set_option linter.unusedSimpArgs false
set_option maxRecDepth 100000

/-- one bit goes out -/
def st (s : Nat) : Nat := if s % 2 = 1 then s / 2 ^^^ 2197175160 else s / 2
def st8 (s : Nat) : Nat := st (st (st (st (st (st (st (st s)))))))
/-- a byte goes in -/
def by1 (s : Nat) (b : UInt8) : Nat := st8 (s ^^^ b.toNat)
def run (s : Nat) (l : List UInt8) : Nat := l.foldl by1 s
/-- the sum that goes on from a sum -/
def sumOf (s : Nat) (l : List UInt8) : Nat := run (s ^^^ 4294967295) l ^^^ 4294967295

def halfTab : List Int := [0, 274646895, 549293790, 820201905, 1098587580, 1361435347, 1640403810, 1905808397, 2197175160, 2460548119, 2722870694, 2987750089, 3280807620, 3553878443, 3811616794, 4084100981]
def half (i : Nat) : Nat := (halfTab.getD i 0).toNat

theorem xor_mod2 (a b : Nat) : (a ^^^ b) % 2 = if a % 2 = b % 2 then 0 else 1 := by
  have h := Nat.xor_mod_two_eq_one (a := a) (b := b)
  have ha : a % 2 < 2 := Nat.mod_lt _ (by decide)
  have hb : b % 2 < 2 := Nat.mod_lt _ (by decide)
  have hc : (a ^^^ b) % 2 < 2 := Nat.mod_lt _ (by decide)
  by_cases e : a % 2 = b % 2
  · rw [if_pos e]
    by_cases h1 : (a ^^^ b) % 2 = 1
    · have := h.1 h1; omega
    · omega
  · rw [if_neg e]
    apply h.2
    omega
theorem xor_div2 (a b : Nat) : (a ^^^ b) / 2 = a / 2 ^^^ b / 2 := by
  have := Nat.shiftRight_xor_distrib (a := a) (b := b) (i := 1)
  simpa [Nat.shiftRight_eq_div_pow] using this
theorem xor_xor (a b : Nat) : a ^^^ b ^^^ b = a := by rw [Nat.xor_assoc, Nat.xor_self, Nat.xor_zero]

theorem st_xor (a b : Nat) : st (a ^^^ b) = st a ^^^ st b := by
  unfold st
  rw [xor_mod2, xor_div2]
  rcases Nat.mod_two_eq_zero_or_one a with h1 | h1 <;> rcases Nat.mod_two_eq_zero_or_one b with h2 | h2 <;> rw [h1, h2]
  · simp
  · simp [Nat.xor_assoc]
  · simp [Nat.xor_assoc, Nat.xor_comm (b / 2)]
  · simp only [if_true, if_neg (show ¬ (0 : Nat) = 1 by decide)]
    rw [Nat.xor_assoc (a / 2), Nat.xor_comm 2197175160, Nat.xor_assoc (b / 2), Nat.xor_self, Nat.xor_zero]
theorem st8_xor (a b : Nat) : st8 (a ^^^ b) = st8 a ^^^ st8 b := by unfold st8; simp only [st_xor]
theorem st_lt {s : Nat} (h : s < 4294967296) : st s < 4294967296 := by
  unfold st; split
  · exact Nat.xor_lt_two_pow (n := 32) (by omega) (by omega)
  · omega
theorem st8_lt {s : Nat} (h : s < 4294967296) : st8 s < 4294967296 := st_lt (st_lt (st_lt (st_lt (st_lt (st_lt (st_lt (st_lt h)))))))
theorem u8_lt (b : UInt8) : b.toNat < 256 := b.toNat_lt
theorem xor8_lt {s : Nat} (h : s < 4294967296) (b : UInt8) : s ^^^ b.toNat < 4294967296 := Nat.xor_lt_two_pow (n := 32) h (by have := u8_lt b; omega)
theorem by1_lt {s : Nat} (h : s < 4294967296) (b : UInt8) : by1 s b < 4294967296 := st8_lt (xor8_lt h b)
theorem run_lt : ∀ (l : List UInt8) {s : Nat}, s < 4294967296 → run s l < 4294967296
  | [], _, h => h
  | b :: l, _, h => run_lt l (by1_lt h b)
theorem turn_lt {s : Nat} (h : s < 4294967296) : s ^^^ 4294967295 < 4294967296 := Nat.xor_lt_two_pow (n := 32) h (by omega)
theorem sumOf_lt (l : List UInt8) {s : Nat} (h : s < 4294967296) : sumOf s l < 4294967296 := turn_lt (run_lt l (turn_lt h))
theorem run_app (s : Nat) (l m : List UInt8) : run s (l ++ m) = run (run s l) m := List.foldl_append ..
theorem run_snoc (s : Nat) (l : List UInt8) (b : UInt8) : run s (l ++ [b]) = by1 (run s l) b := by rw [run_app]; rfl
theorem sumOf_app (s : Nat) (l m : List UInt8) : sumOf s (l ++ m) = sumOf (sumOf s l) m := by
  unfold sumOf; rw [run_app, xor_xor]
theorem sumOf_nil (s : Nat) : sumOf s [] = s := xor_xor _ _

/-! ### Four bits at once -/
theorem st_two (q : Nat) : st (2 * q) = q := by
  unfold st; rw [if_neg (by omega)]; omega
theorem half_st (r : Nat) (h : r < 16) : st (st (st (st r))) = half r ∧ half r < 4294967296 := by
  have all : ∀ r : Fin 16, st (st (st (st r.1))) = half r.1 ∧ half r.1 < 4294967296 := by decide
  exact all ⟨r, h⟩
theorem part16 (s : Nat) : s = 2 * (2 * (2 * (2 * (s / 16)))) ^^^ s % 16 := by
  have h : 2 * (2 * (2 * (2 * (s / 16)))) = (s / 16) <<< 4 := by rw [Nat.shiftLeft_eq]; omega
  rw [h]
  apply Nat.eq_of_testBit_eq
  intro i
  rw [Nat.testBit_xor, Nat.testBit_shiftLeft, show (16 : Nat) = 2 ^ 4 from rfl, Nat.testBit_div_two_pow, Nat.testBit_mod_two_pow]
  by_cases hi : 4 ≤ i
  · simp [hi, Nat.not_lt.2 hi]
  · simp [hi, Nat.lt_of_not_le hi]
theorem st4_half (s : Nat) : st (st (st (st s))) = s / 16 ^^^ half (s % 16) := by
  conv => lhs; rw [part16 s]
  simp only [st_xor, st_two]
  rw [(half_st _ (Nat.mod_lt _ (by decide))).1]

/-! ### Differences -/
theorem st_ne {s : Nat} (h : s < 4294967296) (hz : s ≠ 0) : st s ≠ 0 := by
  unfold st; split
  · intro e
    have : s / 2 = 2197175160 := by
      have := congrArg (· ^^^ 2197175160) e
      simpa [xor_xor] using this
    omega
  · omega
theorem st8_ne {s : Nat} (h : s < 4294967296) (hz : s ≠ 0) : st8 s ≠ 0 := by
  have h1 := st_lt h; have h2 := st_lt h1; have h3 := st_lt h2; have h4 := st_lt h3; have h5 := st_lt h4; have h6 := st_lt h5; have h7 := st_lt h6
  exact st_ne h7 (st_ne h6 (st_ne h5 (st_ne h4 (st_ne h3 (st_ne h2 (st_ne h1 (st_ne h hz)))))))
/-- what is behind carries a difference on -/
theorem run_diff : ∀ (l : List UInt8) (s d : Nat), run (s ^^^ d) l = run s l ^^^ (l.foldl (fun d _ => st8 d) d)
  | [], _, _ => rfl
  | b :: l, s, d => by
    show run (st8 (s ^^^ d ^^^ b.toNat)) l = run (st8 (s ^^^ b.toNat)) l ^^^ _
    rw [Nat.xor_assoc, Nat.xor_comm d, ← Nat.xor_assoc, st8_xor]
    exact run_diff l _ _
theorem carry_ne : ∀ (l : List UInt8) {d : Nat}, d < 4294967296 → d ≠ 0 → l.foldl (fun d _ => st8 d) d ≠ 0
  | [], _, _, h => h
  | _ :: l, _, hd, h => carry_ne l (st8_lt hd) (st8_ne hd h)
theorem carry_zero : ∀ (l : List UInt8), l.foldl (fun d _ => st8 d) 0 = 0
  | [] => rfl
  | _ :: l => by show l.foldl (fun d _ => st8 d) (st8 0) = 0; rw [show st8 0 = 0 from by decide]; exact carry_zero l

/-- the bytes that turn, as one number -/
def numOf : List UInt8 → Nat
  | [] => 0
  | x :: xs => x.toNat ^^^ 256 * numOf xs
def stN : Nat → Nat → Nat
  | 0, d => d
  | n + 1, d => stN n (st8 d)
theorem st8_256 (q : Nat) : st8 (256 * q) = q := by
  have : 256 * q = 2 * (2 * (2 * (2 * (2 * (2 * (2 * (2 * q))))))) := by omega
  unfold st8; rw [this]; simp only [st_two]
def xors (l xs : List UInt8) : List UInt8 := List.zipWith (· ^^^ ·) l xs
theorem run_xors : ∀ (l xs : List UInt8) (s d : Nat), l.length = xs.length → run (s ^^^ d) (xors l xs) = run s l ^^^ stN l.length (d ^^^ numOf xs)
  | [], [], _, _, _ => by simp [run, xors, stN, numOf]
  | b :: l, x :: xs, s, d, h => by
    show run (st8 (s ^^^ d ^^^ (b ^^^ x).toNat)) (xors l xs) = run (st8 (s ^^^ b.toNat)) l ^^^ stN l.length (st8 (d ^^^ (x.toNat ^^^ 256 * numOf xs)))
    have e : s ^^^ d ^^^ (b ^^^ x).toNat = (s ^^^ b.toNat) ^^^ (d ^^^ x.toNat) := by
      rw [UInt8.toNat_xor]; ac_rfl
    rw [e, st8_xor, run_xors l xs _ _ (by simpa using h), ← Nat.xor_assoc, st8_xor (d ^^^ x.toNat), st8_256]
theorem stN_ne : ∀ (n : Nat) {d : Nat}, d < 4294967296 → d ≠ 0 → stN n d ≠ 0
  | 0, _, _, h => h
  | n + 1, _, hd, h => stN_ne n (st8_lt hd) (st8_ne hd h)
theorem stN_lt : ∀ (n : Nat) {d : Nat}, d < 4294967296 → stN n d < 4294967296
  | 0, _, h => h
  | n + 1, _, h => stN_lt n (st8_lt h)
theorem stN_zero : ∀ (n : Nat), stN n 0 = 0
  | 0 => rfl
  | n + 1 => by show stN n (st8 0) = 0; rw [show st8 0 = 0 from by decide]; exact stN_zero n
theorem xor_add256 (x : UInt8) (q : Nat) : x.toNat ^^^ 256 * q = x.toNat + 256 * q := by
  have hx := u8_lt x
  have h := Nat.shiftLeft_add_eq_or_of_lt (a := q) (b := x.toNat) (i := 8) (by omega)
  apply Nat.eq_of_testBit_eq
  intro i
  rw [Nat.add_comm, show 256 * q = q <<< 8 by rw [Nat.shiftLeft_eq]; omega, h, Nat.testBit_xor, Nat.testBit_or]
  by_cases hi : 8 ≤ i
  · have : Nat.testBit x.toNat i = false := Nat.testBit_lt_two_pow (Nat.lt_of_lt_of_le hx (show 2 ^ 8 ≤ 2 ^ i from Nat.pow_le_pow_right (by decide) hi))
    simp [this]
  · have : Nat.testBit (q <<< 8) i = false := by rw [Nat.testBit_shiftLeft]; simp [hi]
    simp [this]
theorem numOf_lt : ∀ (xs : List UInt8), numOf xs < 256 ^ xs.length
  | [] => by decide
  | x :: xs => by
    have := numOf_lt xs
    have hx := u8_lt x
    show x.toNat ^^^ 256 * numOf xs < 256 ^ (xs.length + 1)
    rw [xor_add256, Nat.pow_succ]; omega
theorem numOf_zero : ∀ (xs : List UInt8), numOf xs = 0 ↔ ∀ x ∈ xs, x = 0
  | [] => by simp [numOf]
  | x :: xs => by
    have ih := numOf_zero xs
    show x.toNat ^^^ 256 * numOf xs = 0 ↔ _
    rw [xor_add256, List.forall_mem_cons, ← ih, ← UInt8.toNat_inj]
    simp; omega

/-- up to four neighbours are turned: another sum -/
theorem tells (p l xs r : List UInt8) (h : l.length = xs.length) (h4 : xs.length ≤ 4) (s : Nat) :
    sumOf s (p ++ (l ++ r)) = sumOf s (p ++ (xors l xs ++ r)) ↔ ∀ x ∈ xs, x = 0 := by
  have hN : numOf xs < 4294967296 := Nat.lt_of_lt_of_le (numOf_lt xs) (Nat.le_trans (Nat.pow_le_pow_right (by decide) h4) (by decide))
  rw [← numOf_zero]
  unfold sumOf
  rw [run_app, run_app, run_app, run_app]
  generalize run (s ^^^ 4294967295) p = A
  have e := run_xors l xs A 0 h
  rw [Nat.xor_zero, Nat.zero_xor] at e
  rw [e, run_diff r]
  generalize run (run A l) r = B
  constructor
  · intro e
    apply Decidable.byContradiction
    intro hz
    have h1 := carry_ne r (stN_lt l.length hN) (stN_ne l.length hN hz)
    apply h1
    have := congrArg (· ^^^ 4294967295) e
    simp only [xor_xor] at this
    have h2 := congrArg (B ^^^ ·) this
    simp only [Nat.xor_self, ← Nat.xor_assoc, Nat.zero_xor] at h2
    exact h2.symm
  · intro e
    rw [e, stN_zero, carry_zero, Nat.xor_zero]

/-! ### The bytes as the law turns them, one by one -/
def mk (b xs : List UInt8) (a k : Nat) : List UInt8 := b.take a ++ (xors ((b.drop a).take k) (xs.take k) ++ b.drop (a + k))
theorem xors_length (l xs : List UInt8) : (xors l xs).length = min l.length xs.length := by simp [xors]
theorem mk_length (b xs : List UInt8) (a k : Nat) (h1 : a + k ≤ b.length) (h2 : k ≤ xs.length) : (mk b xs a k).length = b.length := by
  unfold mk; simp [xors_length]; omega
theorem mk_tells (b xs : List UInt8) (a k : Nat) (h1 : a + k ≤ b.length) (h2 : k ≤ xs.length) (h4 : k ≤ 4) (s : Nat) : sumOf s b = sumOf s (mk b xs a k) ↔ ∀ x ∈ xs.take k, x = 0 := by
  have e : b = b.take a ++ ((b.drop a).take k ++ b.drop (a + k)) := by
    rw [← List.drop_drop, List.take_append_drop, List.take_append_drop]
  have := tells (b.take a) ((b.drop a).take k) (xs.take k) (b.drop (a + k)) (by simp; omega) (by simp; omega) s
  rw [← e] at this
  exact this

end Go.Proofs.YtdofgniemkahnaaDoor


namespace Go.Proofs.YtdofgniemkahnaaDoor
set_option linter.unusedVariables false
set_option linter.unusedSimpArgs false
set_option maxRecDepth 100000

/-- a sum as four bytes, the lowest first -/
def sum4 (n : Nat) : List UInt8 := [(n % 256).toUInt8, (n / 256 % 256).toUInt8, (n / 65536 % 256).toUInt8, (n / 16777216 % 256).toUInt8]
theorem sum4_length (n : Nat) : (sum4 n).length = 4 := rfl
theorem u8_eq_of {a b : Nat} (ha : a < 256) (hb : b < 256) (h : a.toUInt8 = b.toUInt8) : a = b := by
  have := congrArg UInt8.toNat h
  rwa [toNat_small ha, toNat_small hb] at this
theorem sum4_inj {a b : Nat} (ha : a < 4294967296) (hb : b < 4294967296) (h : sum4 a = sum4 b) : a = b := by
  unfold sum4 at h
  simp only [List.cons.injEq, and_true] at h
  obtain ⟨h0, h1, h2, h3⟩ := h
  have e0 := u8_eq_of (by omega) (by omega) h0
  have e1 := u8_eq_of (by omega) (by omega) h1
  have e2 := u8_eq_of (by omega) (by omega) h2
  have e3 := u8_eq_of (by omega) (by omega) h3
  omega
/-- four bytes as a number -/
def num4 (a b c d : UInt8) : Nat := a.toNat + 256 * b.toNat + 65536 * c.toNat + 16777216 * d.toNat
theorem num4_lt (a b c d : UInt8) : num4 a b c d < 4294967296 := by
  have := a.toNat_lt; have := b.toNat_lt; have := c.toNat_lt; have := d.toNat_lt
  unfold num4; omega
theorem sum4_num4 (a b c d : UInt8) : sum4 (num4 a b c d) = [a, b, c, d] := by
  have ha := a.toNat_lt; have hb := b.toNat_lt; have hc := c.toNat_lt; have hd := d.toNat_lt
  have e : ∀ (n : Nat) (x : UInt8), n = x.toNat → n.toUInt8 = x := by intro n x h; subst h; simp
  unfold sum4 num4
  rw [e _ a (by omega), e _ b (by omega), e _ c (by omega), e _ d (by omega)]
theorem num4_is (a b c d : UInt8) (n : Nat) (hn : n < 4294967296) : (num4 a b c d = n) ↔ ([a, b, c, d] = sum4 n) := by
  constructor
  · intro h; rw [← h, sum4_num4]
  · intro h
    rw [← sum4_num4] at h
    exact sum4_inj (num4_lt _ _ _ _) hn h

/-- a frame's bytes -/
def frameB (l : List UInt8) : List UInt8 := Lib.uvarint l.length ++ (sum4 (sumOf 0 l) ++ l)
/-- the number that a frame's head says, and how many bytes it has: 0, if there is none -/
def hN (l : List UInt8) : Nat := match rd 0 0 l with | none => 0 | some (n, _) => if n ≤ 1048576 then n else 0
def hS (l : List UInt8) : Nat := match rd 0 0 l with | none => 0 | some (n, r) => if n ≤ 1048576 then l.length - r.length else 0
def fits (l : List UInt8) : Bool := decide (hS l ≠ 0 ∧ hS l + 4 + hN l ≤ l.length)
def bodyF (l : List UInt8) : List UInt8 := (l.drop (hS l + 4)).take (hN l)
def sumOk (l : List UInt8) : Bool := (l.drop (hS l)).take 4 == sum4 (sumOf 0 (bodyF l))
def gE (l : List UInt8) : Nat := if fits l then (if sumOk l then 0 else 13) else 2
def gB (l : List UInt8) : List UInt8 := if fits l && sumOk l then bodyF l else []
def gN (l : List UInt8) : Nat := if fits l && sumOk l then hS l + 4 + hN l else 0

theorem uv_len3 {n : Nat} (h : n < 2097152) : (Lib.uvarint n).length ≤ 3 := by
  by_cases h1 : n < 128
  · rw [Lib.uvarint_small h1]; simp
  · rw [Lib.uvarint_big (by omega)]
    by_cases h2 : n / 128 < 128
    · rw [Lib.uvarint_small h2]; simp
    · rw [Lib.uvarint_big (by omega)]
      rw [Lib.uvarint_small (by omega)]; simp
theorem uv_pos (n : Nat) : 1 ≤ (Lib.uvarint n).length := by
  by_cases h1 : n < 128
  · rw [Lib.uvarint_small h1]; simp
  · rw [Lib.uvarint_big (by omega)]; simp
theorem uv_big20 : (Lib.uvarint 1048576).length = 3 := by decide +kernel

theorem hS_le (l : List UInt8) : hS l ≤ l.length := by
  unfold hS; split
  · omega
  · split <;> omega
theorem hN_le (l : List UInt8) : hN l ≤ 1048576 := by
  unfold hN; split
  · omega
  · split <;> omega
theorem head_some {l : List UInt8} {n : Nat} {r : List UInt8} (h : rd 0 0 l = some (n, r)) (hn : n ≤ 1048576) : hN l = n ∧ hS l = l.length - r.length := by
  unfold hN hS; rw [h]; simp [hn]
theorem head_big {l : List UInt8} {n : Nat} {r : List UInt8} (h : rd 0 0 l = some (n, r)) (hn : ¬ n ≤ 1048576) : hN l = 0 ∧ hS l = 0 := by
  unfold hN hS; rw [h]; simp [hn]
theorem head_none {l : List UInt8} (h : rd 0 0 l = none) : hN l = 0 ∧ hS l = 0 := by
  unfold hN hS; rw [h]; exact ⟨rfl, rfl⟩
theorem head_own {n : Nat} (hn : n ≤ 1048576) (r : List UInt8) : hN (Lib.uvarint n ++ r) = n ∧ hS (Lib.uvarint n ++ r) = (Lib.uvarint n).length := by
  have h := rd_own (n := n) (by unfold two64; omega) r
  have h2 := head_some h hn
  refine ⟨h2.1, ?_⟩
  rw [h2.2, List.length_append]; omega

/-- three bytes are enough to tell a head -/
theorem head3 (l : List UInt8) : (mostB (l.take 3) 1048576 = true ∧ hN l = 0 ∧ hS l = 0) ∨
    (mostB (l.take 3) 1048576 = false ∧ mostV (l.take 3) 1048576 = hN l ∧ (l.take 3).length = hS l + (mostR (l.take 3) 1048576).length ∧ 1 ≤ hS l) := by
  cases h3 : rd 0 0 (l.take 3) with
  | none =>
    left
    obtain ⟨h31, h32, h33, h34⟩ := rest_none h3
    refine ⟨?_, ?_⟩
    · unfold mostB; split
      · exact h32
      · rfl
    · cases h : rd 0 0 l with
      | none => exact head_none h
      | some p =>
        obtain ⟨n, r⟩ := p
        by_cases hn : n ≤ 1048576
        · exfalso
          have hl := rd_is h
          have h1 := uv_len3 (n := n) (by omega)
          have ht : l.take 3 = Lib.uvarint n ++ r.take (3 - (Lib.uvarint n).length) := by
            rw [hl, List.take_append, List.take_of_length_le h1]
          rw [ht, rd_own (by unfold two64; omega)] at h3
          cases h3
        · exact head_big h hn
  | some p =>
    obtain ⟨n, r⟩ := p
    obtain ⟨h31, h32, h33, h34⟩ := rest_some h3
    have hlt := rd_lt h3
    have ht := rd_is h3
    have hl : l = Lib.uvarint n ++ (r ++ l.drop 3) := by
      rw [← List.append_assoc, ← ht, List.take_append_drop]
    have h : rd 0 0 l = some (n, r ++ l.drop 3) := by
      conv => lhs; rw [hl]
      exact rd_own hlt _
    by_cases hn : n ≤ 1048576
    · right
      have hok : mostOk (l.take 3) 1048576 = true := by unfold mostOk; rw [decide_eq_true]; rw [h33]; omega
      have hh := head_some h hn
      have hlen : (l.take 3).length = (Lib.uvarint n).length + r.length := by rw [ht, List.length_append]
      have hlen2 : l.length = (Lib.uvarint n).length + (r.length + (l.drop 3).length) := by
        conv => lhs; rw [hl]
        simp only [List.length_append]
      have hp := uv_pos n
      refine ⟨?_, ?_, ?_, ?_⟩
      · unfold mostB; rw [if_pos hok]; exact h32
      · unfold mostV; rw [if_pos hok, h33, hh.1]
      · unfold mostR; rw [if_pos hok, h31, hh.2, List.length_append]; omega
      · rw [hh.2, List.length_append]; omega
    · left
      have hok : mostOk (l.take 3) 1048576 = false := by unfold mostOk; rw [decide_eq_false]; rw [h33]; omega
      refine ⟨?_, head_big h hn⟩
      unfold mostB; rw [hok]; rfl

/-- what the document's source tells of a frame -/
theorem ref_bad (l : List UInt8) : cutB (cutR (mostR l 1048576) 4) (cutB (mostR l 1048576) (mostB l 1048576) 4) (mostV l 1048576) = !fits l := by
  cases h : rd 0 0 l with
  | none =>
    obtain ⟨h1, h2, h3, h4⟩ := rest_none h
    have hh := head_none h
    have : mostB l 1048576 = true := by
      unfold mostB; split
      · exact h2
      · rfl
    unfold fits; rw [this, hh.2]; unfold cutB; simp
  | some p =>
    obtain ⟨n, r⟩ := p
    obtain ⟨h1, h2, h3, h4⟩ := rest_some h
    by_cases hn : n ≤ 1048576
    · have hh := head_some h hn
      have hl := rd_is h
      have hok : mostOk l 1048576 = true := by unfold mostOk; rw [decide_eq_true]; rw [h3]; omega
      have hlen : l.length = (Lib.uvarint n).length + r.length := by rw [← List.length_append, ← hl]
      have hp := uv_pos n
      have hf : fits l = decide (4 + n ≤ r.length) := by
        unfold fits; rw [hh.1, hh.2]
        rw [show l.length - r.length = (Lib.uvarint n).length by omega]
        exact decide_eq_decide.2 ⟨fun h => by omega, fun h => by omega⟩
      unfold mostR mostB mostV; rw [hok, if_pos rfl, if_pos rfl, if_pos rfl, h1, h2, h3, hf]
      clear hf hlen hh hl h h1 h2 h3 h4 hok
      by_cases h4 : 4 ≤ r.length
      · have hc4 : cutOk r 4 = true := by unfold cutOk; rw [decide_eq_true]; omega
        have e4 : cutR r 4 = r.drop 4 := by unfold cutR; rw [hc4]; rfl
        have e5 : cutB r false 4 = false := by unfold cutB; rw [hc4]; rfl
        rw [e4, e5]
        unfold cutB cutOk
        rw [List.length_drop]
        by_cases h5 : 4 + n ≤ r.length
        · rw [decide_eq_true (by omega), decide_eq_true h5]; rfl
        · rw [decide_eq_false (by omega), decide_eq_false h5]; rfl
      · have hc4 : cutOk r 4 = false := by unfold cutOk; rw [decide_eq_false]; omega
        have e5 : cutB r false 4 = true := by unfold cutB; rw [hc4]; rfl
        rw [e5, decide_eq_false (by omega)]
        unfold cutB; simp
    · have hh := head_big h hn
      have hok : mostOk l 1048576 = false := by unfold mostOk; rw [decide_eq_false]; rw [h3]; omega
      unfold mostR mostB mostV fits; rw [hok, hh.2]; unfold cutB; simp

theorem ref_fit {l : List UInt8} (h : fits l = true) : cutT (mostR l 1048576) 4 = (l.drop (hS l)).take 4 ∧ ((l.drop (hS l)).take 4).length = 4 ∧ mostV l 1048576 = hN l ∧
    cutT (cutR (mostR l 1048576) 4) (mostV l 1048576) = bodyF l ∧ cutR (cutR (mostR l 1048576) 4) (mostV l 1048576) = l.drop (hS l + 4 + hN l) ∧ mostB l 1048576 = false := by
  unfold fits at h
  have h0 := of_decide_eq_true h
  cases hr : rd 0 0 l with
  | none => rw [(head_none hr).2] at h0; omega
  | some p =>
    obtain ⟨n, r⟩ := p
    obtain ⟨h1, h2, h3, h4⟩ := rest_some hr
    by_cases hn : n ≤ 1048576
    · have hh := head_some hr hn
      have hl := rd_is hr
      have hok : mostOk l 1048576 = true := by unfold mostOk; rw [decide_eq_true]; rw [h3]; omega
      have hlen : l.length = (Lib.uvarint n).length + r.length := by rw [← List.length_append, ← hl]
      have hs : hS l = (Lib.uvarint n).length := by rw [hh.2]; omega
      have hd : l.drop (hS l) = r := by rw [hs]; conv => lhs; rw [hl]
                                        simp
      have hd4 : l.drop (hS l + 4) = r.drop 4 := by rw [← hd, List.drop_drop]
      have hd5 : l.drop (hS l + 4 + hN l) = (r.drop 4).drop n := by rw [← hd4, List.drop_drop, hh.1]
      have hb : bodyF l = (r.drop 4).take n := by unfold bodyF; rw [hd4, hh.1]
      rw [hd, hd5, hb]
      rw [hs, hh.1] at h0
      have hc4 : cutOk r 4 = true := by unfold cutOk; rw [decide_eq_true]; omega
      have hcn : cutOk (r.drop 4) n = true := by unfold cutOk; rw [decide_eq_true]; rw [List.length_drop]; omega
      unfold mostR mostB mostV
      rw [hok, if_pos rfl, if_pos rfl, if_pos rfl, h1, h2, h3, hh.1]
      have e4 : cutR r 4 = r.drop 4 := by unfold cutR; rw [hc4]; rfl
      refine ⟨?_, ?_, rfl, ?_, ?_, rfl⟩
      · unfold cutT; rw [hc4]; rfl
      · rw [List.length_take]; omega
      · rw [e4]; unfold cutT; rw [hcn]; rfl
      · rw [e4]; unfold cutR; rw [hcn]; rfl
    · rw [(head_big hr hn).2] at h0; omega

/-! ### What is put is got -/
theorem parts_of {n : Nat} (hn : n ≤ 1048576) (q c more : List UInt8) (hq : q.length = 4) (hc : c.length = n) :
    hN (Lib.uvarint n ++ (q ++ (c ++ more))) = n ∧ hS (Lib.uvarint n ++ (q ++ (c ++ more))) = (Lib.uvarint n).length ∧ fits (Lib.uvarint n ++ (q ++ (c ++ more))) = true ∧ bodyF (Lib.uvarint n ++ (q ++ (c ++ more))) = c ∧
      sumOk (Lib.uvarint n ++ (q ++ (c ++ more))) = (q == sum4 (sumOf 0 c)) := by
  obtain ⟨h1, h2⟩ := head_own hn (q ++ (c ++ more))
  have hp := uv_pos n
  have hb : bodyF (Lib.uvarint n ++ (q ++ (c ++ more))) = c := by
    unfold bodyF
    rw [h1, h2, ← List.drop_drop, List.drop_left, ← hq, List.drop_left, ← hc, List.take_left]
  refine ⟨h1, h2, ?_, hb, ?_⟩
  · unfold fits; rw [h1, h2, decide_eq_true]; simp only [List.length_append]; omega
  · unfold sumOk
    rw [hb, h2, List.drop_left, ← hq, List.take_left]
theorem frame_length (l : List UInt8) : (frameB l).length = (Lib.uvarint l.length).length + 4 + l.length := by
  unfold frameB; simp only [List.length_append, sum4_length]; omega
theorem got_own {l : List UInt8} (hl : l.length ≤ 1048576) (more : List UInt8) : gE (frameB l ++ more) = 0 ∧ gB (frameB l ++ more) = l ∧ gN (frameB l ++ more) = (frameB l).length := by
  have e : frameB l ++ more = Lib.uvarint l.length ++ (sum4 (sumOf 0 l) ++ (l ++ more)) := by unfold frameB; simp only [List.append_assoc]
  obtain ⟨h1, h2, h3, h4, h5⟩ := parts_of hl (sum4 (sumOf 0 l)) l more rfl rfl
  have h6 : sumOk (frameB l ++ more) = true := by rw [e, h5, beq_self_eq_true]
  rw [← e] at h1 h2 h3 h4
  unfold gE gB gN
  rw [h3, h6]
  refine ⟨rfl, h4, ?_⟩
  rw [frame_length]
  simp [h1, h2]

/-! ### What is told of a changed body -/
theorem mk_behind (p b xs : List UInt8) (a k : Nat) : mk (p ++ b) xs (p.length + a) k = p ++ mk b xs a k := by
  unfold mk
  have e1 : (p ++ b).take (p.length + a) = p ++ b.take a := by rw [List.take_append, List.take_of_length_le (by omega)]; simp
  have e2 : (p ++ b).drop (p.length + a) = b.drop a := by rw [List.drop_append, List.drop_of_length_le (by omega)]; simp
  have e3 : (p ++ b).drop (p.length + a + k) = b.drop (a + k) := by rw [Nat.add_assoc, List.drop_append, List.drop_of_length_le (by omega)]; simp
  rw [e1, e2, e3, List.append_assoc]
theorem told {l xs : List UInt8} (hl : l.length ≤ 1048576) (a k : Nat) (h1 : a + k ≤ l.length) (h2 : k ≤ xs.length) (h4 : k ≤ 4) (hk : 0 < k) (hx : ∀ h : 0 < xs.length, xs[0] ≠ 0) :
    gE (mk (frameB l) xs ((frameB l).length - l.length + a) k) = 13 := by
  have hlen := frame_length l
  have e0 : frameB l = (Lib.uvarint l.length ++ sum4 (sumOf 0 l)) ++ l := by unfold frameB; rw [List.append_assoc]
  have el : (frameB l).length - l.length = (Lib.uvarint l.length ++ sum4 (sumOf 0 l)).length := by rw [List.length_append, sum4_length]; omega
  have e : mk (frameB l) xs ((frameB l).length - l.length + a) k = Lib.uvarint l.length ++ (sum4 (sumOf 0 l) ++ (mk l xs a k ++ [])) := by
    rw [el, e0, mk_behind, List.append_nil, List.append_assoc]
  obtain ⟨h1', h2', h3', h4', h5'⟩ := parts_of hl (sum4 (sumOf 0 l)) (mk l xs a k) [] rfl (mk_length l xs a k h1 h2)
  have hne : sum4 (sumOf 0 l) ≠ sum4 (sumOf 0 (mk l xs a k)) := by
    intro h
    have h := sum4_inj (sumOf_lt _ (by decide)) (sumOf_lt _ (by decide)) h
    have := (mk_tells l xs a k h1 h2 h4 0).1 h
    have h0 : 0 < xs.length := by omega
    exact hx h0 (this xs[0] (by
      rw [List.mem_take_iff_getElem]
      exact ⟨0, by omega, rfl⟩))
  rw [e]
  unfold gE
  rw [h3', h5', beq_eq_false_iff_ne.2 hne]
  rfl
/-! ### Frames one behind the other -/
def allF : Nat → List UInt8 → List (List UInt8)
  | 0, _ => []
  | f + 1, l => if gE l = 0 then gB l :: allF f (l.drop (gN l)) else []
def allN : Nat → List UInt8 → Nat
  | 0, _ => 0
  | f + 1, l => if gE l = 0 then gN l + allN f (l.drop (gN l)) else 0

theorem gE_zero {l : List UInt8} (h : gE l = 0) : 5 ≤ gN l ∧ gN l ≤ l.length := by
  unfold gE at h
  unfold gN
  cases hf : fits l
  · rw [hf] at h; simp at h
  · cases hs : sumOk l
    · rw [hf, hs] at h; simp at h
    · simp
      have := of_decide_eq_true (show decide (hS l ≠ 0 ∧ hS l + 4 + hN l ≤ l.length) = true from hf)
      omega
theorem all_step {f : Nat} {l : List UInt8} (h : gE l = 0) (hf : l.length ≤ f) : ∃ f', allF f l = gB l :: allF f' (l.drop (gN l)) ∧ allN f l = gN l + allN f' (l.drop (gN l)) ∧ (l.drop (gN l)).length ≤ f' ∧ f = f' + 1 := by
  have h2 := gE_zero h
  cases f with
  | zero => omega
  | succ f =>
    refine ⟨f, ?_, ?_, by rw [List.length_drop]; omega, rfl⟩
    · rw [allF, if_pos h]
    · rw [allN, if_pos h]
/-- where the frames of l have come so far: pre has been told, and what follows begins at pos -/
def Sofar (l : List UInt8) (pre : List (List UInt8)) (pos : Nat) : Prop :=
  pos ≤ l.length ∧ ∃ f, allF l.length l = pre ++ allF f (l.drop pos) ∧ allN l.length l = pos + allN f (l.drop pos) ∧ (l.drop pos).length ≤ f
theorem Sofar.step {l : List UInt8} {pre : List (List UInt8)} {pos : Nat} (h : Sofar l pre pos) (hg : gE (l.drop pos) = 0) : Sofar l (pre ++ [gB (l.drop pos)]) (pos + gN (l.drop pos)) := by
  obtain ⟨h0, f, h1, h2, h3⟩ := h
  obtain ⟨f', e1, e2, e3, _⟩ := all_step hg h3
  have hz := gE_zero hg
  rw [List.length_drop] at hz
  rw [List.drop_drop] at e1 e2 e3
  exact ⟨by omega, f', by rw [h1, e1]; simp, by rw [h2, e2]; omega, e3⟩
end Go.Proofs.YtdofgniemkahnaaDoor


namespace Go.Proofs.YtdofgniemkahnaaDoor
set_option linter.unusedVariables false
set_option linter.unusedSimpArgs false
set_option maxRecDepth 100000

/-- truths as a number, the first one the lowest -/
def byteOf : List Bool → Nat
  | [] => 0
  | b :: l => b.toNat + 2 * byteOf l
theorem byteOf_lt : ∀ l : List Bool, byteOf l < 2 ^ l.length
  | [] => by simp [byteOf]
  | b :: l => by
    have := byteOf_lt l
    simp only [byteOf, List.length_cons, Nat.pow_succ]
    cases b <;> simp <;> omega
theorem byteOf_snoc : ∀ (l : List Bool) (b : Bool), byteOf (l ++ [b]) = byteOf l + b.toNat * 2 ^ l.length
  | [], b => by simp [byteOf]
  | c :: l, b => by
    have := byteOf_snoc l b
    simp only [List.cons_append, byteOf, this, List.length_cons, Nat.pow_succ]
    cases b <;> simp <;> omega
theorem byteOf_testBit : ∀ (l : List Bool) (i : Nat), (byteOf l).testBit i = l.getD i false
  | [], i => by simp [byteOf]
  | b :: l, 0 => by
    rw [Nat.testBit_zero, byteOf]
    cases b <;> simp <;> omega
  | b :: l, i + 1 => by
    have h := byteOf_testBit l i
    rw [Nat.testBit_succ, byteOf, List.getD_cons_succ, ← h]
    congr 1
    cases b <;> simp <;> omega

def need (n : Nat) : Nat := (n + 7) / 8
/-- the number of the byte at j, of the first p truths -/
def pkn (l : List Bool) (p j : Nat) : Nat := byteOf (((l.take p).drop (8 * j)).take 8)
/-- the bytes of l, of whose truths the first p are laid -/
def pk (l : List Bool) (p : Nat) : List UInt8 := (List.range (need l.length)).map fun j => (pkn l p j).toUInt8
def packB (l : List Bool) : List UInt8 := pk l l.length
theorem pk_length (l : List Bool) (p : Nat) : (pk l p).length = need l.length := by simp [pk]
theorem packB_length (l : List Bool) : (packB l).length = need l.length := pk_length _ _
theorem pkn_lt8 (l : List Bool) (p j : Nat) : pkn l p j < 256 := by
  have h := byteOf_lt (((l.take p).drop (8 * j)).take 8)
  have h2 : (((l.take p).drop (8 * j)).take 8).length ≤ 8 := by simp [List.length_take]; omega
  have h3 := Nat.pow_le_pow_right (show 0 < 2 by decide) h2
  unfold pkn
  omega
theorem pk_zero (l : List Bool) : pk l 0 = List.replicate (need l.length) 0 := by
  unfold pk pkn
  refine List.ext_getElem (by simp) fun i h1 h2 => ?_
  simp [byteOf]
theorem pk_all (l : List Bool) {p : Nat} (h : l.length ≤ p) : pk l p = packB l := by
  unfold packB pk pkn
  rw [List.take_of_length_le h, List.take_of_length_le (Nat.le_refl _)]
theorem pk_at (l : List Bool) {p : Nat} (hp : p < l.length) : (pk l p)[p / 8]? = some (pkn l p (p / 8)).toUInt8 := by
  unfold pk
  have : p / 8 < need l.length := by unfold need; omega
  simp [this]
theorem pkn_part (l : List Bool) {p : Nat} (hp : p < l.length) : ((l.take p).drop (8 * (p / 8))).take 8 = (l.take p).drop (8 * (p / 8)) ∧ ((l.take p).drop (8 * (p / 8))).length = p % 8 := by
  have h : ((l.take p).drop (8 * (p / 8))).length = p % 8 := by simp [List.length_take]; omega
  exact ⟨List.take_of_length_le (by rw [h]; omega), h⟩
theorem pkn_lt (l : List Bool) {p : Nat} (hp : p < l.length) : pkn l p (p / 8) < 2 ^ (p % 8) := by
  obtain ⟨h1, h2⟩ := pkn_part l hp
  unfold pkn
  rw [h1]
  have := byteOf_lt ((l.take p).drop (8 * (p / 8)))
  rwa [h2] at this
theorem pkn_same (l : List Bool) {p j : Nat} (hp : p < l.length) (hj : j ≠ p / 8) : pkn l (p + 1) j = pkn l p j := by
  unfold pkn
  congr 1
  refine List.ext_getElem? fun i => ?_
  simp only [List.getElem?_take, List.getElem?_drop]
  by_cases hi : i < 8
  · simp only [if_pos hi]
    by_cases h1 : 8 * j + i < p
    · rw [if_pos (by omega), if_pos h1]
    · by_cases h2 : 8 * j + i < p + 1
      · omega
      · rw [if_neg h2, if_neg h1]
  · simp only [if_neg hi]
theorem pkn_next (l : List Bool) {p : Nat} (hp : p < l.length) : pkn l (p + 1) (p / 8) = pkn l p (p / 8) + l[p].toNat * 2 ^ (p % 8) := by
  obtain ⟨h1, h2⟩ := pkn_part l hp
  unfold pkn
  rw [h1, List.take_succ_eq_append_getElem hp, List.drop_append_of_le_length (by simp [List.length_take]; omega)]
  rw [List.take_of_length_le (by rw [List.length_append, h2]; simp; omega), byteOf_snoc, h2]
theorem pk_step (l : List Bool) {p : Nat} (hp : p < l.length) : pk l (p + 1) = (pk l p).set (p / 8) (pkn l p (p / 8) + l[p].toNat * 2 ^ (p % 8)).toUInt8 := by
  unfold pk
  refine List.ext_getElem (by simp) fun i h1 h2 => ?_
  rw [List.getElem_set]
  by_cases hi : p / 8 = i
  · rw [if_pos hi]
    subst hi
    simp [pkn_next l hp]
  · rw [if_neg hi]
    simp [pkn_same l hp (Ne.symm hi)]
theorem pk_no (l : List Bool) {p : Nat} (hp : p < l.length) (h : l[p] = false) : pk l (p + 1) = pk l p := by
  rw [pk_step l hp, h]
  have := pk_at l hp
  obtain ⟨h1, h2⟩ := List.getElem?_eq_some_iff.1 this
  refine List.ext_getElem (by simp) fun i h3 h4 => ?_
  rw [List.getElem_set]
  split
  · next e => subst e; rw [h2]; simp
  · rfl
theorem pk_yes (l : List Bool) {p : Nat} (hp : p < l.length) (h : l[p] = true) : pk l (p + 1) = (pk l p).set (p / 8) (pkn l p (p / 8) + 2 ^ (p % 8)).toUInt8 := by
  rw [pk_step l hp, h]; simp
theorem pow8 {t : Nat} (h : t < 8) : 2 ^ t ≤ 128 := by
  have := Nat.pow_le_pow_right (show 0 < 2 by decide) (show t ≤ 7 by omega)
  simpa using this

/-! ### Bits of bytes -/
def bitOf (b : List UInt8) (i : Nat) : Bool := (b.getD (i / 8) 0).toNat.testBit (i % 8)
def unp (b : List UInt8) (n : Nat) : List Bool := (List.range n).map (bitOf b)
/-- b are just so many bytes as n truths need, and no bit beyond these is set -/
def Fit (b : List UInt8) (n : Nat) : Prop := b.length = need n ∧ ∀ i, n ≤ i → bitOf b i = false
theorem unp_length (b : List UInt8) (n : Nat) : (unp b n).length = n := by simp [unp]
theorem unp_succ (b : List UInt8) (n : Nat) : unp b (n + 1) = unp b n ++ [bitOf b n] := by simp [unp, List.range_succ]
theorem u8_testBit (x : UInt8) {i : Nat} (h : 8 ≤ i) : x.toNat.testBit i = false := by
  refine Nat.testBit_lt_two_pow (Nat.lt_of_lt_of_le x.toNat_lt ?_)
  exact Nat.pow_le_pow_right (by decide) h
theorem small8 {m : Nat} (h : m < 256) : m.toUInt8.toNat = m := by
  rw [Nat.toUInt8_eq, UInt8.toNat_ofNat']; omega
theorem packB_bit (l : List Bool) (i : Nat) : bitOf (packB l) i = l.getD i false := by
  unfold bitOf packB pk
  by_cases hj : i / 8 < need l.length
  · rw [List.getD_eq_getElem?_getD, List.getElem?_map, List.getElem?_range hj]
    simp only [Option.map_some, Option.getD_some]
    rw [small8 (pkn_lt8 _ _ _)]
    unfold pkn
    rw [byteOf_testBit, List.take_length, List.getD_eq_getElem?_getD, List.getElem?_take, if_pos (by omega), List.getElem?_drop, List.getD_eq_getElem?_getD, show 8 * (i / 8) + i % 8 = i by omega]
  · rw [List.getD_eq_getElem?_getD, List.getElem?_eq_none (by simp; omega), List.getD_eq_getElem?_getD, List.getElem?_eq_none (by unfold need at hj; omega)]
    simp
theorem unp_pack (l : List Bool) : unp (packB l) l.length = l := by
  unfold unp
  refine List.ext_getElem (by simp) fun i h1 h2 => ?_
  simp [packB_bit, List.getD_eq_getElem?_getD, h2]
theorem pack_fit (l : List Bool) : Fit (packB l) l.length :=
  ⟨packB_length l, fun i hi => by rw [packB_bit, List.getD_eq_getElem?_getD, List.getElem?_eq_none hi]; rfl⟩
theorem fit_of {b : List UInt8} {n : Nat} (h1 : b.length = need n) (h2 : ∀ i, i < 8 * b.length → n ≤ i → bitOf b i = false) : Fit b n := by
  refine ⟨h1, fun i hi => ?_⟩
  by_cases h : i < 8 * b.length
  · exact h2 i h hi
  · unfold bitOf
    rw [List.getD_eq_getElem?_getD, List.getElem?_eq_none (by omega)]
    simp
theorem bit_byte (b : List UInt8) (j t : Nat) (hj : j < b.length) (ht : t < 8) : bitOf b (8 * j + t) = b[j].toNat.testBit t := by
  unfold bitOf
  rw [show (8 * j + t) / 8 = j by omega, show (8 * j + t) % 8 = t by omega, List.getD_eq_getElem?_getD]
  simp [hj]
theorem testBit_div (x t : Nat) : (x / 2 ^ t % 2 == 1) = x.testBit t := by
  rw [Nat.testBit_eq_decide_div_mod_eq]
  by_cases h : x / 2 ^ t % 2 = 1 <;> simp [h]
/-- nothing is left of a byte: the bits from there on are not set -/
theorem left_zero (x t i : Nat) (h : x / 2 ^ t = 0) (hi : t ≤ i) : x.testBit i = false := by
  have : x < 2 ^ t := by
    rcases Nat.div_eq_zero_iff.1 h with h | h
    · exact absurd h (Nat.pos_iff_ne_zero.1 (Nat.pow_pos (by decide)))
    · exact h
  exact Nat.testBit_lt_two_pow (Nat.lt_of_lt_of_le this (Nat.pow_le_pow_right (by decide) hi))
/-- something is left: a bit from there on is set -/
theorem left_some (x t : Nat) (h : x / 2 ^ t ≠ 0) : ∃ i, t ≤ i ∧ x.testBit i = true := by
  obtain ⟨i, hi⟩ := Nat.exists_testBit_of_ne_zero h
  refine ⟨t + i, by omega, ?_⟩
  rw [Nat.testBit_div_two_pow] at hi
  rwa [Nat.add_comm] at hi

/-- the first p of the m truths, the others false -/
def unpTo (b : List UInt8) (m p : Nat) : List Bool := (List.range m).map fun i => decide (i < p) && bitOf b i
theorem unpTo_length (b : List UInt8) (m p : Nat) : (unpTo b m p).length = m := by simp [unpTo]
theorem unpTo_zero (b : List UInt8) (m : Nat) : unpTo b m 0 = List.replicate m false := by
  unfold unpTo
  refine List.ext_getElem (by simp) fun i h1 h2 => by simp
theorem unpTo_all (b : List UInt8) {m p : Nat} (h : m ≤ p) : unpTo b m p = unp b m := by
  unfold unpTo unp
  refine List.map_congr_left fun i hi => ?_
  have : i < p := by have := List.mem_range.1 hi; omega
  simp [this]
theorem unpTo_step (b : List UInt8) {m p : Nat} (h : p < m) : unpTo b m (p + 1) = (unpTo b m p).set p (bitOf b p) := by
  unfold unpTo
  refine List.ext_getElem (by simp) fun i h1 h2 => ?_
  rw [List.getElem_set]
  by_cases hi : p = i
  · subst hi; simp
  · rw [if_neg hi]
    simp only [List.getElem_map, List.getElem_range]
    congr 1
    by_cases h3 : i < p
    · simp [h3, show i < p + 1 by omega]
    · simp [h3, show ¬ i < p + 1 by omega]

/-! ### How many, where, and both together -/
end Go.Proofs.YtdofgniemkahnaaDoor


namespace Go.Proofs.YtdofgniemkahnaaDoor
set_option linter.unusedVariables false
set_option linter.unusedSimpArgs false
set_option maxRecDepth 100000
open Go.RowKit

/-- the document's source in block g; its bytes lie outside the blocks of S, g among them -/
def SAt (w : World) (g : Nat) (S : Nat → Prop) (l : List UInt8) (bad : Bool) : Prop :=
  ∃ v, Blk w g 55 #[v, .bool bad] ∧ Bs w v l ∧ (∀ k, v.ownBlock = some k → ¬ S k) ∧ S g ∧ (bad = true → l = [])

theorem SAt.fr {S S' : Nat → Prop} {w w' : World} {g : Nat} {l : List UInt8} {bad : Bool} (h : SAt w g S l bad) (hf : Fr S' w w') (hn : ¬ S' g) (hs : ∀ k, S' k → S k) : SAt w' g S l bad := by
  obtain ⟨v, h1, h2, h3, h4, h5⟩ := h
  exact ⟨v, h1.fr hf hn, h2.fr hf fun k hk e => h3 k hk (hs k e), h3, h4, h5⟩

theorem rfail_any (g : Nat) (S : Nat → Prop) (l : List UInt8) (bad : Bool) (w : World) (h : SAt w g S l bad) :
    Calls Tryd.prog 49 #[ptr g] w fun e w' => e = .returned (.tuple #[]) ∧ SAt w' g S [] true ∧ Fr (One g) w w' := by
  obtain ⟨v, h1, h2, h3, h4, h5⟩ := h
  have hc0 := h1.cell 0
  have hc1 := h1.cell 1
  have hf0 := h1.frozen 0
  have hf1 := h1.frozen 1
  have HB := Lib.hid h1
  simp at hc0 hc1
  clear h1 h2 h3 h5
  go_enter Tryd.func49, Tryd.ntmps49
  go_wp2
  go_end0
  refine ⟨rfl, ⟨.slice none 0 0, ?_, Bs.nil_ _, (fun k hk => by cases hk), h4, fun _ => rfl⟩, ((Fr.refl _ _).set1 _ _).set1 _ _⟩
  exact (HB.out.set 1 _).set 0 _

theorem SAt.step {w : World} {g : Nat} {S : Nat → Prop} {l l' : List UInt8} {bad : Bool} {v v' : Value} (hB : Blk w g 55 #[v, .bool bad]) (h3 : ∀ k, v.ownBlock = some k → ¬ S k) (h4 : S g)
    (h5 : bad = true → l = []) (hne : l ≠ []) (hbs : Bs w v' l') (hown : v'.ownBlock = v.ownBlock) : SAt (w.setCell ⟨g, 0, none⟩ v') g S l' false := by
  obtain rfl : bad = false := by cases bad with | true => exact absurd (h5 rfl) hne | false => rfl
  have hn : ∀ k, v'.ownBlock = some k → ¬ S k := fun k hk => h3 k (by rw [← hown]; exact hk)
  exact ⟨v', hB.set 0 _, hbs.fr ((Fr.refl (One g) w).set1 0 v') (fun k hk e => hn k hk (by rw [show k = g from e]; exact h4)), hn, h4, fun h => by cases h⟩

theorem or_sum {k acc x : Nat} (hk : k ≤ 9) (ha : acc < 128 ^ k) (hx : x < 128) (h9 : k = 9 → x ≤ 1) :
    IntKind.u64.wrap ((acc : Int) + IntKind.u64.wrap ((x : Int) * 2 ^ (7 * k))) = ((acc + x * 128 ^ k : Nat) : Int) := by
  have hle : (128 : Nat) ^ k ≤ 128 ^ 9 := Nat.pow_le_pow_right (by decide) hk
  rw [pow128_9] at hle
  have hlt : acc + x * 128 ^ k < 18446744073709551616 := by
    by_cases h : k = 9
    · subst h
      have := h9 rfl
      rw [pow128_9] at ha ⊢
      clear hle
      omega
    · have hle8 : (128 : Nat) ^ k ≤ 128 ^ 8 := Nat.pow_le_pow_right (by decide) (by omega)
      rw [pow128_8] at hle8
      have := Nat.mul_le_mul (show x ≤ 127 by omega) hle8
      omega
  rw [pow27, show ((x : Int) * ((128 ^ k : Nat) : Int)) = ((x * 128 ^ k : Nat) : Int) by push_cast; rfl, IntWalk.u64_in ((x * 128 ^ k : Nat) : Int) ⟨by omega, by omega⟩, IntWalk.u64_in _ ⟨by omega, by omega⟩]
  omega

set_option maxHeartbeats 1000000 in
set_option maxRecDepth 20000 in
theorem rsnum_any (g : Nat) (S : Nat → Prop) (l : List UInt8) (bad : Bool) (w : World) (h : SAt w g S l bad) (hl : l.length < 1000000000) :
    Calls Tryd.prog 48 #[ptr g] w fun e w' => e = .returned (.int .u64 (fstN l)) ∧ SAt w' g S (rest l) (fell l) ∧ Fr (One g) w w' := by
  have hfail := rfail_any g S l bad w h
  obtain ⟨v, h1, h2, h3, h4, h5⟩ := h
  have HBs := Lib.hid h2
  have H3 := Lib.hid h3
  obtain ⟨A, cap, rfl, hcap, hA, hcells⟩ := h2
  have hc0 := h1.cell 0
  have hf0 := h1.frozen 0
  have HB := Lib.hid h1
  have H5 := Lib.hid h5
  simp at hc0
  clear h1 h3 h5
  go_enter Tryd.func48, Tryd.ntmps48
  go_wp2
  go_loop [3, 4] (fun n i => ∃ k acc : Nat, k ≤ 9 ∧ k ≤ l.length ∧ i = .int .i64 k ∧ n = .int .u64 acc ∧ acc < 128 ^ k ∧ rd 0 0 l = rd k acc (l.drop k)) (fun _ i => l.length - (intOf i).toNat)
  case atStart => exact ⟨0, 0, by omega, by omega, rfl, rfl, by decide, by simp⟩
  case round =>
    obtain ⟨k, acc, hk9, hk, rfl, rfl, hacc, hrd⟩ := hrel
    by_cases hlt : k < l.length
    · obtain ⟨c, hc⟩ : ∃ c, l[k] = c := ⟨_, rfl⟩
      rw [drop_at hlt hc] at hrd
      cases A with
      | none => exact absurd (hA rfl) (by omega)
      | some a =>
        have hcell := hcells a rfl k hlt
        rw [hc] at hcell
        unfold bv at hcell
        clear hc hcells hA
        have hc256 : c.toNat < 256 := c.toNat_lt
        by_cases hbad : (k = 9 ∧ 1 < c.toNat) ∨ (0 < k ∧ c.toNat = 0)
        · have HN := Lib.hid (rest_none (hrd.trans (rd_bad hbad)))
          clear hrd hacc
          by_cases c0 : c.toNat = 0
          · obtain rfl : c = 0 := by apply UInt8.toNat_inj.1; simpa using c0
            have b1 : 0 < k := by rcases hbad with ⟨_, hb2⟩ | ⟨hb1, _⟩ <;> omega
            simp at hcell
            clear c0 hbad hc256
            by_cases b9 : 9 ≤ k
            all_goals
              go_wp2_with fail
              refine hfail.mono ?_
              rintro e w2 ⟨rfl, hs2, hf2⟩
              go_wp2
              go_ret
              rw [HN.out.1, HN.out.2.1, HN.out.2.2.1]
              exact ⟨rfl, hs2, hf2⟩
          · have b1 : 9 ≤ k := by omega
            have b2 : 1 < c.toNat := by omega
            clear c0 hbad
            go_wp2_with fail
            refine hfail.mono ?_
            rintro e w2 ⟨rfl, hs2, hf2⟩
            go_wp2
            go_ret
            rw [HN.out.1, HN.out.2.1, HN.out.2.2.1]
            exact ⟨rfl, hs2, hf2⟩
        · have hS := or_sum (x := c.toNat % 128) hk9 hacc (by omega) (by omega)
          rw [show ((c.toNat % 128 : Nat) : Int) = (c.toNat : Int) % 128 by omega] at hS
          by_cases c0 : c.toNat = 0
          · have HN := Lib.hid (rest_some (hrd.trans (rd_last hbad (by omega))))
            obtain rfl : c = 0 := by apply UInt8.toNat_inj.1; simpa using c0
            obtain rfl : k = 0 := by omega
            obtain rfl : acc = 0 := by omega
            obtain ⟨A', c', hrun, hbs', hown'⟩ := slice_lo (some a) l.length cap (0 + 1) .i64 1 (by omega) (by omega) hcap
            have HSL := Lib.hid (SAt.step (l' := l.drop (0 + 1)) HB.out H3.out h4 H5.out (by intro e; subst e; simp at hlt) (hbs' w l rfl HBs.out) hown')
            simp [Addr.add] at hcell
            clear c0 hbad hc256 hS hrd hacc hbs' hown'
            go_wp2_with fail
            go_ret
            rw [HN.out.1, HN.out.2.1, HN.out.2.2.1]
            exact ⟨by simp, HSL.out, (Fr.refl _ _).set1 _ _⟩
          · have b1 : 0 < c.toNat := by omega
            have b2 : ((c.toNat : Int) == 0) = false := by rw [beq_eq_false_iff_ne]; omega
            by_cases b3 : c.toNat < 128
            · have HN := Lib.hid (rest_some (hrd.trans (rd_last hbad b3)))
              by_cases b9 : k = 9
              · subst b9
                obtain ⟨A', c', hrun, hbs', hown'⟩ := slice_lo (some a) l.length cap (9 + 1) .i64 10 (by omega) (by omega) hcap
                have HSL := Lib.hid (SAt.step (l' := l.drop (9 + 1)) HB.out H3.out h4 H5.out (by intro e; subst e; simp at hlt) (hbs' w l rfl HBs.out) hown')
                have b4 : c.toNat ≤ 1 := by omega
                have HE := Lib.hid (show acc + c.toNat % 128 * 128 ^ 9 = acc + c.toNat * 128 ^ 9 by rw [show c.toNat % 128 = c.toNat by omega])
                rw [show (2 : Int) ^ (7 * 9) = 9223372036854775808 by decide, IntWalk.u64_in ((c.toNat : Int) % 128 * 9223372036854775808) ⟨by omega, by omega⟩] at hS
                simp [Addr.add] at hcell
                clear hbad c0 hrd hacc hbs' hown'
                go_wp2_with fail
                all_goals
                  go_ret
                  rw [HN.out.1, HN.out.2.1, HN.out.2.2.1, ← HE.out]
                  exact ⟨rfl, HSL.out, (Fr.refl _ _).set1 _ _⟩
              · obtain ⟨A', c', hrun, hbs', hown'⟩ := slice_lo (some a) l.length cap (k + 1) .i64 ((k : Int) + 1) (by omega) (by omega) hcap
                have HSL := Lib.hid (SAt.step (l' := l.drop (k + 1)) HB.out H3.out h4 H5.out (by intro e; subst e; simp at hlt) (hbs' w l rfl HBs.out) hown')
                have b4 : k < 9 := by omega
                have HE := Lib.hid (show acc + c.toNat % 128 * 128 ^ k = acc + c.toNat * 128 ^ k by rw [show c.toNat % 128 = c.toNat by omega])
                clear hbad c0 hrd hacc hbs' hown' b9
                go_wp2_with fail
                all_goals
                  go_ret
                  rw [HN.out.1, HN.out.2.1, HN.out.2.2.1, ← HE.out]
                  exact ⟨rfl, HSL.out, (Fr.refl _ _).set1 _ _⟩
            · have HN := Lib.hid (hrd.trans (rd_more hbad (by omega)))
              have b4 : k < 9 := by omega
              have b5 : 128 ≤ c.toNat := by omega
              have HA2 := Lib.hid (show acc + c.toNat % 128 * 128 ^ k < 128 ^ (k + 1) by
                have h2 : c.toNat % 128 ≤ 127 := by omega
                have h3 := Nat.mul_le_mul_right (128 ^ k) h2
                rw [Nat.pow_succ]; omega)
              have HE := Lib.hid (show acc + (c.toNat - 128) * 128 ^ k = acc + c.toNat % 128 * 128 ^ k by rw [show c.toNat - 128 = c.toNat % 128 by omega])
              clear hrd hacc hbad c0 b3
              go_wp2_with fail
              all_goals
                refine ⟨⟨k + 1, acc + c.toNat % 128 * 128 ^ k, by omega, by omega, by go_num, rfl, HA2.out, ?_⟩, by simp [intOf]; omega⟩
                rw [HN.out, HE.out]
    · have hd : l.drop k = [] := List.drop_eq_nil_of_le (by omega)
      rw [hd] at hrd
      have HN := Lib.hid (rest_none (hrd.trans rfl))
      clear hrd hacc hd hcells
      go_wp2_with fail
      refine hfail.mono ?_
      rintro e w2 ⟨rfl, hs2, hf2⟩
      go_wp2
      go_ret
      rw [HN.out.1, HN.out.2.1, HN.out.2.2.1]
      exact ⟨rfl, hs2, hf2⟩


theorem Src.drew {w : World} {g : Nat} {l : List UInt8} {bad : Bool} (h : Src w g l bad) : Src w.drew g l bad := h
theorem SAt.drew {w : World} {g : Nat} {S : Nat → Prop} {l : List UInt8} {bad : Bool} (h : SAt w g S l bad) : SAt w.drew g S l bad := h
theorem Src.drewN {w : World} {g : Nat} {l : List UInt8} {bad : Bool} (h : Src w g l bad) (n : Nat) : Src (w.drewN n) g l bad := h
theorem SAt.drewN {w : World} {g : Nat} {S : Nat → Prop} {l : List UInt8} {bad : Bool} (h : SAt w g S l bad) (n : Nat) : SAt (w.drewN n) g S l bad := h

end Go.Proofs.YtdofgniemkahnaaDoor


namespace Go.Proofs.YtdofgniemkahnaaDoor
set_option linter.unusedVariables false
set_option linter.unusedSimpArgs false
set_option maxRecDepth 100000
open Go.RowKit

theorem fell_zero {l : List UInt8} (h : fell l = true) : fstN l = 0 ∧ rest l = [] := by
  cases hr : rd 0 0 l with
  | none => exact ⟨(rest_none hr).2.2.1, (rest_none hr).1⟩
  | some p => obtain ⟨n, r⟩ := p; rw [(rest_some hr).2.1] at h; cases h

theorem rest_le (l : List UInt8) : (rest l).length ≤ l.length := by
  cases hr : rd 0 0 l with
  | none => rw [(rest_none hr).1]; simp
  | some p => obtain ⟨n, r⟩ := p; rw [(rest_some hr).1]; exact Nat.le_of_lt (rd_len (by omega) hr)

theorem SAt.cells {w : World} {g : Nat} {S : Nat → Prop} {l : List UInt8} {bad : Bool} (h : SAt w g S l bad) :
    ∃ A c, w.cell? ⟨g, 0, none⟩ = some (.slice A l.length c) ∧ w.cell? ⟨g, 1, none⟩ = some (.bool bad) ∧ w.frozen? ⟨g, 0, none⟩ = false ∧ l.length ≤ c ∧
      Blk w g 55 #[.slice A l.length c, .bool bad] ∧ Bs w (.slice A l.length c) l ∧ (∀ k, (Value.slice A l.length c).ownBlock = some k → ¬ S k) ∧ S g := by
  obtain ⟨v, h1, h2, h3, h4, h5⟩ := h
  have hh := h2
  obtain ⟨A, c, rfl, hc, _, _⟩ := h2
  exact ⟨A, c, h1.cell 0, h1.cell 1, h1.frozen 0, hc, h1, hh, h3, h4⟩

set_option maxHeartbeats 1000000 in
theorem rbelow_any (g : Nat) (S : Nat → Prop) (l : List UInt8) (bad : Bool) (n : Int) (w : World) (h : SAt w g S l bad) (hl : l.length < 1000000000) (hn : n ≤ 9223372036854775807) :
    Calls Tryd.prog 29 #[ptr g, .int .i64 n] w fun e w' => e = .returned (.int .i64 (mostV l (n - 1))) ∧ SAt w' g S (mostR l (n - 1)) (mostB l (n - 1)) ∧ Fr (One g) w w' := by
  have h0 := rsnum_any g S l bad w h hl
  have Hl := Lib.hid (fstN_lt l)
  clear h
  by_cases hok : fell l = false ∧ 1 ≤ n ∧ (fstN l : Int) < n
  · obtain ⟨ok1, ok2, ok3⟩ := hok
    have HV : Hid (mostV l (n - 1) = fstN l ∧ mostR l (n - 1) = rest l ∧ mostB l (n - 1) = fell l) := by
      unfold mostV mostR mostB mostOk
      rw [decide_eq_true ⟨by omega, by omega⟩]; exact ⟨rfl, rfl, rfl⟩
    rw [ok1] at h0
    have HF := Lib.hid ok1
    have hwr : IntKind.u64.wrap n = n := IntWalk.u64_in _ ⟨by omega, by omega⟩
    have hwi : IntKind.i64.wrap (fstN l) = fstN l := IntWalk.i64_in _ ⟨by omega, by omega⟩
    clear hn ok1
    go_enter Tryd.func29, Tryd.ntmps29
    go_wp2_with fail
    refine h0.mono ?_
    rintro e w' ⟨rfl, hs, hf⟩
    obtain ⟨A, c, c0, c1, f0, _⟩ := hs.cells
    go_wp2
    go_ret
    rw [HV.out.1, HV.out.2.1, HV.out.2.2, HF.out]
    exact ⟨rfl, hs, hf⟩
  · have HV : Hid (mostV l (n - 1) = 0 ∧ mostR l (n - 1) = [] ∧ mostB l (n - 1) = true) := by
      unfold mostV mostR mostB mostOk
      cases hf : fell l with
      | true => have := fell_zero hf; refine ⟨?_, ?_, ?_⟩ <;> split <;> first | rfl | exact this.1 | exact this.2
      | false => rw [decide_eq_false (by rw [hf] at hok; simp at hok; omega)]; exact ⟨rfl, rfl, rfl⟩
    have hwr : 1 ≤ n → IntKind.u64.wrap n = n := fun _ => IntWalk.u64_in _ ⟨by omega, by omega⟩
    cases hf : fell l with
    | true =>
      rw [hf] at h0
      clear hn hok hwr
      have HF := Lib.hid hf; clear hf
      go_enter Tryd.func29, Tryd.ntmps29
      go_wp2_with fail
      refine h0.mono ?_
      rintro e w' ⟨rfl, hs, hf⟩
      obtain ⟨A, c, c0, c1, f0, _⟩ := hs.cells
      go_wp2_with fail
      refine (rfail_any g S _ _ _ hs).mono ?_
      rintro e w2 ⟨rfl, hs2, hf2⟩
      go_wp2
      go_ret
      rw [HV.out.1, HV.out.2.1, HV.out.2.2]
      exact ⟨rfl, hs2, hf.trans hf2⟩
    | false =>
      rw [hf] at h0 hok
      have HF := Lib.hid hf; clear hf
      by_cases hneg : n < 1
      · clear hn hok hwr
        go_enter Tryd.func29, Tryd.ntmps29
        go_wp2_with fail
        refine h0.mono ?_
        rintro e w' ⟨rfl, hs, hf⟩
        obtain ⟨A, c, c0, c1, f0, _⟩ := hs.cells
        go_wp2_with fail
        refine (rfail_any g S _ _ _ hs).mono ?_
        rintro e w2 ⟨rfl, hs2, hf2⟩
        go_wp2
        go_ret
        rw [HV.out.1, HV.out.2.1, HV.out.2.2]
        exact ⟨rfl, hs2, hf.trans hf2⟩
      · have hge : n ≤ (fstN l : Int) := by simp at hok; omega
        have hwr' := hwr (by omega)
        clear hn hok hwr
        go_enter Tryd.func29, Tryd.ntmps29
        go_wp2_with fail
        refine h0.mono ?_
        rintro e w' ⟨rfl, hs, hf⟩
        obtain ⟨A, c, c0, c1, f0, _⟩ := hs.cells
        go_wp2_with fail
        refine (rfail_any g S _ _ _ hs).mono ?_
        rintro e w2 ⟨rfl, hs2, hf2⟩
        go_wp2
        go_ret
        rw [HV.out.1, HV.out.2.1, HV.out.2.2]
        exact ⟨rfl, hs2, hf.trans hf2⟩

set_option maxHeartbeats 1000000 in
theorem rtakeO_any (g : Nat) (S : Nat → Prop) (l : List UInt8) (bad : Bool) (n : Int) (w : World) (h : SAt w g S l bad) (hl : l.length < 1000000000) :
    Calls Tryd.prog 47 #[ptr g, .int .i64 n] w fun e w' => ∃ v, e = .returned v ∧ Own w' w.heap.size v (cutT l n) ∧ SAt w' g S (cutR l n) (cutB l bad n) ∧ Fr (One g) w w' := by
  have hfail := rfail_any g S l bad w h
  obtain ⟨A, c, c0, c1, f0, hc, hB, hBs, hS, hSg⟩ := h.cells
  have H5 := Lib.hid (show bad = true → l = [] by obtain ⟨v, _, _, _, _, h5⟩ := h; exact h5)
  have HB := Lib.hid hB
  have HBs := Lib.hid hBs
  have HS := Lib.hid hS
  clear h hB hBs hS
  by_cases hok : bad = false ∧ 0 ≤ n ∧ n ≤ l.length
  · obtain ⟨rfl, h0, h1⟩ := hok
    obtain ⟨k, rfl⟩ := Int.eq_ofNat_of_zero_le h0
    have hk : k ≤ l.length := by omega
    have HV : Hid (cutT l k = l.take k ∧ cutR l k = l.drop k ∧ cutB l false k = false) := by
      unfold cutT cutR cutB cutOk
      rw [decide_eq_true (by omega)]; exact ⟨rfl, rfl, rfl⟩
    obtain ⟨A1, d1, hrun1, hbs1, hown1⟩ := slice_hi A l.length c k .i64 (k : Int) rfl hk hc
    obtain ⟨A2, d2, hrun2, hbs2, hown2⟩ := slice_lo A l.length c k .i64 (k : Int) rfl hk hc
    have HB1 := Lib.hid (fun W h => hbs1 W l rfl h)
    have HB2 := Lib.hid (fun W h => hbs2 W l rfl h)
    have HO2 := Lib.hid hown2
    clear hbs1 hbs2 hown1 hown2 hfail
    have hbe : Own (w.alloc (.cells #[] 5)) w.heap.size (.slice (some ⟨w.heap.size, 0, none⟩) 0 0) [] := World.ownsRow_made w #[] 0 (Nat.le_refl _) (by unfold maxLen; omega) rfl
    have hfa : Fr Non w (w.alloc (.cells #[] 5)) := (Fr.refl _ _).alloc _
    have hg := HB.out.lt
    go_enter Tryd.func47, Tryd.ntmps47
    go_wp2_with (at_builtin; refine wpList_app rfl (.tmp 25) (.tmp 31) rfl w.heap.size _ _ [] (l.take k) rfl hbe rfl (HB1.out _ (HBs.out.non hfa)) (by simp; omega) (by simp) ?_; intro v3 w3 hown3 hfr3; have hfn := hfa.fresh hfr3 (fun k hk => (hbe.lt k hk).1); have hB3 := Lib.hid (HB.out.fr hfn (fun e => e)); have hBs3 := Lib.hid (HBs.out.non hfn); have c03 := hB3.out.cell 0; have f03 := hB3.out.frozen 0; simp at c03)
    go_ret
    rw [HV.out.1, HV.out.2.1, HV.out.2.2]
    have hl' : 0 < l.length ∨ l = [] := by cases l <;> simp
    refine ⟨v3, rfl, ?_, ?_, (hfn.any).set1 _ _⟩
    · have hne : ∀ q, v3.ownBlock = some q → ¬ One g q := fun q hq e => by
        have := (hown3.lt q hq).1
        rw [show q = g from e] at this
        omega
      simpa using hown3.fr ((Fr.refl (One g) _).set1 0 _) hne
    · have hn : ∀ q, (Value.slice A2 (l.length - k) d2).ownBlock = some q → ¬ S q := fun q hq => HS.out q (by rw [← HO2.out]; exact hq)
      exact ⟨_, hB3.out.set 0 _, (HB2.out w3 hBs3.out).fr ((Fr.refl (One g) _).set1 0 _) (fun q hq e => hn q hq (by rw [show q = g from e]; exact hSg)), hn, hSg, fun h => by cases h⟩
  · have HV : Hid (cutT l n = [] ∧ cutR l n = [] ∧ cutB l bad n = true) := by
      cases hb : bad with
      | true =>
        have hl0 := H5.out hb
        subst hl0
        unfold cutT cutR cutB cutOk
        refine ⟨?_, ?_, ?_⟩ <;> split <;> simp
      | false =>
        unfold cutT cutR cutB cutOk
        rw [decide_eq_false (by rw [hb] at hok; simp at hok; omega)]; exact ⟨rfl, rfl, rfl⟩
    cases bad
    · by_cases hneg : n < 0
      · clear hok
        go_enter Tryd.func47, Tryd.ntmps47
        go_wp2_with fail
        refine hfail.mono ?_
        rintro e w2 ⟨rfl, hs2, hf2⟩
        go_wp2
        go_ret
        rw [HV.out.1, HV.out.2.1, HV.out.2.2]
        exact ⟨.slice none 0 0, rfl, own_nil _ _, hs2, hf2⟩
      · have hbig : (l.length : Int) < n := by simp at hok; omega
        clear hok
        go_enter Tryd.func47, Tryd.ntmps47
        go_wp2_with fail
        refine hfail.mono ?_
        rintro e w2 ⟨rfl, hs2, hf2⟩
        go_wp2
        go_ret
        rw [HV.out.1, HV.out.2.1, HV.out.2.2]
        exact ⟨.slice none 0 0, rfl, own_nil _ _, hs2, hf2⟩
    · clear hok
      go_enter Tryd.func47, Tryd.ntmps47
      go_wp2_with fail
      refine hfail.mono ?_
      rintro e w2 ⟨rfl, hs2, hf2⟩
      go_wp2
      go_ret
      rw [HV.out.1, HV.out.2.1, HV.out.2.2]
      exact ⟨.slice none 0 0, rfl, own_nil _ _, hs2, hf2⟩

theorem rtake_any (g : Nat) (S : Nat → Prop) (l : List UInt8) (bad : Bool) (n : Int) (w : World) (h : SAt w g S l bad) (hl : l.length < 1000000000) :
    Calls Tryd.prog 47 #[ptr g, .int .i64 n] w fun e w' => ∃ v, e = .returned v ∧ Bs w' v (cutT l n) ∧ (∀ k, v.ownBlock = some k → w.heap.size ≤ k) ∧ SAt w' g S (cutR l n) (cutB l bad n) ∧ Fr (One g) w w' := by
  refine (rtakeO_any g S l bad n w h hl).mono ?_
  rintro e w' ⟨v, rfl, h1, h2, h3⟩
  exact ⟨v, rfl, h1.bs, fun k hk => (h1.lt k hk).1, h2, h3⟩

end Go.Proofs.YtdofgniemkahnaaDoor


namespace Go.Proofs.YtdofgniemkahnaaDoor
set_option linter.unusedVariables false
set_option linter.unusedSimpArgs false
set_option maxRecDepth 100000
open Go.RowKit

theorem mostR_sm (l : List UInt8) (m : Int) : (mostR l m).length ≤ l.length := by
  unfold mostR
  split
  · exact rest_le l
  · simp

theorem most_own {n : Nat} {m : Int} (hn : (n : Int) ≤ m) (h2 : n < two64) (r : List UInt8) : mostV (Lib.uvarint n ++ r) m = n ∧ mostR (Lib.uvarint n ++ r) m = r ∧ mostB (Lib.uvarint n ++ r) m = false := by
  obtain ⟨h1, h3, h4, _⟩ := rest_some (rd_own h2 r)
  have hm : mostOk (Lib.uvarint n ++ r) m = true := decide_eq_true ⟨by omega, by rw [h4]; exact hn⟩
  unfold mostV mostR mostB
  rw [hm]
  simp only [if_true, h1, h3, h4]
  exact ⟨trivial, trivial, trivial⟩
end Go.Proofs.YtdofgniemkahnaaDoor


namespace Go.Proofs.YtdofgniemkahnaaDoor
set_option linter.unusedVariables false
set_option linter.unusedSimpArgs false
set_option maxRecDepth 100000
open Go.RowKit

/-- a cell: null or not, its number, its text -/
structure Cl where
  null : Bool
  num : Int
  txt : List UInt8
  deriving DecidableEq
end Go.Proofs.YtdofgniemkahnaaDoor


namespace Go.Proofs.YtdofgniemkahnaaDoor
set_option linter.unusedVariables false
set_option linter.unusedSimpArgs false
set_option maxRecDepth 100000
open Go.RowKit

/-- the bytes -/
def sayD (l : List Bool) : List UInt8 := Lib.uvarint l.length ++ packB l
def deadB (l : List Bool) : List UInt8 := if l.length ≤ 200 then frameB (sayD l) else []
theorem sayD_len {l : List Bool} (h : l.length ≤ 300) : (sayD l).length ≤ 60 := by
  unfold sayD
  rw [List.length_append, packB_length]
  have := Lib.uvarint_length64 (show l.length < two64 by unfold two64; omega)
  unfold need; omega
/-- do a frame's bytes tell some rows? -/
def TellD (x : List UInt8) : Prop := mostB x 200 = false ∧ Fit (mostR x 200) (mostV x 200)
def tellD (x : List UInt8) : List Bool := unp (mostR x 200) (mostV x 200)
open Classical in
/-- what Get answers -/
noncomputable def getD14 (b : List UInt8) (n : Int) : List Bool × Nat :=
  if gE b ≠ 0 then ([], gE b) else if TellD (gB b) ∧ (mostV (gB b) 200 : Int) = n ∧ gN b = b.length then (tellD (gB b), 0) else ([], 2)
theorem getD_err {b : List UInt8} {n : Int} (h : gE b ≠ 0) : getD14 b n = ([], gE b) := by unfold getD14; rw [if_pos h]
theorem getD_no {b : List UInt8} {n : Int} (h : gE b = 0) (h2 : ¬ (TellD (gB b) ∧ (mostV (gB b) 200 : Int) = n ∧ gN b = b.length)) : getD14 b n = ([], 2) := by
  unfold getD14; rw [if_neg (fun e => e h), if_neg h2]
theorem getD_yes {b : List UInt8} {n : Int} (h : gE b = 0) (h2 : TellD (gB b) ∧ (mostV (gB b) 200 : Int) = n ∧ gN b = b.length) : getD14 b n = (tellD (gB b), 0) := by
  unfold getD14; rw [if_neg (fun e => e h), if_pos h2]
theorem tellD_len (x : List UInt8) : (tellD x).length = mostV x 200 := unp_length _ _
theorem mostV_leD (l : List UInt8) {m : Int} (hm : 0 ≤ m) : (mostV l m : Int) ≤ m := by
  unfold mostV
  split
  · rename_i h; unfold mostOk at h; exact (of_decide_eq_true h).2
  · exact hm
theorem getD_len (b : List UInt8) (n : Int) : (getD14 b n).1.length ≤ 200 := by
  unfold getD14
  split
  · simp
  · split
    · dsimp only; rw [tellD_len]; have := mostV_leD (gB b) (show (0 : Int) ≤ 200 by omega); omega
    · simp
/-- what is put is got -/
theorem getD_put {l : List Bool} (h : l.length ≤ 200) : getD14 (deadB l) l.length = (l, 0) := by
  have hlen := sayD_len (l := l) (by omega)
  have hd : deadB l = frameB (sayD l) := by unfold deadB; rw [if_pos h]
  obtain ⟨g1, g2, g3⟩ := got_own (l := sayD l) (by omega) []
  rw [List.append_nil] at g1 g2 g3
  obtain ⟨m1, m2, m3⟩ := most_own (n := l.length) (m := 200) (by omega) (by unfold two64; omega) (packB l)
  rw [hd, getD_yes g1 ?_]
  · rw [g2]; unfold tellD sayD; rw [m1, m2, unp_pack]
  · rw [g2]
    refine ⟨⟨m3, ?_⟩, ?_, g3⟩
    · unfold sayD; rw [m1, m2]; exact pack_fit l
    · unfold sayD; rw [m1]
/-! ### More rows gone -/
/-! ### The rows that are left -/
section
variable {α : Type}
end
end Go.Proofs.YtdofgniemkahnaaDoor
