/-
  Joined: Words of our own on memory, for all texts of this seat: what changed between two worlds (Fr), a known block (Blk), bytes that a slice reads as (Bs), bytes in a row of the call's own (Own), and the steps append and convert over them. · Layer 1 as plain functions on lists of bytes: what a number's bytes are (the library's 'uvarint'), which number bytes begin with (rd), and that each is the other's back. Nothing of the program. · Layer 1, what is written: contracts of the functions that make bytes of numbers and texts, the program's own and the document's. · Layer 1, what is written, numbers with a sign: contracts of Int, the program's own and the document's. · Texts as plain lists of bytes: Go's '<' on them, and an order in three ways. Nothing of the program. · Layer 9: a cell as a value; which cells there may be, both programs'. · Layer 9: the order of cells, both programs'. · Words on a cell in a block: read, stored whole, handed back. · Layer 11: a zone as a value; which zones there may be, and which cells they have, both programs'. · Layer 11: what a zone of cells is: how many, how many null, the least and the greatest of the others. Nothing of the program. · Layer 1, what is written, texts: contracts of join and Text, the program's own and the document's. · Layer 1, what is read: contracts of Source's methods. · Layer 1, what is read: contracts of Source's methods. · Layer 11: the closure that notes a cell in a zone.
-/
import Derived.Deep.Slices
import Derived.Test.YtihofmmbdedhbaaProg
import Derived.WalkKit
import Derived.WalkSpells
import Derived.Deep.AppendSrc
import Derived.Maps.AppendAt
import Derived.Lib.Hide
import Derived.Deep.Draws
import Derived.Lib.AppendStr
import Derived.Lib.Varint
import Derived.Lib.Zigzag
import Derived.Laws.StructEq
import Derived.Laws.Cover1
import Derived.Laws.Rows
import Derived.Laws.ResultCell
import Derived.Deep.RegionHeld3

namespace Go.Proofs.Ytihofmmbdedhbaa
set_option linter.unusedVariables false
set_option linter.unusedSimpArgs false
set_option maxRecDepth 100000
open Go.RowKit

/-! ### What changed: of the blocks that were there, at most those of S -/
structure Fr (S : Nat → Prop) (w w' : World) : Prop where
  os : w'.os = w.os
  tape : w'.tape = w.tape
  output : w'.output = w.output
  size : w.heap.size ≤ w'.heap.size
  block : ∀ k, k < w.heap.size → ¬ S k → w'.heap[k]? = w.heap[k]?

/-- nothing -/
def Non : Nat → Prop := fun _ => False
/-- one block -/
def One (g : Nat) : Nat → Prop := fun k => k = g

theorem Fr.refl (S : Nat → Prop) (w : World) : Fr S w w := ⟨rfl, rfl, rfl, Nat.le_refl _, fun _ _ _ => rfl⟩
theorem Fr.join {S S' : Nat → Prop} {w w1 w2 : World} (h : Fr S w w1) (h' : Fr S' w1 w2) (hs : ∀ k, k < w.heap.size → S' k → S k) : Fr S w w2 :=
  ⟨h'.os.trans h.os, h'.tape.trans h.tape, h'.output.trans h.output, Nat.le_trans h.size h'.size,
    fun k hk hn => (h'.block k (Nat.lt_of_lt_of_le hk h.size) (fun e => hn (hs k hk e))).trans (h.block k hk hn)⟩
theorem Fr.trans {S : Nat → Prop} {w w1 w2 : World} (h : Fr S w w1) (h' : Fr S w1 w2) : Fr S w w2 := h.join h' fun _ _ e => e
theorem Fr.then {S : Nat → Prop} {w w1 w2 : World} (h : Fr S w w1) (h' : Fr Non w1 w2) : Fr S w w2 := h.join h' fun _ _ e => e.elim
theorem Fr.mono {S S' : Nat → Prop} {w w' : World} (h : Fr S w w') (hs : ∀ k, k < w.heap.size → S k → S' k) : Fr S' w w' :=
  ⟨h.os, h.tape, h.output, h.size, fun k hk hn => h.block k hk fun e => hn (hs k hk e)⟩
theorem Fr.any {S : Nat → Prop} {w w' : World} (h : Fr Non w w') : Fr S w w' := h.mono fun _ _ e => e.elim
theorem Fr.fresh {S S' : Nat → Prop} {w w1 w2 : World} (h : Fr S w w1) (h' : Fr S' w1 w2) (hs : ∀ k, S' k → w.heap.size ≤ k) : Fr S w w2 :=
  h.join h' fun k hk e => absurd (hs k e) (by omega)
theorem Fr.drew {S : Nat → Prop} {w w' : World} (h : Fr S w w') : Fr S w w'.drew := ⟨h.os, h.tape, h.output, h.size, h.block⟩
theorem Fr.alloc {S : Nat → Prop} {w w' : World} (h : Fr S w w') (o : Obj) : Fr S w (w'.alloc o) :=
  h.then ⟨rfl, rfl, rfl, by simp, fun k hk _ => Below.heap_alloc _ _ _ hk⟩
theorem Fr.setCell {S : Nat → Prop} {w w' : World} (h : Fr S w w') {p : Addr} (hp : p.block < w.heap.size → S p.block) (u : Value) : Fr S w (w'.setCell p u) :=
  ⟨h.os, h.tape, h.output, by simpa [World.setCell] using h.size, fun k hk hn => (Below.heap_setCell w' p u k (fun e => hn (by subst e; exact hp hk))).trans (h.block k hk hn)⟩
theorem Fr.set1 {g : Nat} {w w' : World} (h : Fr (One g) w w') (i : Nat) (u : Value) : Fr (One g) w (w'.setCell ⟨g, i, none⟩ u) := h.setCell (p := ⟨g, i, none⟩) (fun _ => rfl) u
theorem Fr.below {w w' : World} (h : Fr Non w w') : Below w.heap.size w w' := ⟨h.os, h.tape, h.output, h.size, fun k hk => h.block k hk fun e => e⟩
theorem Fr.of_grown {w w' : World} {row : Option Nat} (h : w.grownBy w' row) : Fr (fun k => row = some k) w w' :=
  ⟨h.os, h.tape, h.output, h.size, fun k hk hn => h.block k hk (fun e => hn e.symm)⟩
theorem Fr.cell {S : Nat → Prop} {w w' : World} (h : Fr S w w') {p : Addr} (hp : p.block < w.heap.size) (hn : ¬ S p.block) : w'.cell? p = w.cell? p := World.cell?_of_block (h.block _ hp hn)

theorem ret_boolE {a b : Bool} (h : a = b) : Ending.returned (.bool a) = .returned (.bool b) := by rw [h]
theorem ret_int {k : IntKind} {a b : Int} (h : a = b) : Ending.returned (.int k a) = .returned (.int k b) := by rw [h]

/-! ### A block that is known whole -/
def Blk (w : World) (g : Nat) (t : TypeId) (cs : Array Value) : Prop := w.heap[g]? = some (.cells cs t (0, 0))
theorem Blk.lt {w : World} {g : Nat} {t : TypeId} {cs : Array Value} (h : Blk w g t cs) : g < w.heap.size := (Array.getElem?_eq_some_iff.1 h).1
theorem Blk.cell {w : World} {g : Nat} {t : TypeId} {cs : Array Value} (h : Blk w g t cs) (i : Nat) : w.cell? ⟨g, i, none⟩ = cs[i]? := cell_of_row w g i cs t (0, 0) h
theorem Blk.frozen {w : World} {g : Nat} {t : TypeId} {cs : Array Value} (h : Blk w g t cs) (i : Nat) : w.frozen? ⟨g, i, none⟩ = false := by
  unfold Blk at h; simp [World.frozen?, h]
theorem Blk.new (w : World) (t : TypeId) (cs : Array Value) : Blk (w.alloc (.cells cs t)) w.heap.size t cs := heap_alloc_new w _
theorem Blk.fr {S : Nat → Prop} {w w' : World} {g : Nat} {t : TypeId} {cs : Array Value} (h : Blk w g t cs) (hf : Fr S w w') (hn : ¬ S g) : Blk w' g t cs := (hf.block g h.lt hn).trans h
theorem Blk.set {w : World} {g : Nat} {t : TypeId} {cs : Array Value} (h : Blk w g t cs) (i : Nat) (u : Value) : Blk (w.setCell ⟨g, i, none⟩ u) g t (cs.setIfInBounds i u) := by
  unfold Blk at h ⊢; simp [World.setCell, Array.getElem?_modify, h]
theorem Blk.drew {w : World} {g : Nat} {t : TypeId} {cs : Array Value} (h : Blk w g t cs) : Blk w.drew g t cs := h
theorem cell_new1 (w : World) (v : Value) (t : TypeId) : (w.alloc (.cells #[v] t)).cell? ⟨w.heap.size, 0, none⟩ = some v := (Blk.new w t #[v]).cell 0

/-! ### Bytes -/
def bv (b : UInt8) : Value := .int .u8 b.toNat
theorem bv_one (l : List UInt8) : ∀ u ∈ l.map bv, u.oneCell' = true := by
  intro u hu; obtain ⟨b, _, rfl⟩ := List.mem_map.1 hu; rfl
theorem info_u8 : (Try.prog.info? 5).map (fun i => (i.zero, i.size, i.bytes)) = some (some (.int .u8 0), 1, 1) := by kernel_rfl

theorem add_block (a : Addr) (n : Nat) : (a.add n).block = a.block := by unfold Addr.add; split <;> rfl
theorem add_add (a : Addr) (i j : Nat) : (a.add i).add j = a.add (i + j) := by
  unfold Addr.add
  by_cases hi : i = 0 <;> by_cases hj : j = 0 <;> simp [hi, hj, Nat.add_assoc]

/-- the slice v reads as the bytes l -/
def Bs (w : World) (v : Value) (l : List UInt8) : Prop :=
  ∃ A c, v = .slice A l.length c ∧ l.length ≤ c ∧ (A = none → c = 0) ∧ ∀ a, A = some a → ∀ j (h : j < l.length), w.cell? (a.add j) = some (bv l[j])

theorem Bs.nil_ (w : World) : Bs w (.slice none 0 0) [] := ⟨none, 0, rfl, Nat.le_refl _, fun _ => rfl, fun _ h => by cases h⟩
theorem Bs.keep {w w' : World} {v : Value} {l : List UInt8} (h : Bs w v l) (hk : ∀ k, v.ownBlock = some k → k < w.heap.size → w'.heap[k]? = w.heap[k]?) : Bs w' v l := by
  obtain ⟨A, c, rfl, h1, h2, h3⟩ := h
  refine ⟨A, c, rfl, h1, h2, fun a ha j hj => ?_⟩
  have := h3 a ha j hj
  subst ha
  have hb := World.block_lt_of_cell? w _ this
  rw [add_block] at hb
  rw [← this]
  exact World.cell?_of_block (by rw [add_block]; exact hk _ rfl hb)
theorem Bs.fr {S : Nat → Prop} {w w' : World} {v : Value} {l : List UInt8} (h : Bs w v l) (hf : Fr S w w') (hn : ∀ k, v.ownBlock = some k → ¬ S k) : Bs w' v l :=
  h.keep fun k hk hlt => hf.block k hlt (hn k hk)
theorem Bs.non {w w' : World} {v : Value} {l : List UInt8} (h : Bs w v l) (hf : Fr Non w w') : Bs w' v l := h.fr hf fun _ _ e => e
theorem Bs.drew {w : World} {v : Value} {l : List UInt8} (h : Bs w v l) : Bs w.drew v l := h
theorem Bs.shape {w : World} {v : Value} {l : List UInt8} (h : Bs w v l) : ∃ A c, v = .slice A l.length c := by
  obtain ⟨A, c, rfl, _⟩ := h; exact ⟨A, c, rfl⟩

theorem run_conv_Bs {P : Program} {w : World} {v : Value} {l : List UInt8} (h : Bs w v l) (src dst e : TypeId) (hs : P.underlying src = some (.slice e)) (he : P.underlying e = some (.int .u8)) (hd : P.underlying dst = some .string) :
    (convert src dst v).run P w = .ok (.string ⟨l.toArray⟩) w := by
  obtain ⟨A, c, rfl, hlc, hn, hc⟩ := h
  cases A with
  | none =>
    have := hn rfl
    have hl : l = [] := List.eq_nil_of_length_eq_zero (by omega)
    subst hl
    rw [run_convert_bytes_nil w src e hs he _ _ dst hd]; rfl
  | some a => exact run_convert_bytes_back w src dst e a c l hs he hd (hc a rfl)

/-- bytes that the call owns: a row of its own, from block B on -/
def Own (w : World) (B : Nat) (v : Value) (l : List UInt8) : Prop := w.ownsRow B 5 1 v l.length (l.map bv)
theorem own_nil (w : World) (B : Nat) : Own w B (.slice none 0 0) [] := ⟨by simp, .inl ⟨rfl, rfl⟩⟩
theorem Own.lt {w : World} {B : Nat} {v : Value} {l : List UInt8} (h : Own w B v l) : ∀ k, v.ownBlock = some k → B ≤ k ∧ k < w.heap.size := World.ownsRow.lt h
theorem Own.bs {w : World} {B : Nat} {v : Value} {l : List UInt8} (h : Own w B v l) : Bs w v l := by
  rcases h.2 with ⟨rfl, h0⟩ | ⟨g, cap, cur, rfl, _, _, hle, _, _, _⟩
  · have hl : l = [] := List.eq_nil_of_length_eq_zero h0
    subst hl; exact Bs.nil_ w
  · refine ⟨_, cap, rfl, hle, (fun h => by cases h), fun a ha j hj => ?_⟩
    cases ha
    exact World.ownsRow.cells h (g := g) rfl j _ (by simp [hj])
theorem Own.keep {w w' : World} {B : Nat} {v : Value} {l : List UInt8} (h : Own w B v l) (hk : ∀ k, v.ownBlock = some k → w'.heap[k]? = w.heap[k]?) : Own w' B v l := by
  refine ⟨h.1, ?_⟩
  rcases h.2 with h2 | ⟨g, cap, cur, hv, hb, hg, r⟩
  · exact .inl h2
  · exact .inr ⟨g, cap, cur, hv, hb, by rw [hk g (by rw [hv]; rfl)]; exact hg, r⟩
theorem Own.fr {S : Nat → Prop} {w w' : World} {B : Nat} {v : Value} {l : List UInt8} (h : Own w B v l) (hf : Fr S w w') (hn : ∀ k, v.ownBlock = some k → ¬ S k) : Own w' B v l :=
  h.keep fun k hk => hf.block k (h.lt k hk).2 (hn k hk)
theorem Own.non {w w' : World} {B : Nat} {v : Value} {l : List UInt8} (h : Own w B v l) (hf : Fr Non w w') : Own w' B v l := h.fr hf fun _ _ e => e
theorem Own.alloc {w : World} {B : Nat} {v : Value} {l : List UInt8} (h : Own w B v l) (o : Obj) : Own (w.alloc o) B v l := h.non ((Fr.refl _ _).alloc o)
theorem Own.mono {w : World} {B B' : Nat} {v : Value} {l : List UInt8} (h : Own w B v l) (hB : B' ≤ B) : Own w B' v l := by
  refine ⟨h.1, ?_⟩
  rcases h.2 with h2 | ⟨g, cap, cur, hv, hb, r⟩
  · exact .inl h2
  · exact .inr ⟨g, cap, cur, hv, by omega, r⟩

theorem Own.row {w : World} {B : Nat} {v : Value} {l : List UInt8} (h : Own w B v l) (hn : l ≠ []) : ∃ g cap, v = .slice (some ⟨g, 0, none⟩) l.length cap ∧ B ≤ g ∧ g < w.heap.size ∧ l.length ≤ cap ∧ cap ≤ maxLen := by
  rcases h.2 with ⟨rfl, h0⟩ | ⟨g, cap, cur, rfl, hb, hg, hle, hm, _⟩
  · exact absurd (List.eq_nil_of_length_eq_zero h0) hn
  · exact ⟨g, cap, rfl, hb, (Array.getElem?_eq_some_iff.1 hg).1, hle, hm⟩
theorem Own.store {w : World} {B g n cap : Nat} {l : List UInt8} (h : Own w B (.slice (some ⟨g, 0, none⟩) n cap) l) (hn : n = l.length) (j : Nat) (b : UInt8) : Own (w.setCell ⟨g, j, none⟩ (bv b)) B (.slice (some ⟨g, 0, none⟩) n cap) (l.set j b) := by
  subst hn
  have := (World.ownsRow.stored h j (bv b)).1
  unfold Own
  rw [List.length_set, List.map_set]
  exact this
theorem Own.cell {w : World} {B g n cap : Nat} {l : List UInt8} (h : Own w B (.slice (some ⟨g, 0, none⟩) n cap) l) (hn : n = l.length) (j : Nat) (b : UInt8) (hb : l[j]? = some b) : w.cell? ⟨g, j, none⟩ = some (.int .u8 b.toNat) := by
  subst hn
  have hj : j < l.length := (List.getElem?_eq_some_iff.1 hb).1
  rw [World.ownsRow.cellAt h j (by omega), List.getElem?_map, hb]; rfl
theorem Own.frozen {w : World} {B g n cap : Nat} {l : List UInt8} (h : Own w B (.slice (some ⟨g, 0, none⟩) n cap) l) (hn : n = l.length) (j : Nat) : w.frozen? ⟨g, j, none⟩ = false := by
  subst hn; exact World.ownsRow.frozenAt h j
theorem Own.drew {w : World} {B : Nat} {v : Value} {l : List UInt8} (h : Own w B v l) : Own w.drew B v l := h

/-- append of bytes onto bytes of the call's own, out of a slice -/
theorem wp_app {w : World} {o : Oper} {a : Act} {K : Act → World → Prop} {Q : Exit → Act → World → Prop} (s x : Operand)
    (ho : o.op = .call { callee := .builtin .append, args := #[s, x], argTypes := #[36, 36] })
    (B : Nat) (v y : Value) (l m : List UInt8) (hs : a.eval s = v) (hown : Own w B v l) (hx : a.eval x = y) (hy : Bs w y m)
    (hl : l.length + m.length < 140737488355328) (hB : B ≤ w.heap.size)
    (h : ∀ v' w', Own w' B v' (l ++ m) → Fr (fun k => v.ownBlock = some k) w w' → K (a.put o.dst v') w') : o.wp Try.prog a w K Q := by
  obtain ⟨i, hi, hz0, hz1, hz2⟩ := info_parts info_u8
  obtain ⟨A, c, rfl, hmc, hn, hcells⟩ := hy
  cases A with
  | some ad =>
    refine wp_append_own w s x 36 ho B 5 i _ 1 1 Try.underlying36 hi hz0 hz1 hz2 rfl (by omega) v l.length (l.map bv) hs hown ad m.length c (m.map bv) hx (by simp) ?_ (bv_one m) (by unfold maxLen; omega) (by omega) hB ?_
    · intro j u hu
      have hj : j < m.length := by simpa using (List.getElem?_eq_some_iff.1 hu).1
      rw [hcells ad rfl j hj]
      simpa [hj] using hu
    · intro v' w' h1 h2 _
      refine h v' w' ?_ (Fr.of_grown h2)
      unfold Own; simpa using h1
  | none =>
    have hm : m = [] := List.eq_nil_of_length_eq_zero (by have := hn rfl; omega)
    subst hm
    have hc : c = 0 := hn rfl
    subst hc
    have hrun := run_append_owned_none (P := Try.prog) (w := w) B 36 o.type 5 i 1 Try.underlying36 hi v l.length (l.map bv) hown
    unfold Oper.wp
    have hx' : a.eval x = .slice none 0 0 := hx
    simp [execOp, ho, resolve, invoke, builtin, hs, hx', hrun, Result.andThen]
    exact h v w (by simpa using hown) (Fr.refl _ _)

theorem wpList_app {w : World} {ops : Array Oper} {rest : List Oper} {o : Oper} {a : Act} {Q : Exit → Act → World → Prop} (hgd : o.guard = none) (s x : Operand)
    (ho : o.op = .call { callee := .builtin .append, args := #[s, x], argTypes := #[36, 36] })
    (B : Nat) (v y : Value) (l m : List UInt8) (hs : a.eval s = v) (hown : Own w B v l) (hx : a.eval x = y) (hy : Bs w y m)
    (hl : l.length + m.length < 140737488355328) (hB : B ≤ w.heap.size)
    (h : ∀ v' w', Own w' B v' (l ++ m) → Fr (fun k => v.ownBlock = some k) w w' → wpList Try.prog ops Q rest (a.put o.dst v') w') : wpList Try.prog ops Q (o :: rest) a w :=
  wpList_plain hgd fun _ hK => wp_app s x ho B v y l m hs hown hx hy hl hB fun v' w' h1 h2 => hK _ _ (h v' w' h1 h2)

/-- append of one byte, which was stored in a new block first -/
theorem wpList_push {w0 : World} {ops : Array Oper} {rest : List Oper} {o : Oper} {a : Act} {Q : Exit → Act → World → Prop} (hgd : o.guard = none) (s x : Operand)
    (ho : o.op = .call { callee := .builtin .append, args := #[s, x], argTypes := #[36, 36] })
    (B : Nat) (v : Value) (l : List UInt8) (hs : a.eval s = v) (hown : Own w0 B v l) (z : Int) (b : UInt8) (hz : z = b.toNat) (hx : a.eval x = .slice (some ⟨w0.heap.size, 0, none⟩) 1 1)
    (hl : l.length < 140737488355327) (hB : B ≤ w0.heap.size)
    (h : ∀ v' w', Own w' B v' (l ++ [b]) → Fr (fun k => v.ownBlock = some k) w0 w' → wpList Try.prog ops Q rest (a.put o.dst v') w') :
    wpList Try.prog ops Q (o :: rest) a (w0.alloc (.cells #[.int .u8 z] 5)) := by
  subst hz
  refine wpList_app hgd s x ho B v _ l [b] hs (hown.alloc _) hx ⟨_, 1, rfl, Nat.le_refl _, (fun h => by cases h), fun a ha j hj => ?_⟩ (by simp; omega) (by simp; omega) ?_
  · cases ha
    obtain rfl : j = 0 := by simpa using hj
    exact cell_new1 _ _ _
  · intro v' w' h1 h2
    refine h v' w' h1 (((Fr.refl _ _).alloc _).join h2 fun k hk e => e)

/-- append of a text's bytes -/
theorem wpList_appstr {w : World} {ops : Array Oper} {rest : List Oper} {o : Oper} {a : Act} {Q : Exit → Act → World → Prop} (hgd : o.guard = none) (s x : Operand)
    (ho : o.op = .call { callee := .builtin .append, args := #[s, x], argTypes := #[36, 9] })
    (B : Nat) (v : Value) (l m : List UInt8) (hs : a.eval s = v) (hown : Own w B v l) (hx : a.eval x = .string ⟨m.toArray⟩)
    (hl : l.length + m.length < 140737488355328) (hB : B ≤ w.heap.size)
    (h : ∀ v' w', Own w' B v' (l ++ m) → Fr (fun k => v.ownBlock = some k) w w' → wpList Try.prog ops Q rest (a.put o.dst v') w') : wpList Try.prog ops Q (o :: rest) a w := by
  obtain ⟨i, hi, hz0, hz1, hz2⟩ := info_parts info_u8
  have hm : ByteArray.size ⟨m.toArray⟩ = m.length := by simp [ByteArray.size]
  obtain ⟨v', w', hrun, h1, h2, _⟩ := Lib.run_append_own_string (P := Try.prog) w B 36 9 o.type 5 i Try.underlying36 Try.underlying9 hi hz0 hz1 hz2 v l.length (l.map bv) hown ⟨m.toArray⟩
    (by rw [hm]; unfold maxLen; omega) (by rw [hm]; omega) hB
  refine wpList_plain hgd fun K hK => ?_
  unfold Oper.wp
  simp [execOp, ho, resolve, invoke, builtin, hs, hx, hrun, Result.andThen]
  refine hK _ _ (h v' w' ?_ (Fr.of_grown h2))
  unfold Own
  rw [hm] at h1
  have e : (fun b : UInt8 => Value.int .u8 b.toNat) = bv := rfl
  simpa [Lib.strCells, e] using h1

/-- '[]byte(s)': new bytes -/
theorem wpList_strbytes {w : World} {ops : Array Oper} {rest : List Oper} {o : Oper} {a : Act} {Q : Exit → Act → World → Prop} (hgd : o.guard = none) (x : Operand)
    (ho : o.op = .convert 9 36 x) (m : List UInt8) (hx : a.eval x = .string ⟨m.toArray⟩)
    (h : ∀ v' w', Bs w' v' m → Fr Non w w' → (∀ k, v'.ownBlock = some k → w.heap.size ≤ k) → wpList Try.prog ops Q rest (a.put o.dst v') w') : wpList Try.prog ops Q (o :: rest) a w := by
  have hm : ByteArray.size ⟨m.toArray⟩ = m.length := by simp [ByteArray.size]
  have hrun := run_bytes_of_string (P := Try.prog) w 9 36 5 ⟨m.toArray⟩ Try.underlying9 Try.underlying36 Try.underlying5
  refine wpList_plain hgd fun K hK => ?_
  unfold Oper.wp
  simp [execOp, ho, hx, hrun, Result.andThen]
  refine hK _ _ (h _ _ ?_ (((Fr.refl _ _).drew).alloc _) ?_)
  · rw [hm]
    refine ⟨_, _, rfl, grownCap_ge _ _ _ _, (fun h => by cases h), fun a ha j hj => ?_⟩
    cases ha
    have hA : (⟨w.heap.size, 0, none⟩ : Addr).add j = ⟨w.drew.heap.size, j, none⟩ := by rw [Addr.add_lit]; simp
    rw [hA, World.cell?_alloc_mark, bytesRow_at _ _ _ (by simpa using hj)]
    simp [bv]
  · intro k hk
    simp [Value.ownBlock] at hk
    omega

/-- 'make([]byte, 0, n)' -/
theorem wpList_mkbytes {w : World} {ops : Array Oper} {rest : List Oper} {o : Oper} {a : Act} {Q : Exit → Act → World → Prop} (hgd : o.guard = none) (x c : Operand)
    (ho : o.op = .makeSlice 36 x c) (kl kc : IntKind) (C : Int) (n : Nat) (hx : a.eval x = .int kl 0) (hc : a.eval c = .int kc C) (hC : C = (n : Int)) (hn : n ≤ 140737488355328)
    (h : ∀ v' w', Own w' w.heap.size v' [] → Fr Non w w' → wpList Try.prog ops Q rest (a.put o.dst v') w') : wpList Try.prog ops Q (o :: rest) a w := by
  obtain ⟨i, hi, hz0, hz1, hz2⟩ := info_parts info_u8
  refine wpList_make_own w hgd x c 36 ho w.heap.size 5 i _ 1 Try.underlying36 hi hz0 hz1 kl kc C n hx hc hC (by rw [hz2]; omega) (by unfold maxLen; omega) (Nat.le_refl _) ?_
  intro w' h1 h2
  exact h _ _ h1 ((Fr.of_grown h2).mono fun k _ e => by cases e)

/-! ### A slice of slices of bytes -/
def Bss (w : World) (v : Value) (ls : List (List UInt8)) : Prop :=
  ∃ A c, v = .slice A ls.length c ∧ ls.length ≤ c ∧ (A = none → c = 0) ∧ ∀ a, A = some a → ∀ j (h : j < ls.length), ∃ u, w.cell? (a.add j) = some u ∧ Bs w u ls[j]
theorem Bss.non {w w' : World} {v : Value} {ls : List (List UInt8)} (h : Bss w v ls) (hf : Fr Non w w') : Bss w' v ls := by
  obtain ⟨A, c, rfl, h1, h2, h3⟩ := h
  refine ⟨A, c, rfl, h1, h2, fun a ha j hj => ?_⟩
  obtain ⟨u, hu, hb⟩ := h3 a ha j hj
  exact ⟨u, by rw [← hu]; exact hf.cell (World.block_lt_of_cell? w _ hu) (fun e => e), hb.non hf⟩
/-! ### Pieces of a slice of bytes -/
theorem sz_u8 (w : World) : (sizeOf (Try.prog.elem 36)).run Try.prog w = .ok 1 w := by kernel_rfl
set_option maxRecDepth 100000 in
theorem slice_lo (A : Option Addr) (n c k : Nat) (kl : IntKind) (z : Int) (hz : z = (k : Int)) (hk : k ≤ n) (hn : n ≤ c) :
    ∃ A' c', (∀ W, (Instr.slice 36 (.slice A n c) (some (.int kl z)) none none).run Try.prog W = .ok (.slice A' (n - k) c') W) ∧
      (∀ W l, l.length = n → Bs W (.slice A n c) l → Bs W (.slice A' (n - k) c') (l.drop k)) ∧ (Value.slice A' (n - k) c').ownBlock = (Value.slice A n c).ownBlock := by
  subst hz
  refine ⟨if c = k then A else A.map (·.add k), c - k, fun W => ?_, ?_, ?_⟩
  · rw [run_slice_any W 36 A n c Try.underlying36]
    have hb : (Instr.sliceBounds true n c (some (.int kl (k : Int))) none none).run Try.prog W = .ok (k, n, c) W := by
      simp [Instr.sliceBounds, run_sliceBound, hk, hn]
    rw [hb]
    simp only [Result.andThen_ok, sz_u8]
    simp [sliced]
  · rintro W l hl ⟨A0, c0, he, h1, h2, h3⟩
    simp only [Value.slice.injEq] at he
    obtain ⟨rfl, hl', rfl⟩ := he
    refine ⟨if c = k then A else A.map (·.add k), c - k, by rw [List.length_drop, hl], by rw [List.length_drop]; omega, fun e => ?_, fun a ha j hj => ?_⟩
    · split at e
      · have := h2 e; omega
      · have := h2 (by simpa using e); omega
    · rw [List.length_drop] at hj
      rw [if_neg (by omega)] at ha
      cases A with
      | none => cases ha
      | some b =>
        obtain rfl : b.add k = a := by simpa using ha
        rw [add_add, h3 b rfl (k + j) (by omega)]
        simp
  · split
    · cases A <;> rfl
    · cases A <;> simp [Value.ownBlock, add_block]

set_option maxRecDepth 100000 in
theorem slice_hi (A : Option Addr) (n c k : Nat) (kl : IntKind) (z : Int) (hz : z = (k : Int)) (hk : k ≤ n) (hn : n ≤ c) :
    ∃ A' c', (∀ W, (Instr.slice 36 (.slice A n c) none (some (.int kl z)) none).run Try.prog W = .ok (.slice A' k c') W) ∧
      (∀ W l, l.length = n → Bs W (.slice A n c) l → Bs W (.slice A' k c') (l.take k)) ∧ (Value.slice A' k c').ownBlock = (Value.slice A n c).ownBlock := by
  subst hz
  refine ⟨if c = 0 then A else A.map (·.add 0), c, fun W => ?_, ?_, ?_⟩
  · rw [run_slice_any W 36 A n c Try.underlying36]
    have hb : (Instr.sliceBounds true n c none (some (.int kl (k : Int))) none).run Try.prog W = .ok (0, k, c) W := by
      simp [Instr.sliceBounds, run_sliceBound, show (k : Int) ≤ c by omega]
    rw [hb]
    simp only [Result.andThen_ok, sz_u8]
    simp [sliced]
  · rintro W l hl ⟨A0, c0, he, h1, h2, h3⟩
    simp only [Value.slice.injEq] at he
    obtain ⟨rfl, hl', rfl⟩ := he
    refine ⟨if c = 0 then A else A.map (·.add 0), c, by rw [List.length_take, hl, Nat.min_eq_left hk], by rw [List.length_take]; omega, fun e => ?_, fun a ha j hj => ?_⟩
    · split at e
      · have := h2 e; omega
      · have := h2 (by simpa using e); omega
    · rw [List.length_take] at hj
      rw [if_neg (by omega)] at ha
      cases A with
      | none => cases ha
      | some b =>
        obtain rfl : b.add 0 = a := by simpa using ha
        rw [add_add, h3 b rfl (0 + j) (by omega)]
        simp
  · split
    · cases A <;> rfl
    · cases A <;> simp [Value.ownBlock, add_block]

end Go.Proofs.Ytihofmmbdedhbaa


namespace Go.Proofs.Ytihofmmbdedhbaa
set_option linter.unusedVariables false
set_option linter.unusedSimpArgs false
set_option maxRecDepth 100000

/-- the number that bytes begin with, from its i-th byte on, acc being what the bytes ahead of it make -/
def rd (i acc : Nat) : List UInt8 → Option (Nat × List UInt8)
  | [] => none
  | c :: r => if (i = 9 ∧ 1 < c.toNat) ∨ (0 < i ∧ c.toNat = 0) then none else if c.toNat < 128 then some (acc + c.toNat * 128 ^ i, r) else rd (i + 1) (acc + (c.toNat - 128) * 128 ^ i) r

def two64 : Nat := 18446744073709551616

theorem rd_bad {i acc : Nat} {c : UInt8} {r : List UInt8} (h : (i = 9 ∧ 1 < c.toNat) ∨ (0 < i ∧ c.toNat = 0)) : rd i acc (c :: r) = none := by rw [rd, if_pos h]
theorem rd_last {i acc : Nat} {c : UInt8} {r : List UInt8} (h : ¬ ((i = 9 ∧ 1 < c.toNat) ∨ (0 < i ∧ c.toNat = 0))) (h2 : c.toNat < 128) : rd i acc (c :: r) = some (acc + c.toNat * 128 ^ i, r) := by
  rw [rd, if_neg h, if_pos h2]
theorem rd_more {i acc : Nat} {c : UInt8} {r : List UInt8} (h : ¬ ((i = 9 ∧ 1 < c.toNat) ∨ (0 < i ∧ c.toNat = 0))) (h2 : 128 ≤ c.toNat) : rd i acc (c :: r) = rd (i + 1) (acc + (c.toNat - 128) * 128 ^ i) r := by
  rw [rd, if_neg h, if_neg (by omega)]

theorem pow128_9 : (128 : Nat) ^ 9 = 9223372036854775808 := by decide
theorem pow128_8 : (128 : Nat) ^ 8 = 72057594037927936 := by decide

theorem toNat_small {m : Nat} (h : m < 256) : m.toUInt8.toNat = m := by
  simp only [Nat.toUInt8_eq, UInt8.toNat_ofNat']; omega

/-- what is written is read -/
theorem rd_uvarint : ∀ (m i acc : Nat) (r : List UInt8), i ≤ 9 → m * 128 ^ i < two64 → (0 < i → m ≠ 0) → rd i acc (Lib.uvarint m ++ r) = some (acc + m * 128 ^ i, r) := by
  intro m
  induction m using Nat.strongRecOn with
  | _ m ih =>
    intro i acc r hi hm h0
    by_cases hs : m < 128
    · rw [Lib.uvarint_small hs]
      have hb := toNat_small (m := m) (by omega)
      rw [List.singleton_append, rd_last, hb]
      · rw [hb]
        rintro (⟨rfl, h⟩ | ⟨h, h'⟩)
        · rw [pow128_9, two64] at hm; omega
        · exact h0 h h'
      · omega
    · rw [Lib.uvarint_big (by omega)]
      have hb := toNat_small (m := m % 128 + 128) (by omega)
      have hi8 : i ≤ 8 := by
        rcases Nat.lt_or_ge i 9 with h | h
        · omega
        · obtain rfl : i = 9 := by omega
          rw [pow128_9, two64] at hm; omega
      have hsplit : m = 128 * (m / 128) + m % 128 := by omega
      have hpow : (128 : Nat) ^ (i + 1) = 128 * 128 ^ i := by rw [Nat.pow_succ, Nat.mul_comm]
      have hmul : m / 128 * 128 ^ (i + 1) + (m % 128) * 128 ^ i = m * 128 ^ i := by
        rw [hpow, ← Nat.mul_assoc, ← Nat.add_mul]; congr 1; omega
      rw [List.cons_append, rd_more, hb, ih (m / 128) (by omega) (i + 1) _ r (by omega) (by omega) (fun _ => by omega)]
      · congr 2
        rw [Nat.add_sub_cancel]; omega
      · rw [hb]; omega
      · omega

theorem eight_lt {m c : Nat} (hm : m * 9223372036854775808 < 18446744073709551616) (hc : c < 256) : m * 9223372036854775808 + (c - 128) * 72057594037927936 < 18446744073709551616 := by
  rcases Nat.lt_or_ge m 2 with h | h
  · clear hm
    have h1 : m ≤ 1 := by omega
    omega
  · exact absurd hm (Nat.not_lt.2 (Nat.le_trans (by decide) (Nat.mul_le_mul_right 9223372036854775808 h)))

/-- what is read was written so -/
theorem rd_back : ∀ (l : List UInt8) (i acc n : Nat) (r : List UInt8), i ≤ 9 → rd i acc l = some (n, r) → ∃ m, n = acc + m * 128 ^ i ∧ l = Lib.uvarint m ++ r ∧ m * 128 ^ i < two64 ∧ (0 < i → m ≠ 0) := by
  intro l
  induction l with
  | nil => intro i acc n r _ h; simp [rd] at h
  | cons c l ih =>
    intro i acc n r hi h
    by_cases hbad : (i = 9 ∧ 1 < c.toNat) ∨ (0 < i ∧ c.toNat = 0)
    · rw [rd_bad hbad] at h; cases h
    · have hc := c.toNat_lt
      have hle : (128 : Nat) ^ i ≤ 128 ^ 9 := Nat.pow_le_pow_right (by decide) hi
      rw [pow128_9] at hle
      by_cases h2 : c.toNat < 128
      · rw [rd_last hbad h2] at h
        simp only [Option.some.injEq, Prod.mk.injEq] at h
        obtain ⟨rfl, rfl⟩ := h
        refine ⟨c.toNat, rfl, ?_, ?_, fun h0 e => hbad (.inr ⟨h0, e⟩)⟩
        · rw [Lib.uvarint_small h2]
          simp
        · by_cases h9 : i = 9
          · subst h9
            rw [pow128_9, two64]; omega
          · have hle8 : (128 : Nat) ^ i ≤ 128 ^ 8 := Nat.pow_le_pow_right (by decide) (by omega)
            rw [pow128_8] at hle8
            have := Nat.mul_le_mul (show c.toNat ≤ 127 by omega) hle8
            rw [two64]; omega
      · have hi8 : i ≤ 8 := by omega
        rw [rd_more hbad (by omega)] at h
        obtain ⟨m, rfl, hl, hm, h0⟩ := ih (i + 1) _ n r (by omega) h
        have h0' := h0 (by omega)
        have hpow : (128 : Nat) ^ (i + 1) = 128 * 128 ^ i := by rw [Nat.pow_succ, Nat.mul_comm]
        have hmul : m * 128 ^ (i + 1) + (c.toNat - 128) * 128 ^ i = (128 * m + (c.toNat - 128)) * 128 ^ i := by
          rw [hpow, Nat.add_mul, ← Nat.mul_assoc, Nat.mul_comm m 128]
        refine ⟨128 * m + (c.toNat - 128), by omega, ?_, ?_, fun _ => by omega⟩
        · rw [Lib.uvarint_big (by omega), hl, show (128 * m + (c.toNat - 128)) / 128 = m by omega, show (128 * m + (c.toNat - 128)) % 128 + 128 = c.toNat by omega]
          simp
        · rw [← hmul]
          by_cases h8 : i = 8
          · subst h8
            rw [show (8 : Nat) + 1 = 9 from rfl, pow128_9, two64] at hm
            rw [show (8 : Nat) + 1 = 9 from rfl, pow128_9, pow128_8, two64]
            exact eight_lt hm hc
          · have hm1 : 128 ^ (i + 1) * 128 ≤ 128 ^ 9 := by
              rw [← Nat.pow_succ]; exact Nat.pow_le_pow_right (by decide) (by omega)
            have hdvd : 128 ^ (i + 1) ∣ two64 := by
              refine ⟨two64 / 128 ^ (i + 1), ?_⟩
              have : i + 1 = 1 ∨ i + 1 = 2 ∨ i + 1 = 3 ∨ i + 1 = 4 ∨ i + 1 = 5 ∨ i + 1 = 6 ∨ i + 1 = 7 ∨ i + 1 = 8 := by omega
              rcases this with h | h | h | h | h | h | h | h <;> rw [h] <;> decide
            obtain ⟨q, hq⟩ := hdvd
            rw [hq] at hm ⊢
            have hmq : m < q := by
              rw [Nat.mul_comm m] at hm
              exact Nat.lt_of_mul_lt_mul_left hm
            have : m * 128 ^ (i + 1) + 128 ^ (i + 1) ≤ 128 ^ (i + 1) * q := by
              rw [Nat.mul_comm m, ← Nat.mul_succ]; exact Nat.mul_le_mul_left _ hmq
            have hlt : (c.toNat - 128) * 128 ^ i < 128 ^ (i + 1) := by
              rw [hpow]; exact Nat.mul_lt_mul_of_pos_right (by omega) (Nat.pos_of_neZero _)
            omega

theorem rd_len {l : List UInt8} {i acc n : Nat} {r : List UInt8} (hi : i ≤ 9) (h : rd i acc l = some (n, r)) : r.length < l.length := by
  obtain ⟨m, _, rfl, _⟩ := rd_back l i acc n r hi h
  have := Lib.uvarint_pos m
  simp; omega

theorem rd_lt {l : List UInt8} {n : Nat} {r : List UInt8} (h : rd 0 0 l = some (n, r)) : n < two64 := by
  obtain ⟨m, rfl, _, h2, _⟩ := rd_back l 0 0 n r (by omega) h
  simpa using h2

theorem rd_own {n : Nat} (hn : n < two64) (r : List UInt8) : rd 0 0 (Lib.uvarint n ++ r) = some (n, r) := by
  have := rd_uvarint n 0 0 r (by omega) (by simpa using hn) (by simp)
  simpa using this

theorem rd_is {l : List UInt8} {n : Nat} {r : List UInt8} (h : rd 0 0 l = some (n, r)) : l = Lib.uvarint n ++ r := by
  obtain ⟨m, rfl, h1, _, _⟩ := rd_back l 0 0 n r (by omega) h
  simpa using h1

/-- zig-zag there and back -/
def unzig (n : Nat) : Int := if n % 2 = 1 then -((n / 2 : Nat) : Int) - 1 else ((n / 2 : Nat) : Int)
def zig (k : Int) : Nat := if k < 0 then (-2 * k - 1).toNat else (2 * k).toNat
theorem unzig_zig (k : Int) : unzig (zig k) = k := by unfold unzig zig; split <;> split <;> omega
theorem zig_lt {k : Int} (h1 : -9223372036854775808 ≤ k) (h2 : k ≤ 9223372036854775807) : zig k < two64 := by unfold zig two64; split <;> omega

end Go.Proofs.Ytihofmmbdedhbaa


namespace Go.Proofs.Ytihofmmbdedhbaa
set_option linter.unusedVariables false
set_option linter.unusedSimpArgs false
set_option maxRecDepth 100000
open Go.RowKit

theorem same_any (v1 v2 : Value) (l1 l2 : List UInt8) (w : World) (h1 : Bs w v1 l1) (h2 : Bs w v2 l2) :
    Calls Try.prog 18 #[v1, v2] w fun e w' => e = .returned (.bool (l1 == l2)) ∧ w = w' := by
  have c1 := run_conv_Bs h1 36 9 5 Try.underlying36 Try.underlying5 Try.underlying9
  have c2 := run_conv_Bs h2 36 9 5 Try.underlying36 Try.underlying5 Try.underlying9
  clear h1 h2
  go_enter Try.func18, Try.ntmps18
  go_wp2
  go_ret
  exact ⟨rfl, rfl⟩

def hiB (m : Nat) : UInt8 := (m % 128 + 128).toUInt8
def loB (m : Nat) : UInt8 := m.toUInt8
theorem hiB_nat (m : Nat) : (hiB m).toNat = m % 128 + 128 := toNat_small (by omega)
theorem hiB_or (m : Nat) : bits BinOp.or IntKind.u8 ((m : Int) % 256) 128 = ((hiB m).toNat : Int) := by
  rw [Lib.u8_or128_any _ (by omega) (by omega), hiB_nat]; omega
theorem loB_small {m : Nat} (h : ¬ (128 : Int) ≤ m) : (m : Int) = ((loB m).toNat : Int) := by
  unfold loB; rw [toNat_small (by omega)]

set_option maxHeartbeats 400000 in
theorem vnum_any (n : Nat) (w : World) (hn : n < two64) :
    Calls Try.prog 34 #[.int .u64 n] w fun e w' => ∃ v, e = .returned v ∧ Own w' w.heap.size v (Lib.uvarint n) ∧ Fr Non w w' := by
  have hl10 : (Lib.uvarint n).length ≤ 10 := Lib.uvarint_length64 hn
  clear hn
  go_enter Try.func34, Try.ntmps34
  go_wp2
  go_loopw [0, 3] (fun x v wr => ∃ (m : Nat) (bs : List UInt8), m ≤ n ∧ x = .int .u64 m ∧ Lib.uvarint n = bs ++ Lib.uvarint m ∧ Own wr w.heap.size v bs ∧ Fr Non w wr) (fun x _ _ => (intOf x).toNat)
  case atStart => exact ⟨n, [], Nat.le_refl _, rfl, rfl, own_nil _ _, Fr.refl _ _⟩
  case round =>
    obtain ⟨m, bs, hm, rfl, hnum, hown, hfr⟩ := hrel
    have hlen : bs.length < 140737488355327 := by rw [hnum] at hl10; simp at hl10; omega
    have Hnum := Lib.hid hnum; clear hnum
    have e1 := hiB_or m
    have hB := hfr.size
    by_cases hm : (128 : Int) ≤ m
    · go_wp2_with (at_builtin; refine wpList_push rfl (.tmp 6) (.tmp 10) rfl w.heap.size u3 bs rfl hown _ (hiB m) rfl rfl hlen hB ?_; intro v' w1 hown1 hb1)
      refine ⟨⟨m / 128, bs ++ [hiB m], by omega, rfl, ?_, hown1, hfr.fresh hb1 fun k hk => (hown.lt k hk).1⟩, by simp [intOf]; omega⟩
      rw [Hnum.out, Lib.uvarint_big (by omega)]; simp [hiB]
    · go_wp2_with (at_builtin; refine wpList_push rfl (.tmp 14) (.tmp 17) rfl w.heap.size u3 bs rfl hown _ (loB m) (loB_small (by omega)) rfl hlen hB ?_; intro v' w1 hown1 hb1)
      go_ret
      refine ⟨v', rfl, ?_, hfr.fresh hb1 fun k hk => (hown.lt k hk).1⟩
      rw [Hnum.out, Lib.uvarint_small (by omega)]; exact hown1

theorem u64_div128 {m : Nat} (h : m < two64) : IntKind.u64.wrap ((m : Int) / 128) = (m : Int) / 128 := by
  unfold two64 at h
  exact IntWalk.u64_in _ ⟨by omega, by omega⟩

theorem refHi (m : Nat) : ((m : Int) % 128 + 128) = ((hiB m).toNat : Int) := by rw [hiB_nat]; omega

set_option maxHeartbeats 400000 in
theorem rnum_any (n : Nat) (w : World) (hn : n < two64) :
    Calls Try.prog 36 #[.int .u64 n] w fun e w' => ∃ v, e = .returned v ∧ Own w' w.heap.size v (Lib.uvarint n) ∧ Fr Non w w' := by
  have hl10 : (Lib.uvarint n).length ≤ 10 := Lib.uvarint_length64 hn
  go_enter Try.func36, Try.ntmps36
  go_wp2
  go_loopw [0, 3] (fun x v wr => ∃ (m : Nat) (bs : List UInt8), m ≤ n ∧ x = .int .u64 m ∧ Lib.uvarint n = bs ++ Lib.uvarint m ∧ Own wr w.heap.size v bs ∧ Fr Non w wr) (fun x _ _ => (intOf x).toNat)
  case atStart =>
    refine ⟨n, [], Nat.le_refl _, rfl, rfl, ?_, (Fr.refl _ _).alloc _⟩
    exact World.ownsRow_made w #[] 0 (Nat.le_refl _) (by unfold maxLen; omega) rfl
  case round =>
    obtain ⟨m, bs, hm, rfl, hnum, hown, hfr⟩ := hrel
    have hlen : bs.length < 140737488355327 := by rw [hnum] at hl10; simp at hl10; omega
    have Hnum := Lib.hid hnum; clear hnum
    have hB := hfr.size
    by_cases hm : (127 : Int) < m
    · have e3 := u64_div128 (m := m) (by omega)
      go_wp2_with (at_builtin; refine wpList_push rfl (.tmp 7) (.tmp 12) rfl w.heap.size u3 bs rfl hown _ (hiB m) (refHi m) rfl hlen hB ?_; intro v' w1 hown1 hb1)
      refine ⟨⟨m / 128, bs ++ [hiB m], by omega, rfl, ?_, hown1, hfr.fresh hb1 fun k hk => (hown.lt k hk).1⟩, by simp [intOf]; omega⟩
      rw [Hnum.out, Lib.uvarint_big (by omega)]; simp [hiB]
    · go_wp2_with (at_builtin; refine wpList_push rfl (.tmp 16) (.tmp 19) rfl w.heap.size u3 bs rfl hown _ (loB m) (loB_small (by omega)) rfl hlen hB ?_; intro v' w1 hown1 hb1)
      go_ret
      refine ⟨v', rfl, ?_, hfr.fresh hb1 fun k hk => (hown.lt k hk).1⟩
      rw [Hnum.out, Lib.uvarint_small (by omega)]; exact hown1

end Go.Proofs.Ytihofmmbdedhbaa


namespace Go.Proofs.Ytihofmmbdedhbaa
set_option linter.unusedVariables false
set_option linter.unusedSimpArgs false
set_option maxRecDepth 100000
open Go.RowKit

theorem zig_nonneg {k : Int} (h : ¬ k < 0) : ((zig k : Nat) : Int) = 2 * k := by unfold zig; rw [if_neg h]; omega
theorem zig_neg {k : Int} (h : k < 0) : ((zig k : Nat) : Int) = -2 * k - 1 := by unfold zig; rw [if_pos h]; omega

theorem vzig {k : Int} (h1 : -9223372036854775808 ≤ k) (h2 : k ≤ 9223372036854775807) :
    bits BinOp.xor IntKind.u64 (IntKind.u64.wrap (IntKind.u64.wrap k * 2)) (IntKind.u64.wrap (k / 9223372036854775808)) = ((zig k : Nat) : Int) := by
  by_cases h : k < 0
  · have e1 : IntKind.u64.wrap (IntKind.u64.wrap k * 2) = (((2 * k + 18446744073709551616).toNat : Nat) : Int) := by
      rw [IntKind.wrap_u64, IntKind.wrap_u64]; omega
    have e2 : IntKind.u64.wrap (k / 9223372036854775808) = ((2 ^ 64 - 1 : Nat) : Int) := by
      rw [IntKind.wrap_u64, show k / 9223372036854775808 = -1 by omega]; decide
    rw [e1, e2, bits_xor_u64_nat _ _ (by omega) (by decide), Nat.xor_comm, Lib.xor_ones64 _ (by omega), zig_neg h]
    omega
  · have e1 : IntKind.u64.wrap (IntKind.u64.wrap k * 2) = (((2 * k).toNat : Nat) : Int) := by
      rw [IntKind.wrap_u64, IntKind.wrap_u64]; omega
    have e2 : IntKind.u64.wrap (k / 9223372036854775808) = ((0 : Nat) : Int) := by
      rw [IntKind.wrap_u64, show k / 9223372036854775808 = 0 by omega]; decide
    rw [e1, e2, bits_xor_u64_nat _ _ (by omega) (by decide), Nat.xor_zero, zig_nonneg h]
    omega

theorem rzig_neg {k : Int} (h1 : -9223372036854775808 ≤ k) (h : k < 0) :
    IntKind.u64.wrap (IntKind.u64.wrap (2 * IntKind.u64.wrap (-IntKind.u64.wrap k)) - 1) = ((zig k : Nat) : Int) := by
  rw [zig_neg h]; simp only [IntKind.wrap_u64]; omega
theorem rzig_pos {k : Int} (h2 : k ≤ 9223372036854775807) (h : ¬ k < 0) : IntKind.u64.wrap (2 * IntKind.u64.wrap k) = ((zig k : Nat) : Int) := by
  rw [zig_nonneg h]; simp only [IntKind.wrap_u64]; omega

theorem vint_any (k : Int) (w : World) (h1 : -9223372036854775808 ≤ k) (h2 : k ≤ 9223372036854775807) :
    Calls Try.prog 47 #[.int .i64 k] w fun e w' => ∃ v, e = .returned v ∧ Own w' w.heap.size v (Lib.uvarint (zig k)) ∧ Fr Non w w' := by
  have e1 := vzig h1 h2
  have Hz := Lib.hid (zig_lt h1 h2)
  clear h1 h2
  go_enter Try.func47, Try.ntmps47
  go_wp2_with fail
  refine (vnum_any (zig k) w Hz.out).mono ?_
  rintro e w' ⟨v, rfl, hown, hfr⟩
  go_wp2
  go_ret
  exact ⟨v, rfl, hown, hfr⟩

theorem rint_any (k : Int) (w : World) (h1 : -9223372036854775808 ≤ k) (h2 : k ≤ 9223372036854775807) :
    Calls Try.prog 49 #[.int .i64 k] w fun e w' => ∃ v, e = .returned v ∧ Own w' w.heap.size v (Lib.uvarint (zig k)) ∧ Fr Non w w' := by
  have Hz := Lib.hid (zig_lt h1 h2)
  by_cases h0 : k < 0
  · have e1 := rzig_neg h1 h0
    clear h1 h2
    go_enter Try.func49, Try.ntmps49
    go_wp2_with fail
    refine (rnum_any (zig k) w Hz.out).mono ?_
    rintro e w' ⟨v, rfl, hown, hfr⟩
    go_wp2
    go_ret
    exact ⟨v, rfl, hown, hfr⟩
  · have e1 := rzig_pos h2 h0
    clear h1 h2
    go_enter Try.func49, Try.ntmps49
    go_wp2_with fail
    refine (rnum_any (zig k) w Hz.out).mono ?_
    rintro e w' ⟨v, rfl, hown, hfr⟩
    go_wp2
    go_ret
    exact ⟨v, rfl, hown, hfr⟩

end Go.Proofs.Ytihofmmbdedhbaa


namespace Go.Proofs.Ytihofmmbdedhbaa
set_option linter.unusedVariables false
set_option linter.unusedSimpArgs false
set_option maxRecDepth 100000

abbrev Tx := List UInt8

theorem bless : ∀ (x y : Tx), Op.bytesLess x y = decide (x < y)
  | x, [] => by cases x <;> simp [Op.bytesLess]
  | [], b :: y => by simp [Op.bytesLess]
  | a :: x, b :: y => by
    rw [Op.bytesLess, bless x y, Bool.eq_iff_iff]
    simp [List.cons_lt_cons_iff]

/-- ahead, the same, behind: of texts, and of numbers -/
def cmpT (x y : Tx) : Int := if x < y then -1 else if y < x then 1 else 0
def cmpI (x y : Int) : Int := if x < y then -1 else if y < x then 1 else 0
theorem tx_tri (x y : Tx) : x < y ∨ x = y ∨ y < x := by
  by_cases h1 : x < y
  · exact .inl h1
  · by_cases h2 : y < x
    · exact .inr (.inr h2)
    · exact .inr (.inl (List.le_antisymm (List.not_lt.1 h2) (List.not_lt.1 h1)))
theorem cmpT_lt {x y : Tx} (h : x < y) : cmpT x y = -1 := by unfold cmpT; rw [if_pos h]
theorem cmpT_gt {x y : Tx} (h : y < x) : cmpT x y = 1 := by
  unfold cmpT; rw [if_neg (fun e => List.lt_irrefl x (List.lt_trans e h)), if_pos h]
theorem cmpT_self (x : Tx) : cmpT x x = 0 := by unfold cmpT; rw [if_neg (List.lt_irrefl x), if_neg (List.lt_irrefl x)]
theorem cmpT_neg (x y : Tx) : cmpT y x = -cmpT x y := by
  rcases tx_tri x y with h | h | h
  · rw [cmpT_lt h, cmpT_gt h]; rfl
  · subst h; rw [cmpT_self]; rfl
  · rw [cmpT_lt h, cmpT_gt h]
theorem cmpT_zero {x y : Tx} : cmpT x y = 0 ↔ x = y := by
  rcases tx_tri x y with h | h | h
  · rw [cmpT_lt h]; exact ⟨fun e => by omega, fun e => absurd (e ▸ h) (List.lt_irrefl _)⟩
  · subst h; simp [cmpT_self]
  · rw [cmpT_gt h]; exact ⟨fun e => by omega, fun e => absurd (e ▸ h) (List.lt_irrefl _)⟩
theorem cmpT_le {x y : Tx} : cmpT x y ≤ 0 ↔ ¬ y < x := by
  rcases tx_tri x y with h | h | h
  · rw [cmpT_lt h]; exact ⟨fun _ e => List.lt_irrefl x (List.lt_trans h e), fun _ => by omega⟩
  · subst h; simp [cmpT_self, List.lt_irrefl]
  · rw [cmpT_gt h]; simp [h]
theorem cmpT_trans {x y z : Tx} (h1 : cmpT x y ≤ 0) (h2 : cmpT y z ≤ 0) : cmpT x z ≤ 0 := by
  rw [cmpT_le] at *
  exact fun h => h2 (by
    rcases tx_tri x y with h3 | h3 | h3
    · exact List.lt_trans h h3
    · subst h3; exact h
    · exact absurd h3 h1)
end Go.Proofs.Ytihofmmbdedhbaa


namespace Go.Proofs.Ytihofmmbdedhbaa
set_option linter.unusedVariables false
set_option linter.unusedSimpArgs false
set_option maxRecDepth 100000
open Go.RowKit

/-- a cell: null or not, its number, its text -/
structure Cl where
  null : Bool
  num : Int
  txt : List UInt8
  deriving DecidableEq
/-- its cells, and its value -/
def clC (c : Cl) : Array Value := #[.bool c.null, .int .i64 c.num, .string ⟨c.txt.toArray⟩]
def clV (c : Cl) : Value := .agg (clC c)
/-- are two the same? -/
def ceq (a b : Cl) : Bool := decide (a = b)
theorem ceq_self (a : Cl) : ceq a a = true := by simp [ceq]
theorem ceq_is {a b : Cl} (h : ceq a b = true) : a = b := by simpa [ceq] using h
theorem eq_parts (a b : Cl) : ceq a b = (a.null == b.null && (a.num == b.num && a.txt == b.txt)) := by
  obtain ⟨an, ai, at_⟩ := a
  obtain ⟨bn, bi, bt⟩ := b
  unfold ceq
  rw [Bool.eq_iff_iff]
  simp

theorem run_eql_cl (W : World) (a b : Cl) : (binOp .eql 26 (.agg #[.bool a.null, .int .i64 a.num, .string ⟨a.txt.toArray⟩]) (.agg #[.bool b.null, .int .i64 b.num, .string ⟨b.txt.toArray⟩])).run Try.prog W = .ok (.bool (ceq a b)) W := by
  rw [eq_parts]
  obtain ⟨an, ai, at_⟩ := a
  obtain ⟨bn, bi, bt⟩ := b
  go_simp
  by_cases h1 : an = bn <;> by_cases h2 : ai = bi <;> by_cases h3 : at_ = bt <;> simp [h1, h2, h3]
theorem csame_any (a b : Cl) (w : World) : Calls Try.prog 32 #[clV a, clV b] w fun e w' => e = .returned (.bool (ceq a b)) ∧ Fr Non w w' := by
  have h := fun W => run_eql_cl W a b
  unfold clV clC
  go_enter Try.func32, Try.ntmps32
  go_wp2
  go_ret
  exact ⟨rfl, ((Fr.refl _ _).alloc _).alloc _⟩

/-- is there such a type? -/
def isTy (ty : Int) : Bool := ty == 1 || ty == 2 || ty == 3
/-- which cells there may be -/
def mayC (ty : Int) (nl : Bool) (c : Cl) : Bool :=
  isTy ty && (if c.null then nl && (c.num == 0 && c.txt.isEmpty) else if ty = 3 then c.num == 0 && decide (c.txt.length ≤ 40) else c.txt.isEmpty && (ty == 1 || (c.num == 0 || c.num == 1)))

theorem istype_any (ty : Int) (w : World) : Calls Try.prog 46 #[.int .i64 ty] w fun e w' => e = .returned (.bool (isTy ty)) ∧ w = w' := by
  go_enter Try.func46, Try.ntmps46
  go_wp2
  all_goals
    go_ret
    exact ⟨ret_boolE (by simp_all [isTy]), rfl⟩

theorem slen (l : List UInt8) : ByteArray.size ⟨l.toArray⟩ = l.length := by simp [ByteArray.size]
theorem mayC_no {ty : Int} (h1 : ¬ ty = 1) (h2 : ¬ ty = 2) (h3 : ¬ ty = 3) (nl : Bool) (c : Cl) : mayC ty nl c = false := by
  simp [mayC, isTy, h1, h2, h3]
theorem mayC_null (ty : Int) (nl : Bool) (i : Int) (t : Tx) : mayC ty nl ⟨true, i, t⟩ = (nl && (isTy ty && ceq ⟨true, i, t⟩ ⟨true, 0, []⟩)) := by
  rw [eq_parts]
  unfold mayC
  cases isTy ty <;> cases nl <;> cases t <;> simp

set_option maxHeartbeats 1000000 in
theorem may_any (ty : Int) (nl : Bool) (c : Cl) (w : World) : Calls Try.prog 33 #[.int .i64 ty, .bool nl, clV c] w fun e w' => e = .returned (.bool (mayC ty nl c)) ∧ Fr Non w w' := by
  obtain ⟨n, i, t⟩ := c
  unfold clV clC
  cases n
  · have hs := slen t
    by_cases h1 : ty = 1
    · subst h1
      go_enter Try.func33, Try.ntmps33
      go_wp2
      all_goals
        go_ret
        exact ⟨ret_boolE (by first | rfl | (simp [mayC, isTy]; done) | (simp_all [mayC, isTy]; done) | (simp_all [mayC, isTy] <;> omega)), (Fr.refl _ _).alloc _⟩
    · by_cases h2 : ty = 2
      · subst h2
        go_enter Try.func33, Try.ntmps33
        go_wp2
        all_goals
          go_ret
          exact ⟨ret_boolE (by first | rfl | (simp [mayC, isTy]; done) | (simp_all [mayC, isTy]; done) | (simp_all [mayC, isTy] <;> omega)), (Fr.refl _ _).alloc _⟩
      · by_cases h3 : ty = 3
        · subst h3
          go_enter Try.func33, Try.ntmps33
          go_wp2
          all_goals
            go_ret
            exact ⟨ret_boolE (by first | rfl | (simp [mayC, isTy]; done) | (simp_all [mayC, isTy]; done) | (simp_all [mayC, isTy] <;> omega)), (Fr.refl _ _).alloc _⟩
        · have H := Lib.hid (mayC_no h1 h2 h3 nl ⟨false, i, t⟩)
          go_enter Try.func33, Try.ntmps33
          go_wp2
          go_ret
          exact ⟨ret_boolE H.out.symm, (Fr.refl _ _).alloc _⟩
  · have H := Lib.hid (mayC_null ty nl i t)
    cases nl
    · go_enter Try.func33, Try.ntmps33
      go_wp2
      go_ret
      exact ⟨ret_boolE (by rw [H.out]; rfl), (Fr.refl _ _).alloc _⟩
    · cases hT : isTy ty with
      | false =>
        have h0 := fun W => istype_any ty W
        simp only [hT] at h0
        have HT := Lib.hid hT
        clear hT
        go_enter Try.func33, Try.ntmps33
        go_wp2_with fail
        refine (h0 _).mono ?_
        rintro e w1 ⟨rfl, rfl⟩
        go_wp2
        go_ret
        exact ⟨ret_boolE (by rw [H.out, HT.out]; rfl), (Fr.refl _ _).alloc _⟩
      | true =>
        have h0 := fun W => istype_any ty W
        simp only [hT] at h0
        have HT := Lib.hid hT
        clear hT
        go_enter Try.func33, Try.ntmps33
        go_wp2_with fail
        refine (h0 _).mono ?_
        rintro e w1 ⟨rfl, rfl⟩
        go_wp2_with fail
        refine (csame_any ⟨true, i, t⟩ ⟨true, 0, []⟩ _).mono ?_
        rintro e w1 ⟨rfl, hf1⟩
        go_wp2
        go_ret
        exact ⟨ret_boolE (by rw [H.out, HT.out]; rfl), ((Fr.refl _ _).alloc _).trans hf1⟩

set_option maxHeartbeats 1000000 in
theorem rmay_any (ty : Int) (nl : Bool) (c : Cl) (w : World) : Calls Try.prog 27 #[.int .i64 ty, .bool nl, clV c] w fun e w' => e = .returned (.bool (mayC ty nl c)) ∧ Fr Non w w' := by
  obtain ⟨n, i, t⟩ := c
  unfold clV clC
  by_cases h0 : ty < 1
  · have H := Lib.hid (mayC_no (ty := ty) (by omega) (by omega) (by omega) nl ⟨n, i, t⟩)
    go_enter Try.func27, Try.ntmps27
    go_wp2
    go_ret
    exact ⟨ret_boolE H.out.symm, (Fr.refl _ _).alloc _⟩
  · by_cases h4 : 3 < ty
    · have H := Lib.hid (mayC_no (ty := ty) (by omega) (by omega) (by omega) nl ⟨n, i, t⟩)
      go_enter Try.func27, Try.ntmps27
      go_wp2
      go_ret
      exact ⟨ret_boolE H.out.symm, (Fr.refl _ _).alloc _⟩
    · have hs := slen t
      have h3 : ty = 1 ∨ ty = 2 ∨ ty = 3 := by omega
      clear h0 h4
      cases n
      · rcases h3 with h | h | h
        · subst h
          go_enter Try.func27, Try.ntmps27
          go_wp2
          all_goals
            go_ret
            exact ⟨ret_boolE (by first | rfl | (simp [mayC, isTy]; done) | (simp_all [mayC, isTy]; done) | (simp_all [mayC, isTy] <;> omega)), (Fr.refl _ _).alloc _⟩
        · subst h
          go_enter Try.func27, Try.ntmps27
          go_wp2
          all_goals
            go_ret
            exact ⟨ret_boolE (by first | rfl | (simp [mayC, isTy]; done) | (simp_all [mayC, isTy]; done) | (simp_all [mayC, isTy] <;> omega)), (Fr.refl _ _).alloc _⟩
        · subst h
          go_enter Try.func27, Try.ntmps27
          go_wp2
          all_goals
            go_ret
            exact ⟨ret_boolE (by first | rfl | (simp [mayC, isTy]; done) | (simp_all [mayC, isTy]; done) | (simp_all [mayC, isTy] <;> omega)), (Fr.refl _ _).alloc _⟩
      · have hT : isTy ty = true := by rcases h3 with rfl | rfl | rfl <;> rfl
        have hl : ¬ ty < 1 := by omega
        have hg : ¬ 3 < ty := by omega
        clear h3
        cases nl
        · go_enter Try.func27, Try.ntmps27
          go_wp2
          all_goals
            go_ret
            exact ⟨ret_boolE (by first | (simp [mayC, hT]; done) | (simp_all [mayC]; done)), (Fr.refl _ _).alloc _⟩
        · go_enter Try.func27, Try.ntmps27
          go_wp2
          all_goals
            go_ret
            exact ⟨ret_boolE (by first | (simp [mayC, hT]; done) | (simp_all [mayC]; done)), (Fr.refl _ _).alloc _⟩
end Go.Proofs.Ytihofmmbdedhbaa


namespace Go.Proofs.Ytihofmmbdedhbaa
set_option linter.unusedVariables false
set_option linter.unusedSimpArgs false
set_option maxRecDepth 100000
open Go.RowKit

theorem nani_any (x : Int) (w : World) : Calls Try.prog 56 #[.int .i64 x] w fun e w' => e = .returned (.bool false) ∧ w = w' := by
  have h : (x != x) = false := by simp
  go_enter Try.func56, Try.ntmps56
  go_wp2
  go_ret
  exact ⟨ret_boolE (by simp), rfl⟩
theorem nant_any (x : Tx) (w : World) : Calls Try.prog 57 #[.string ⟨x.toArray⟩] w fun e w' => e = .returned (.bool false) ∧ w = w' := by
  go_enter Try.func57, Try.ntmps57
  go_wp2
  go_ret
  exact ⟨ret_boolE (by simp), rfl⟩

theorem cmpi_any (x y : Int) (w : World) : Calls Try.prog 44 #[.int .i64 x, .int .i64 y] w fun e w' => e = .returned (.int .i64 (cmpI x y)) ∧ w = w' := by
  go_enter Try.func44, Try.ntmps44
  go_wp2_with fail
  refine (nani_any x w).mono ?_
  rintro e w1 ⟨rfl, rfl⟩
  go_wp2_with fail
  refine (nani_any y w).mono ?_
  rintro e w1 ⟨rfl, rfl⟩
  go_wp2
  all_goals
    go_ret
    exact ⟨ret_int (by unfold cmpI; first | (rw [if_pos (by omega)]; done) | (rw [if_neg (by omega), if_pos (by omega)]; done) | (rw [if_neg (by omega), if_neg (by omega)]; done)), rfl⟩

/-- Go's '<' both ways, decided -/
theorem less_lt {x y : Tx} (h : x < y) : Op.bytesLess x y = true := by rw [bless]; simpa using h
theorem less_gt {x y : Tx} (h : y < x) : Op.bytesLess x y = false ∧ (x == y) = false := by
  refine ⟨by rw [bless]; simpa using fun e => List.lt_irrefl x (List.lt_trans e h), beq_eq_false_iff_ne.2 fun e => ?_⟩
  subst e; exact List.lt_irrefl x h
theorem less_self (x : Tx) : Op.bytesLess x x = false := by rw [bless]; simp

theorem cmpt_any (x y : Tx) (w : World) : Calls Try.prog 45 #[.string ⟨x.toArray⟩, .string ⟨y.toArray⟩] w fun e w' => e = .returned (.int .i64 (cmpT x y)) ∧ w = w' := by
  rcases tx_tri x y with hl | hl | hl
  · have h1 := less_lt hl
    have H := Lib.hid (cmpT_lt hl)
    clear hl
    go_enter Try.func45, Try.ntmps45
    go_wp2_with fail
    refine (nant_any x w).mono ?_
    rintro e w1 ⟨rfl, rfl⟩
    go_wp2_with fail
    refine (nant_any y w).mono ?_
    rintro e w1 ⟨rfl, rfl⟩
    go_wp2
    go_ret
    exact ⟨ret_int (by rw [H.out]), rfl⟩
  · subst hl
    have h1 := less_self x
    have H := Lib.hid (cmpT_self x)
    go_enter Try.func45, Try.ntmps45
    go_wp2_with fail
    refine (nant_any x w).mono ?_
    rintro e w1 ⟨rfl, rfl⟩
    go_wp2_with fail
    refine (nant_any x w).mono ?_
    rintro e w1 ⟨rfl, rfl⟩
    go_wp2
    go_ret
    exact ⟨ret_int (by rw [H.out]), rfl⟩
  · obtain ⟨h1, h2⟩ := less_gt hl
    have H := Lib.hid (cmpT_gt hl)
    clear hl
    go_enter Try.func45, Try.ntmps45
    go_wp2_with fail
    refine (nant_any x w).mono ?_
    rintro e w1 ⟨rfl, rfl⟩
    go_wp2_with fail
    refine (nant_any y w).mono ?_
    rintro e w1 ⟨rfl, rfl⟩
    go_wp2
    go_ret
    exact ⟨ret_int (by rw [H.out]), rfl⟩

/-! ### The order -/
def ordC (a b : Cl) : Int := if a.null && !b.null then -1 else if b.null && !a.null then 1 else if a.num = b.num then cmpT a.txt b.txt else cmpI a.num b.num
theorem cmpI_lt {x y : Int} (h : x < y) : cmpI x y = -1 := by unfold cmpI; rw [if_pos h]
theorem cmpI_gt {x y : Int} (h : y < x) : cmpI x y = 1 := by unfold cmpI; rw [if_neg (by omega), if_pos h]
theorem ordC_null {a b : Cl} (h : a.null = b.null) : ordC a b = if a.num = b.num then cmpT a.txt b.txt else cmpI a.num b.num := by
  unfold ordC
  cases ha : a.null <;> rw [ha] at h <;> simp [← h]
theorem ordC_mk (n : Bool) (i j : Int) (s t : Tx) : ordC ⟨n, i, s⟩ ⟨n, j, t⟩ = if i = j then cmpT s t else cmpI i j := ordC_null (a := ⟨n, i, s⟩) (b := ⟨n, j, t⟩) rfl
theorem ordC_tf {a b : Cl} (h : a.null = true) (h' : b.null = false) : ordC a b = -1 := by unfold ordC; rw [h, h']; rfl
theorem ordC_ft {a b : Cl} (h : a.null = false) (h' : b.null = true) : ordC a b = 1 := by unfold ordC; rw [h, h']; rfl
theorem ordC_neg (a b : Cl) : ordC b a = -ordC a b := by
  cases ha : a.null <;> cases hb : b.null
  · rw [ordC_null (ha.trans hb.symm), ordC_null (hb.trans ha.symm)]
    by_cases h : a.num = b.num
    · rw [if_pos h, if_pos h.symm, cmpT_neg]
    · rw [if_neg h, if_neg (fun e => h e.symm)]
      unfold cmpI
      split <;> split <;> first | rfl | omega | (split <;> first | rfl | omega)
  · rw [ordC_ft ha hb, ordC_tf hb ha]
  · rw [ordC_tf ha hb, ordC_ft hb ha]; rfl
  · rw [ordC_null (ha.trans hb.symm), ordC_null (hb.trans ha.symm)]
    by_cases h : a.num = b.num
    · rw [if_pos h, if_pos h.symm, cmpT_neg]
    · rw [if_neg h, if_neg (fun e => h e.symm)]
      unfold cmpI
      split <;> split <;> first | rfl | omega | (split <;> first | rfl | omega)
theorem cmpI_zero {x y : Int} (h : cmpI x y = 0) : x = y := by
  unfold cmpI at h
  split at h
  · omega
  · split at h <;> omega
theorem ordC_zero (a b : Cl) : (ordC a b == 0) = ceq a b := by
  rw [Bool.eq_iff_iff, beq_iff_eq]
  obtain ⟨an, ai, at_⟩ := a
  obtain ⟨bn, bi, bt⟩ := b
  simp only [ceq, decide_eq_true_eq, Cl.mk.injEq]
  cases an <;> cases bn
  · rw [ordC_mk]
    by_cases h : ai = bi
    · simp only [h, if_true]; rw [cmpT_zero]; simp
    · simp only [h, if_false]
      exact ⟨fun e => absurd (cmpI_zero e) h, fun e => absurd e.2.1 (by simp)⟩
  · rw [ordC_ft rfl rfl]; simp
  · rw [ordC_tf rfl rfl]; simp
  · rw [ordC_mk]
    by_cases h : ai = bi
    · simp only [h, if_true]; rw [cmpT_zero]; simp
    · simp only [h, if_false]
      exact ⟨fun e => absurd (cmpI_zero e) h, fun e => absurd e.2.1 (by simp)⟩
theorem cmpI_le {x y : Int} : cmpI x y ≤ 0 ↔ x ≤ y := by
  unfold cmpI
  split
  · omega
  · split <;> omega
theorem ordC_trans {a b c : Cl} (h1 : ordC a b ≤ 0) (h2 : ordC b c ≤ 0) : ordC a c ≤ 0 := by
  have step : ∀ {a b c : Cl}, a.null = b.null → b.null = c.null → ordC a b ≤ 0 → ordC b c ≤ 0 → ordC a c ≤ 0 := by
    intro a b c hab hbc h1 h2
    rw [ordC_null hab] at h1
    rw [ordC_null hbc] at h2
    rw [ordC_null (hab.trans hbc)]
    by_cases e1 : a.num = b.num <;> by_cases e2 : b.num = c.num
    · rw [if_pos e1] at h1; rw [if_pos e2] at h2; rw [if_pos (e1.trans e2)]; exact cmpT_trans h1 h2
    · rw [if_neg e2] at h2
      rw [if_neg (fun e => e2 (e1 ▸ e)), e1]; exact h2
    · rw [if_neg e1] at h1
      rw [if_neg (fun e => e1 (e.trans e2.symm)), ← e2]; exact h1
    · rw [if_neg e1, cmpI_le] at h1
      rw [if_neg e2, cmpI_le] at h2
      rw [if_neg (by omega), cmpI_le]; omega
  cases ha : a.null <;> cases hb : b.null <;> cases hc : c.null
  · exact step (ha.trans hb.symm) (hb.trans hc.symm) h1 h2
  · rw [ordC_ft hb hc] at h2; omega
  · rw [ordC_ft ha hb] at h1; omega
  · rw [ordC_ft ha hb] at h1; omega
  · rw [ordC_tf ha hc]; omega
  · rw [ordC_ft hb hc] at h2; omega
  · rw [ordC_tf ha hc]; omega
  · exact step (ha.trans hb.symm) (hb.trans hc.symm) h1 h2
set_option maxHeartbeats 1000000 in
theorem order_any (a b : Cl) (w : World) : Calls Try.prog 29 #[clV a, clV b] w fun e w' => e = .returned (.int .i64 (ordC a b)) ∧ Fr Non w w' := by
  obtain ⟨an, ai, at_⟩ := a
  obtain ⟨bn, bi, bt⟩ := b
  unfold clV clC
  cases an <;> cases bn
  case false.true =>
    go_enter Try.func29, Try.ntmps29
    go_wp2
    go_ret
    exact ⟨rfl, ((Fr.refl _ _).alloc _).alloc _⟩
  case true.false =>
    go_enter Try.func29, Try.ntmps29
    go_wp2
    go_ret
    exact ⟨rfl, ((Fr.refl _ _).alloc _).alloc _⟩
  all_goals
    by_cases h : ai = bi
    · have HI := Lib.hid h
      have hb : (ai != bi) = false := by rw [h]; simp
      clear h
      go_enter Try.func29, Try.ntmps29
      go_wp2_with fail
      refine (cmpt_any at_ bt _).mono ?_
      rintro e w1 ⟨rfl, rfl⟩
      go_wp2
      go_ret
      exact ⟨ret_int (by rw [ordC_mk]; exact (if_pos HI.out).symm), ((Fr.refl _ _).alloc _).alloc _⟩
    · have HI := Lib.hid h
      have hb : (ai != bi) = true := by simpa using h
      clear h
      go_enter Try.func29, Try.ntmps29
      go_wp2_with fail
      refine (cmpi_any ai bi _).mono ?_
      rintro e w1 ⟨rfl, rfl⟩
      go_wp2
      go_ret
      exact ⟨ret_int (by rw [ordC_mk]; exact (if_neg HI.out).symm), ((Fr.refl _ _).alloc _).alloc _⟩

theorem ordC_of_lt {n : Bool} {i j : Int} {s t : Tx} (h : i < j) : ordC ⟨n, i, s⟩ ⟨n, j, t⟩ = -1 := by
  rw [ordC_mk]; simp only [show ¬ i = j by omega, if_false]; exact cmpI_lt h
theorem ordC_of_gt {n : Bool} {i j : Int} {s t : Tx} (h : j < i) : ordC ⟨n, i, s⟩ ⟨n, j, t⟩ = 1 := by
  rw [ordC_mk]; simp only [show ¬ i = j by omega, if_false]; exact cmpI_gt h
theorem ordC_of_eq {n : Bool} {i : Int} {s t : Tx} : ordC ⟨n, i, s⟩ ⟨n, i, t⟩ = cmpT s t := by rw [ordC_mk]; simp

set_option maxHeartbeats 1000000 in
theorem rorder_any (a b : Cl) (w : World) : Calls Try.prog 26 #[clV a, clV b] w fun e w' => e = .returned (.int .i64 (ordC a b)) ∧ Fr Non w w' := by
  obtain ⟨an, ai, at_⟩ := a
  obtain ⟨bn, bi, bt⟩ := b
  unfold clV clC
  cases an <;> cases bn
  case false.true =>
    go_enter Try.func26, Try.ntmps26
    go_wp2
    go_ret
    exact ⟨rfl, ((Fr.refl _ _).alloc _).alloc _⟩
  case true.false =>
    go_enter Try.func26, Try.ntmps26
    go_wp2
    go_ret
    exact ⟨rfl, ((Fr.refl _ _).alloc _).alloc _⟩
  all_goals
    rcases Int.lt_trichotomy ai bi with h | h | h
    · go_enter Try.func26, Try.ntmps26
      go_wp2
      go_ret
      exact ⟨ret_int (ordC_of_lt h).symm, ((Fr.refl _ _).alloc _).alloc _⟩
    · subst h
      rcases tx_tri at_ bt with hl | hl | hl
      · have h1 := less_lt hl
        have H := Lib.hid (cmpT_lt hl)
        clear hl
        go_enter Try.func26, Try.ntmps26
        go_wp2
        go_ret
        exact ⟨ret_int (by rw [ordC_of_eq, H.out]), ((Fr.refl _ _).alloc _).alloc _⟩
      · subst hl
        have h1 := less_self at_
        have H := Lib.hid (cmpT_self at_)
        go_enter Try.func26, Try.ntmps26
        go_wp2
        go_ret
        exact ⟨ret_int (by rw [ordC_of_eq, H.out]), ((Fr.refl _ _).alloc _).alloc _⟩
      · obtain ⟨h1, h2⟩ := less_gt hl
        have H := Lib.hid (cmpT_gt hl)
        clear hl
        go_enter Try.func26, Try.ntmps26
        go_wp2
        go_ret
        exact ⟨ret_int (by rw [ordC_of_eq, H.out]), ((Fr.refl _ _).alloc _).alloc _⟩
    · go_enter Try.func26, Try.ntmps26
      go_wp2
      go_ret
      exact ⟨ret_int (ordC_of_gt h).symm, ((Fr.refl _ _).alloc _).alloc _⟩
end Go.Proofs.Ytihofmmbdedhbaa


namespace Go.Proofs.Ytihofmmbdedhbaa
set_option linter.unusedVariables false
set_option linter.unusedSimpArgs false
set_option maxRecDepth 100000
open Go.RowKit

/-- the cell c lies in block g -/
abbrev ClB (w : World) (g : Nat) (c : Cl) : Prop := Blk w g 26 #[.bool c.null, .int .i64 c.num, .string ⟨c.txt.toArray⟩]
/-- what a walk asks of it -/
theorem ClB.facts {w : World} {g : Nat} {c : Cl} (h : ClB w g c) :
    w.cell? ⟨g, 0, none⟩ = some (.bool c.null) ∧ w.cell? ⟨g, 1, none⟩ = some (.int .i64 c.num) ∧ w.cell? ⟨g, 2, none⟩ = some (.string ⟨c.txt.toArray⟩) ∧
    w.frozen? ⟨g, 0, none⟩ = false ∧ w.frozen? ⟨g, 1, none⟩ = false ∧ w.frozen? ⟨g, 2, none⟩ = false :=
  ⟨h.cell 0, h.cell 1, h.cell 2, h.frozen 0, h.frozen 1, h.frozen 2⟩
/-- a cell stored whole, as a walk spells it -/
def setCl (w : World) (g : Nat) (n : Bool) (i : Int) (t : List UInt8) : World := ((w.setCell ⟨g, 0, none⟩ (.bool n)).setCell ⟨g, 1, none⟩ (.int .i64 i)).setCell ⟨g, 2, none⟩ (.string ⟨t.toArray⟩)
theorem setCl_B {w : World} {g : Nat} {c : Cl} (h : ClB w g c) (n : Bool) (i : Int) (t : List UInt8) : ClB (setCl w g n i t) g ⟨n, i, t⟩ := ((h.set 0 _).set 1 _).set 2 _
theorem setCl_fr (w : World) (g : Nat) (n : Bool) (i : Int) (t : List UInt8) : Fr (One g) w (setCl w g n i t) := (((Fr.refl (One g) w).set1 0 _).set1 1 _).set1 2 _
/-- a call's end where its one result is a cell in a block -/
theorem ret_cl {fn : Func} {p : Tmp} (h : fn.results = #[.cell p 26]) (tmps : Array Value) (w : World) (g : Nat) (c : Cl)
    (hp : tmps.getD p undef = .pointer (some ⟨g, 0, none⟩)) (hg : ClB w g c) : (results fn tmps).run Try.prog w = .ok (clV c) w :=
  results_cell_row h tmps w g 26 _ (0, 0) _ hp hg Try.underlying26 rfl (by kernel_rfl)
theorem cl_new (w : World) (c : Cl) : ClB (w.alloc (.cells #[.bool c.null, .int .i64 c.num, .string ⟨c.txt.toArray⟩] 26)) w.heap.size c := Blk.new _ _ _
end Go.Proofs.Ytihofmmbdedhbaa


namespace Go.Proofs.Ytihofmmbdedhbaa
set_option linter.unusedVariables false
set_option linter.unusedSimpArgs false
set_option maxRecDepth 100000
open Go.RowKit

/-- a zone: how many cells, how many of them null, the least and the greatest of the others -/
structure Zn where
  rows : Int
  nulls : Int
  low : Cl
  high : Cl
  deriving DecidableEq
/-- its cells, and its value -/
def znC (z : Zn) : Array Value := #[.int .i64 z.rows, .int .i64 z.nulls, .bool z.low.null, .int .i64 z.low.num, .string ⟨z.low.txt.toArray⟩, .bool z.high.null, .int .i64 z.high.num, .string ⟨z.high.txt.toArray⟩]
def znV (z : Zn) : Value := .agg (znC z)
def noCl : Cl := ⟨false, 0, []⟩
def noZn : Zn := ⟨0, 0, noCl, noCl⟩
def zeq (a b : Zn) : Bool := decide (a = b)
theorem zeq_self (a : Zn) : zeq a a = true := by simp [zeq]
theorem zeq_parts (a b : Zn) : zeq a b = (a.rows == b.rows && (a.nulls == b.nulls && (a.low.null == b.low.null && (a.low.num == b.low.num && (a.low.txt == b.low.txt && (a.high.null == b.high.null && (a.high.num == b.high.num && a.high.txt == b.high.txt))))))) := by
  obtain ⟨ar, an, ⟨aln, ali, alt⟩, ⟨ahn, ahi, aht⟩⟩ := a
  obtain ⟨br, bn, ⟨bln, bli, blt⟩, ⟨bhn, bhi, bht⟩⟩ := b
  unfold zeq
  rw [Bool.eq_iff_iff]
  simp [and_assoc]

/-- the zone z lies in block g -/
abbrev ZnB (w : World) (g : Nat) (z : Zn) : Prop := Blk w g 28 (znC z)
/-- what a walk asks of it -/
def ZCells (w : World) (g : Nat) (z : Zn) : Prop :=
  w.cell? ⟨g, 0, none⟩ = some (.int .i64 z.rows) ∧ w.cell? ⟨g, 1, none⟩ = some (.int .i64 z.nulls) ∧
  w.cell? ⟨g, 2, none⟩ = some (.bool z.low.null) ∧ w.cell? ⟨g, 3, none⟩ = some (.int .i64 z.low.num) ∧ w.cell? ⟨g, 4, none⟩ = some (.string ⟨z.low.txt.toArray⟩) ∧
  w.cell? ⟨g, 5, none⟩ = some (.bool z.high.null) ∧ w.cell? ⟨g, 6, none⟩ = some (.int .i64 z.high.num) ∧ w.cell? ⟨g, 7, none⟩ = some (.string ⟨z.high.txt.toArray⟩)
def ZFroz (w : World) (g : Nat) : Prop :=
  w.frozen? ⟨g, 0, none⟩ = false ∧ w.frozen? ⟨g, 1, none⟩ = false ∧ w.frozen? ⟨g, 2, none⟩ = false ∧ w.frozen? ⟨g, 3, none⟩ = false ∧
  w.frozen? ⟨g, 4, none⟩ = false ∧ w.frozen? ⟨g, 5, none⟩ = false ∧ w.frozen? ⟨g, 6, none⟩ = false ∧ w.frozen? ⟨g, 7, none⟩ = false
theorem znB_cells {w : World} {g : Nat} {z : Zn} (h : ZnB w g z) : ZCells w g z :=
  ⟨h.cell 0, h.cell 1, h.cell 2, h.cell 3, h.cell 4, h.cell 5, h.cell 6, h.cell 7⟩
theorem znB_froz {w : World} {g : Nat} {z : Zn} (h : ZnB w g z) : ZFroz w g :=
  ⟨h.frozen 0, h.frozen 1, h.frozen 2, h.frozen 3, h.frozen 4, h.frozen 5, h.frozen 6, h.frozen 7⟩
/-- a zone, and behind it a cell -/
structure ZnCl (w : World) (g : Nat) (z : Zn) (c : Cl) : Prop where
  one : ZnB w g z
  two : ClB w (g + 1) c
theorem ZnCl.non {w w' : World} {g : Nat} {z : Zn} {c : Cl} (h : ZnCl w g z c) (hf : Fr Non w w') : ZnCl w' g z c := ⟨h.one.fr hf (fun e => e), h.two.fr hf (fun e => e)⟩
/-! ### Which zones there may be -/
/-- is there a least and a greatest? -/
def bndZ (z : Zn) : Bool := decide (z.nulls < z.rows)
def cntZ (z : Zn) : Bool := decide (0 ≤ z.nulls ∧ z.nulls ≤ z.rows ∧ z.rows ≤ 4096)
def mayZ (ty : Int) (z : Zn) : Bool :=
  cntZ z && isTy ty && (if bndZ z then mayC ty false z.low && mayC ty false z.high && decide (ordC z.low z.high ≤ 0) else ceq z.low noCl && ceq z.high noCl)
theorem bnd_any (z : Zn) (w : World) : Calls Try.prog 28 #[znV z] w fun e w' => e = .returned (.bool (bndZ z)) ∧ Fr Non w w' := by
  unfold znV znC
  go_enter Try.func28, Try.ntmps28
  go_wp2
  go_ret
  exact ⟨rfl, (Fr.refl _ _).alloc _⟩

theorem cnt_zn (z : Zn) (w : World) : Calls Try.prog 30 #[znV z] w fun e w' => e = .returned (.bool (cntZ z)) ∧ Fr Non w w' := by
  unfold znV znC
  go_enter Try.func30, Try.ntmps30
  go_wp2
  all_goals
    go_ret
    exact ⟨ret_boolE (by unfold cntZ; first | (simp_all; done) | (simp_all; omega) | (simp; omega)), (Fr.refl _ _).alloc _⟩

theorem ist_zn (ty : Int) (w : World) : Calls Try.prog 31 #[.int .i64 ty] w fun e w' => e = .returned (.bool (isTy ty)) ∧ Fr Non w w' := by
  have HM := Lib.hid (may_any ty true ⟨true, 0, []⟩ w)
  have e1 : mayC ty true ⟨true, 0, []⟩ = isTy ty := by simp [mayC]
  rw [e1] at HM
  clear e1
  go_enter Try.func31, Try.ntmps31
  go_wp2_with fail
  refine HM.out.mono ?_
  rintro e w1 ⟨rfl, f1⟩
  go_wp2
  go_ret
  exact ⟨rfl, f1⟩
end Go.Proofs.Ytihofmmbdedhbaa


namespace Go.Proofs.Ytihofmmbdedhbaa
set_option linter.unusedVariables false
set_option linter.unusedSimpArgs false
set_option maxRecDepth 100000
open Go.RowKit

def liveC (l : List Cl) : List Cl := l.filter (fun c => !c.null)
def nulC (l : List Cl) : Nat := (l.filter (fun c => c.null)).length
theorem nulC_rest (l : List Cl) : nulC l + (liveC l).length = l.length := by
  unfold nulC liveC
  induction l with
  | nil => rfl
  | cons c l ih => cases h : c.null <;> simp [h] <;> omega
theorem liveC_app (l m : List Cl) : liveC (l ++ m) = liveC l ++ liveC m := by simp [liveC]
theorem nulC_app (l m : List Cl) : nulC (l ++ m) = nulC l + nulC m := by simp [nulC]
theorem liveC_null {c : Cl} (h : c.null = true) : liveC [c] = [] := by simp [liveC, h]
theorem liveC_one {c : Cl} (h : c.null = false) : liveC [c] = [c] := by simp [liveC, h]
theorem nulC_null {c : Cl} (h : c.null = true) : nulC [c] = 1 := by simp [nulC, h]
theorem nulC_one {c : Cl} (h : c.null = false) : nulC [c] = 0 := by simp [nulC, h]
/-- lo and hi are the least and the greatest of l -/
def Bnds (l : List Cl) (lo hi : Cl) : Prop := (l = [] ∧ lo = noCl ∧ hi = noCl) ∨ (lo ∈ l ∧ hi ∈ l ∧ ∀ c ∈ l, ordC lo c ≤ 0 ∧ ordC c hi ≤ 0)
theorem ordC_self (a : Cl) : ordC a a = 0 := by
  have := ordC_zero a a
  rw [ceq_self] at this; simpa using this
theorem ordC_asym {a b : Cl} (h1 : ordC a b ≤ 0) (h2 : ordC b a ≤ 0) : a = b := by
  rw [ordC_neg a b] at h2
  have := ordC_zero a b
  rw [show ordC a b = 0 by omega] at this
  exact ceq_is this.symm
theorem bnds_uniq {l : List Cl} {lo hi lo' hi' : Cl} (h : Bnds l lo hi) (h' : Bnds l lo' hi') : lo = lo' ∧ hi = hi' := by
  rcases h with ⟨e, h1, h2⟩ | ⟨h1, h2, h3⟩
  · rcases h' with ⟨_, h1', h2'⟩ | ⟨h1', _, _⟩
    · exact ⟨h1.trans h1'.symm, h2.trans h2'.symm⟩
    · rw [e] at h1'; cases h1'
  · rcases h' with ⟨e, _, _⟩ | ⟨h1', h2', h3'⟩
    · rw [e] at h1; cases h1
    · exact ⟨ordC_asym (h3 _ h1').1 (h3' _ h1).1, ordC_asym (h3' _ h2).2 (h3 _ h2').2⟩
theorem bnds_step {l : List Cl} {lo hi : Cl} (h : Bnds l lo hi) (c : Cl) :
    Bnds (l ++ [c]) (if (l.isEmpty || decide (ordC c lo < 0)) = true then c else lo) (if (l.isEmpty || decide (0 < ordC c hi)) = true then c else hi) := by
  rcases h with ⟨rfl, _, _⟩ | ⟨h1, h2, h3⟩
  · right
    simp [ordC_self]
  · right
    have he : l.isEmpty = false := by cases l with
      | nil => cases h1
      | cons _ _ => rfl
    rw [he]
    simp only [Bool.false_or, decide_eq_true_eq]
    refine ⟨?_, ?_, ?_⟩
    · split <;> simp [h1]
    · split <;> simp [h2]
    · intro d hd
      rw [List.mem_append, List.mem_singleton] at hd
      have n1 := ordC_neg c lo
      have n2 := ordC_neg c hi
      rcases hd with hd | rfl
      · obtain ⟨q1, q2⟩ := h3 d hd
        constructor
        · split
          · exact ordC_trans (by omega) q1
          · exact q1
        · split
          · exact ordC_trans q2 (by omega)
          · exact q2
      · constructor
        · split
          · exact Int.le_of_eq (ordC_self _)
          · omega
        · split
          · exact Int.le_of_eq (ordC_self _)
          · omega

/-- a zone with one cell more noted -/
def noteZ (first : Bool) (z : Zn) (c : Cl) : Zn :=
  ⟨z.rows, z.nulls, if (first || decide (ordC c z.low < 0)) = true then c else z.low, if (first || decide (0 < ordC c z.high)) = true then c else z.high⟩
/-- z bounds l, which is empty if first is so -/
structure JInv (r n : Int) (l : List Cl) (z : Zn) (first : Bool) : Prop where
  rows : z.rows = r
  nulls : z.nulls = n
  first : first = l.isEmpty
  bnds : Bnds l z.low z.high
theorem jinv_start (r n : Int) : JInv r n [] ⟨r, n, noCl, noCl⟩ true := ⟨rfl, rfl, rfl, .inl ⟨rfl, rfl, rfl⟩⟩
theorem jinv_note {r n : Int} {l : List Cl} {z : Zn} {first : Bool} (h : JInv r n l z first) (c : Cl) : JInv r n (l ++ [c]) (noteZ first z c) false := by
  obtain ⟨h1, h2, rfl, h4⟩ := h
  exact ⟨h1, h2, by simp, bnds_step h4 c⟩
theorem jinv_null {r n m : Int} {l : List Cl} {z : Zn} {first : Bool} (h : JInv r n l z first) (hm : m = n + 1) : JInv r m l ⟨z.rows, z.nulls + 1, z.low, z.high⟩ first :=
  ⟨h.rows, by rw [hm, ← h.nulls], h.first, h.bnds⟩

/-- z is the zone of l -/
structure IsOf (l : List Cl) (z : Zn) : Prop where
  rows : z.rows = l.length
  nulls : z.nulls = nulC l
  bnds : Bnds (liveC l) z.low z.high
theorem isOf_uniq {l : List Cl} {z y : Zn} (h : IsOf l z) (h' : IsOf l y) : z = y := by
  obtain ⟨e1, e2⟩ := bnds_uniq h.bnds h'.bnds
  have e3 := h.rows.trans h'.rows.symm
  have e4 := h.nulls.trans h'.nulls.symm
  obtain ⟨r, n, lo, hi⟩ := z
  obtain ⟨r', n', lo', hi'⟩ := y
  dsimp only at *
  rw [e1, e2, e3, e4]
theorem jinv_end {l : List Cl} {z : Zn} {first : Bool} (h : JInv l.length (nulC l) (liveC l) z first) : IsOf l z := ⟨h.rows, h.nulls, h.bnds⟩
theorem jinv_yes {n : Int} {l : List Cl} {z : Zn} {first : Bool} {k : Nat} (hk : k < l.length) (h : JInv n (nulC (l.take k)) (liveC (l.take k)) z first) (hn : l[k].null = true) :
    JInv n (nulC (l.take (k + 1))) (liveC (l.take (k + 1))) ⟨z.rows, z.nulls + 1, z.low, z.high⟩ first := by
  rw [List.take_succ_eq_append_getElem hk, liveC_app, nulC_app, liveC_null hn, nulC_null hn, List.append_nil]
  exact jinv_null h (by simp)
theorem jinv_no {n : Int} {l : List Cl} {z : Zn} {first : Bool} {k : Nat} (hk : k < l.length) (h : JInv n (nulC (l.take k)) (liveC (l.take k)) z first) (hn : l[k].null = false) :
    JInv n (nulC (l.take (k + 1))) (liveC (l.take (k + 1))) (noteZ first z l[k]) false := by
  rw [List.take_succ_eq_append_getElem hk, liveC_app, nulC_app, liveC_one hn, nulC_one hn]
  exact jinv_note h _
theorem jinv_le {n : Int} {l : List Cl} {z : Zn} {first : Bool} {k : Nat} (hk : k ≤ l.length) (h : JInv n (nulC (l.take k)) (liveC (l.take k)) z first) : 0 ≤ z.nulls ∧ z.nulls ≤ k := by
  have e := nulC_rest (l.take k)
  rw [List.length_take, Nat.min_eq_left hk] at e
  rw [h.nulls]
  omega

/-! ### What follows -/
end Go.Proofs.Ytihofmmbdedhbaa


namespace Go.Proofs.Ytihofmmbdedhbaa
set_option linter.unusedVariables false
set_option linter.unusedSimpArgs false
set_option maxRecDepth 100000
open Go.RowKit

/-- a row of slices, from the head of block g on, that read as the lists ls -/
def Parts (w : World) (g : Nat) (xs : List Value) (ls : List (List UInt8)) : Prop :=
  xs.length = ls.length ∧ ∀ j x l, xs[j]? = some x → ls[j]? = some l → w.cell? ⟨g, j, none⟩ = some x ∧ Bs w x l
theorem Parts.non {w w' : World} {g : Nat} {xs : List Value} {ls : List (List UInt8)} (h : Parts w g xs ls) (hf : Fr Non w w') : Parts w' g xs ls :=
  ⟨h.1, fun j x l hx hl => by
    obtain ⟨h1, h2⟩ := h.2 j x l hx hl
    exact ⟨(hf.cell (p := ⟨g, j, none⟩) (World.block_lt_of_cell? w _ h1) (fun e => e)).trans h1, h2.non hf⟩⟩
theorem Parts.two {w : World} {t : TypeId} {x y : Value} {l m : List UInt8} (hx : Bs w x l) (hy : Bs w y m) : Parts (w.alloc (.cells #[x, y] t)) w.heap.size [x, y] [l, m] := by
  refine ⟨rfl, fun j u k hu hk => ?_⟩
  have hb := Blk.new w t #[x, y]
  have hf : Fr Non w (w.alloc (.cells #[x, y] t)) := (Fr.refl _ _).alloc _
  match j with
  | 0 =>
    obtain rfl : x = u := by simpa using hu
    obtain rfl : l = k := by simpa using hk
    exact ⟨hb.cell 0, hx.non hf⟩
  | 1 =>
    obtain rfl : y = u := by simpa using hu
    obtain rfl : m = k := by simpa using hk
    exact ⟨hb.cell 1, hy.non hf⟩
  | j + 2 => simp at hu

theorem flat_snoc (ls : List (List UInt8)) (k : Nat) (h : k < ls.length) : (ls.take (k + 1)).flatten = (ls.take k).flatten ++ ls[k] := by
  rw [List.take_succ_eq_append_getElem h, List.flatten_append]; simp only [List.flatten_cons, List.flatten_nil, List.append_nil]
theorem flat_le (ls : List (List UInt8)) (k : Nat) : (ls.take k).flatten.length ≤ ls.flatten.length := by
  conv => rhs; rw [← List.take_append_drop k ls, List.flatten_append, List.length_append]
  omega

set_option maxHeartbeats 1000000 in
theorem join_any (g n c : Nat) (xs : List Value) (ls : List (List UInt8)) (w : World) (hn : ls.length = n) (hn2 : n < 1000) (hp : Parts w g xs ls) (hb : ls.flatten.length < 1099511627776) :
    Calls Try.prog 58 #[.slice (some ⟨g, 0, none⟩) n c] w fun e w' => ∃ v, e = .returned v ∧ Own w' w.heap.size v ls.flatten ∧ Fr Non w w' := by
  have Hb := Lib.hid hb; clear hb
  go_enter Try.func58, Try.ntmps58
  go_wp2
  go_loop [3, 11] (fun s i => ∃ k : Nat, k ≤ n ∧ i = .int .i64 k ∧ s = .int .i64 (ls.take k).flatten.length) (fun _ i => n - (intOf i).toNat)
  case atStart => exact ⟨0, Nat.zero_le _, rfl, rfl⟩
  case round =>
    obtain ⟨k, hk, rfl, rfl⟩ := hrel
    have hle := flat_le ls k
    have hb1 : (ls.take k).flatten.length < 1099511627776 := by have := Hb.out; omega
    by_cases hlt : k < n
    · have hkl : k < ls.length := by omega
      have hkx : k < xs.length := by rw [hp.1]; omega
      obtain ⟨hcell, hbs⟩ := hp.2 k xs[k] ls[k] (by simp [hkx]) (by simp [hkl])
      have hsn := flat_snoc ls k hkl
      have hle2 := flat_le ls (k + 1)
      have hb2 : (ls.take k).flatten.length + ls[k].length < 1099511627776 := by rw [hsn, List.length_append] at hle2; have := Hb.out; omega
      have HS := Lib.hid hsn
      clear hsn hle hle2
      generalize ls[k] = l at *
      generalize hx : xs[k] = x at *
      clear hx
      obtain ⟨A, d, rfl⟩ := hbs.shape
      generalize (ls.take k).flatten = F at *
      clear hbs
      go_wp2
      go_round
      case rel => exact ⟨k + 1, by omega, by go_num, by rw [HS.out, List.length_append]; go_num⟩
      case measure => simp [intOf]; omega
    · have hkn : k = n := by omega
      have hT : ls.take k = ls := List.take_of_length_le (by omega)
      rw [hT] at hb1 ⊢
      have HL := Lib.hid hn
      clear hle hT hkn hn
      generalize hF : ls.flatten.length = F at *
      have HF := Lib.hid hF; clear hF
      go_wp2_with (at_make; refine wpList_mkbytes rfl _ _ rfl _ _ _ F rfl rfl rfl (by omega) ?_; intro v1 w1 hown1 hfr1)
      have hp1 := hp.non hfr1
      go_loopw [6, 24] (fun v i wr => ∃ k : Nat, k ≤ n ∧ i = .int .i64 k ∧ Own wr w.heap.size v (ls.take k).flatten ∧ Fr Non w wr) (fun _ i _ => n - (intOf i).toNat)
      case atStart => exact ⟨0, Nat.zero_le _, rfl, hown1, hfr1⟩
      case round =>
        obtain ⟨j, hj, rfl, hown, hfr⟩ := hrel
        have hB := hfr.size
        have hle := flat_le ls j
        by_cases hlt : j < n
        · have hkl : j < ls.length := by rw [HL.out]; exact hlt
          have hkx : j < xs.length := by rw [hp.1]; exact hkl
          obtain ⟨hcell, hbs⟩ := (hp.non hfr).2 j xs[j] ls[j] (by simp [hkx]) (by simp [hkl])
          have hsn := flat_snoc ls j hkl
          have hle2 := flat_le ls (j + 1)
          have hb2 : (ls.take j).flatten.length + ls[j].length < 140737488355328 := by rw [hsn, List.length_append] at hle2; have := HF.out; omega
          have HS := Lib.hid hsn
          clear hsn hle hle2 hp1 hp
          generalize ls[j] = l at *
          generalize hx : xs[j] = x at *
          clear hx
          generalize (ls.take j).flatten = G at *
          go_wp2_with (at_builtin; refine wpList_app rfl (.tmp 28) (.tmp 29) rfl w.heap.size u6 x G l rfl hown rfl hbs hb2 hB ?_; intro v' w' hown' hfr')
          go_roundw
          case rel => exact ⟨j + 1, by omega, by go_num, by rw [HS.out]; exact hown', hfr.fresh hfr' fun k hk => (hown.lt k hk).1⟩
          case measure => simp [intOf]; omega
        · have hT : ls.take j = ls := List.take_of_length_le (by rw [HL.out]; omega)
          rw [hT] at hown
          clear hT hle hp1 hp
          go_wp2
          go_ret
          exact ⟨_, rfl, hown, hfr⟩

/-- a text's bytes -/
def textB (l : List UInt8) : List UInt8 := Lib.uvarint l.length ++ l

theorem Own.shape {w : World} {B : Nat} {v : Value} {l : List UInt8} (h : Own w B v l) : ∃ A c, v = .slice A l.length c := h.bs.shape

set_option maxHeartbeats 400000 in
theorem vtext_any (l : List UInt8) (w : World) (hl : l.length < 1048576) :
    Calls Try.prog 48 #[.string ⟨l.toArray⟩] w fun e w' => ∃ v, e = .returned v ∧ Own w' w.heap.size v (textB l) ∧ Fr Non w w' := by
  have Hn := Lib.hid (show l.length < two64 by unfold two64; omega)
  have hs : ByteArray.size ⟨l.toArray⟩ = l.length := by simp [ByteArray.size]
  go_enter Try.func48, Try.ntmps48
  go_wp2_with fail
  refine (vnum_any l.length w Hn.out).mono ?_
  rintro e w1 ⟨v1, rfl, hown1, hfr1⟩
  obtain ⟨A1, c1, rfl⟩ := hown1.shape
  go_wp2_with (refine wpList_strbytes rfl _ rfl l rfl ?_; intro v2 w2 hbs2 hfr2 hnew2; obtain ⟨A2, c2, rfl⟩ := hbs2.shape)
  refine (join_any w2.heap.size 2 2 [.slice A1 (Lib.uvarint l.length).length c1, .slice A2 l.length c2] [Lib.uvarint l.length, l] _ rfl (by omega) (Parts.two (hown1.bs.non hfr2) hbs2) ?_).mono ?_
  · have := Lib.uvarint_length64 Hn.out
    simp; omega
  · rintro e w3 ⟨v3, rfl, hown3, hfr3⟩
    go_wp2
    go_ret
    refine ⟨v3, rfl, ?_, ((hfr1.then hfr2).alloc _).then hfr3⟩
    have h := hown3.mono (B' := w.heap.size) (by have := hfr1.size; have := hfr2.size; simp; omega)
    simpa [textB] using h

set_option maxHeartbeats 400000 in
theorem rtext_any (l : List UInt8) (w : World) (hl : l.length < 1048576) :
    Calls Try.prog 50 #[.string ⟨l.toArray⟩] w fun e w' => ∃ v, e = .returned v ∧ Own w' w.heap.size v (textB l) ∧ Fr Non w w' := by
  have Hn := Lib.hid (show l.length < two64 by unfold two64; omega)
  have hs : ByteArray.size ⟨l.toArray⟩ = l.length := by simp [ByteArray.size]
  go_enter Try.func50, Try.ntmps50
  go_wp2_with fail
  refine (rnum_any l.length w Hn.out).mono ?_
  rintro e w1 ⟨v1, rfl, hown1, hfr1⟩
  have hl10 := Lib.uvarint_length64 Hn.out
  have hB := hfr1.size
  go_wp2_with (at_builtin; refine wpList_appstr rfl (.tmp 6) (.tmp 7) rfl w.heap.size v1 _ l rfl hown1 rfl (by omega) hB ?_; intro v2 w2 hown2 hfr2)
  go_ret
  exact ⟨v2, rfl, hown2, hfr1.fresh hfr2 fun k hk => (hown1.lt k hk).1⟩

end Go.Proofs.Ytihofmmbdedhbaa


namespace Go.Proofs.Ytihofmmbdedhbaa
set_option linter.unusedVariables false
set_option linter.unusedSimpArgs false
set_option maxRecDepth 100000
open Go.RowKit

/-- what first answers -/
def fstN (l : List UInt8) : Nat := match rd 0 0 l with | none => 0 | some (n, _) => n
def fstS (l : List UInt8) : Nat := match rd 0 0 l with | none => 0 | some (_, r) => l.length - r.length

theorem byte_at (l : List UInt8) (k : Nat) (c : UInt8) (hk : k < l.length) (hc : l[k] = c) : ∀ h : k < ByteArray.size ⟨l.toArray⟩, (⟨l.toArray⟩ : ByteArray)[k] = c := by
  intro h; exact hc

theorem fst_some {l : List UInt8} {n : Nat} {r : List UInt8} (h : rd 0 0 l = some (n, r)) : fstN l = n ∧ fstS l = l.length - r.length := by
  unfold fstN fstS; rw [h]; exact ⟨rfl, rfl⟩
theorem fst_none {l : List UInt8} (h : rd 0 0 l = none) : fstN l = 0 ∧ fstS l = 0 := by
  unfold fstN fstS; rw [h]; exact ⟨rfl, rfl⟩
theorem drop_at {l : List UInt8} {k : Nat} {c : UInt8} (hk : k < l.length) (hc : l[k] = c) : l.drop k = c :: l.drop (k + 1) := by
  rw [List.drop_eq_getElem_cons hk, hc]

theorem pow27 (k : Nat) : (2 : Int) ^ (7 * k) = ((128 ^ k : Nat) : Int) := by
  rw [Int.pow_mul]; norm_cast
theorem or_step {k acc x : Nat} (hk : k ≤ 9) (ha : acc < 128 ^ k) (hx : x < 128) (h9 : k = 9 → x ≤ 1) :
    bits BinOp.or IntKind.u64 (acc : Int) (IntKind.u64.wrap ((x : Int) * 2 ^ (7 * k))) = ((acc + x * 128 ^ k : Nat) : Int) := by
  have hp : (128 : Nat) ^ k = 2 ^ (7 * k) := by rw [Nat.pow_mul]
  have hle : (128 : Nat) ^ k ≤ 128 ^ 9 := Nat.pow_le_pow_right (by decide) hk
  have hlt : x * 128 ^ k < 18446744073709551616 := by
    by_cases h : k = 9
    · subst h
      have := h9 rfl
      rw [pow128_9]
      clear hle hp ha
      omega
    · have hle8 : (128 : Nat) ^ k ≤ 128 ^ 8 := Nat.pow_le_pow_right (by decide) (by omega)
      rw [pow128_8] at hle8
      have := Nat.mul_le_mul (show x ≤ 127 by omega) hle8
      omega
  have hacc : acc < 18446744073709551616 := by rw [pow128_9] at hle; omega
  rw [pow27, show ((x : Int) * ((128 ^ k : Nat) : Int)) = ((x * 128 ^ k : Nat) : Int) by push_cast; rfl, IntWalk.u64_in _ ⟨by omega, by omega⟩]
  rw [bits_join_low .u64 64 (by decide) wraps_u64 (7 * k) _ _ (by omega) ?_ (by omega) (by omega) ?_ (by omega)]
  · push_cast; rfl
  · rw [hp] at ha; exact_mod_cast ha
  · rw [hp]; push_cast; exact Int.mul_emod_left _ _

set_option maxRecDepth 20000 in
theorem first_any (l : List UInt8) (w : World) :
    Calls Try.prog 65 #[.string ⟨l.toArray⟩] w fun e w' => e = .returned (.tuple #[.int .u64 (fstN l), .int .i64 (fstS l)]) ∧ w = w' := by
  have hs : ByteArray.size ⟨l.toArray⟩ = l.length := by simp [ByteArray.size]
  go_enter Try.func65, Try.ntmps65
  go_wp2
  go_loop [4, 9] (fun n i => ∃ k acc : Nat, k ≤ 9 ∧ k ≤ l.length ∧ i = .int .i64 k ∧ n = .int .u64 acc ∧ acc < 128 ^ k ∧ rd 0 0 l = rd k acc (l.drop k)) (fun _ i => l.length - (intOf i).toNat)
  case atStart => exact ⟨0, 0, by omega, by omega, rfl, rfl, by decide, by simp⟩
  case round =>
    obtain ⟨k, acc, hk9, hk, rfl, rfl, hacc, hrd⟩ := hrel
    have HA := Lib.hid hacc
    by_cases hlt : k < l.length
    · obtain ⟨c, hc⟩ : ∃ c, l[k] = c := ⟨_, rfl⟩
      rw [drop_at hlt hc] at hrd
      have HR := Lib.hid hrd
      have hb := byte_at l k c hlt hc
      clear hc hacc hrd
      have hc256 := c.toNat_lt
      by_cases b1 : 9 ≤ k ∧ 1 < c.toNat
      · have HN := Lib.hid (fst_none (HR.out.trans (rd_bad (.inl ⟨by omega, b1.2⟩))))
        obtain ⟨b1, b1'⟩ := b1
        clear HA HR
        go_wp2
        all_goals
          go_ret2
          rw [HN.out.1, HN.out.2]
          exact ⟨rfl, rfl⟩
      · have hO := or_step (x := c.toNat % 128) hk9 HA.out (by omega) (by omega)
        rw [show ((c.toNat % 128 : Nat) : Int) = (c.toNat : Int) % 128 by omega] at hO
        by_cases b5 : 9 ≤ k
        · obtain rfl : k = 9 := by omega
          by_cases b2 : c.toNat = 0
          · have HN := Lib.hid (fst_none (HR.out.trans (rd_bad (.inr ⟨by omega, b2⟩))))
            have b2' : c.toNat ≤ 0 := by omega
            clear HA HR b1 b2 hO
            go_wp2
            all_goals
              go_ret2
              rw [HN.out.1, HN.out.2]
              exact ⟨rfl, rfl⟩
          · have b2' : 0 < c.toNat := by omega
            have b1' : c.toNat ≤ 1 := by omega
            have HN := Lib.hid (fst_some (HR.out.trans (rd_last (by omega) (by omega))))
            clear HA HR b1 b2
            rw [show (2 : Int) ^ (7 * 9) = 9223372036854775808 by decide, IntWalk.u64_in _ ⟨by omega, by omega⟩] at hO
            have HE := Lib.hid (show acc + c.toNat % 128 * 128 ^ 9 = acc + c.toNat * 128 ^ 9 by rw [show c.toNat % 128 = c.toNat by omega])
            go_wp2
            go_ret2
            have hd : (l.drop (9 + 1)).length = l.length - 10 := by simp
            rw [HN.out.1, HN.out.2, ← HE.out, hd, show l.length - (l.length - 10) = 10 by omega]
            exact ⟨rfl, rfl⟩
        · have b5' : k < 9 := by omega
          clear b5 b1
          by_cases b2 : 0 < k ∧ c.toNat = 0
          · have HN := Lib.hid (fst_none (HR.out.trans (rd_bad (.inr b2))))
            obtain ⟨b2, b2'⟩ := b2
            have b2'' : c.toNat ≤ 0 := by omega
            clear HA HR b2' hO
            go_wp2
            all_goals
              go_ret2
              rw [HN.out.1, HN.out.2]
              exact ⟨rfl, rfl⟩
          · by_cases b3 : c.toNat < 128
            · have HN := Lib.hid (fst_some (HR.out.trans (rd_last (by omega) b3)))
              have hd : (l.drop (k + 1)).length = l.length - (k + 1) := by simp
              have HD := Lib.hid (show l.length - (l.drop (k + 1)).length = k + 1 by rw [hd]; omega)
              clear hd
              by_cases b6 : c.toNat = 0
              · obtain rfl : k = 0 := by omega
                obtain rfl : acc = 0 := by have := HA.out; omega
                have b6' : c.toNat ≤ 0 := by omega
                have HC := Lib.hid b6
                have hz : bits BinOp.or IntKind.u64 0 (IntKind.u64.wrap 0) = 0 := by decide
                have hz' : bits BinOp.or IntKind.u64 0 0 = 0 := by decide
                clear HA HR b2 b6 hO
                go_wp2
                all_goals
                  go_ret2
                  rw [HN.out.1, HN.out.2, HC.out, HD.out]
                  exact ⟨rfl, rfl⟩
              · have b6' : 0 < c.toNat := by omega
                have HE := Lib.hid (show acc + c.toNat % 128 * 128 ^ k = acc + c.toNat * 128 ^ k by rw [show c.toNat % 128 = c.toNat by omega])
                clear HA HR b2 b6
                go_wp2
                go_ret2
                rw [HN.out.1, HN.out.2, ← HE.out, HD.out]
                exact ⟨rfl, rfl⟩
            · have HN := Lib.hid (HR.out.trans (rd_more (by omega) (by omega)))
              have b3' : 128 ≤ c.toNat := by omega
              have HA2 := Lib.hid (show acc + c.toNat % 128 * 128 ^ k < 128 ^ (k + 1) by
                have h1 := HA.out
                have h2 : c.toNat % 128 ≤ 127 := by omega
                have h3 := Nat.mul_le_mul_right (128 ^ k) h2
                rw [Nat.pow_succ]; omega)
              have HE := Lib.hid (show acc + (c.toNat - 128) * 128 ^ k = acc + c.toNat % 128 * 128 ^ k by rw [show c.toNat - 128 = c.toNat % 128 by omega])
              clear HR b2 HA
              go_wp2
              refine ⟨⟨k + 1, acc + c.toNat % 128 * 128 ^ k, by omega, by omega, by go_num, rfl, HA2.out, ?_⟩, by simp [intOf]; omega⟩
              rw [HN.out, HE.out]
    · have hd : l.drop k = [] := List.drop_eq_nil_of_le (by omega)
      rw [hd] at hrd
      have HN := Lib.hid (fst_none (hrd.trans rfl))
      clear hrd HA hacc hd
      go_wp2
      go_ret2
      rw [HN.out.1, HN.out.2]
      exact ⟨rfl, rfl⟩

end Go.Proofs.Ytihofmmbdedhbaa


namespace Go.Proofs.Ytihofmmbdedhbaa
set_option linter.unusedVariables false
set_option linter.unusedSimpArgs false
set_option maxRecDepth 100000
open Go.RowKit

/-- a source in block g: what is left, and whether it failed -/
def Src (w : World) (g : Nat) (l : List UInt8) (bad : Bool) : Prop := Blk w g 61 #[.string ⟨l.toArray⟩, .bool bad] ∧ (bad = true → l = [])
abbrev ptr (g : Nat) : Value := .pointer (some ⟨g, 0, none⟩)

theorem Src.fr {S : Nat → Prop} {w w' : World} {g : Nat} {l : List UInt8} {bad : Bool} (h : Src w g l bad) (hf : Fr S w w') (hn : ¬ S g) : Src w' g l bad := ⟨h.1.fr hf hn, h.2⟩

/-- what a number leaves -/
def rest (l : List UInt8) : List UInt8 := match rd 0 0 l with | none => [] | some (_, r) => r
def fell (l : List UInt8) : Bool := match rd 0 0 l with | none => true | some _ => false
theorem rest_none {l : List UInt8} (h : rd 0 0 l = none) : rest l = [] ∧ fell l = true ∧ fstN l = 0 ∧ fstS l = 0 := by unfold rest fell fstN fstS; rw [h]; exact ⟨rfl, rfl, rfl, rfl⟩
theorem rest_some {l : List UInt8} {n : Nat} {r : List UInt8} (h : rd 0 0 l = some (n, r)) : rest l = r ∧ fell l = false ∧ fstN l = n ∧ fstS l = l.length - r.length := by unfold rest fell fstN fstS; rw [h]; exact ⟨rfl, rfl, rfl, rfl⟩

theorem from_any (v : Value) (l : List UInt8) (w : World) (h : Bs w v l) :
    Calls Try.prog 17 #[v] w fun e w' => e = .returned (ptr w.heap.size) ∧ Src w' w.heap.size l false ∧ Fr Non w w' := by
  have c1 := run_conv_Bs h 36 9 5 Try.underlying36 Try.underlying5 Try.underlying9
  clear h
  go_enter Try.func17, Try.ntmps17
  go_wp2
  go_ret
  exact ⟨rfl, ⟨Blk.new _ _ _, fun h => by cases h⟩, (Fr.refl _ _).alloc _⟩

theorem ok_any (g : Nat) (l : List UInt8) (bad : Bool) (w : World) (h : Src w g l bad) :
    Calls Try.prog 22 #[ptr g] w fun e w' => e = .returned (.bool (!bad)) ∧ w = w' := by
  have hc1 := h.1.cell 1
  clear h
  simp at hc1
  go_enter Try.func22, Try.ntmps22
  go_wp2
  go_ret
  exact ⟨rfl, rfl⟩

theorem left_any (g : Nat) (l : List UInt8) (bad : Bool) (w : World) (h : Src w g l bad) :
    Calls Try.prog 23 #[ptr g] w fun e w' => e = .returned (.int .i64 l.length) ∧ w = w' := by
  have hc1 := h.1.cell 0
  have hs : ByteArray.size ⟨l.toArray⟩ = l.length := by simp [ByteArray.size]
  clear h
  simp at hc1
  go_enter Try.func23, Try.ntmps23
  go_wp2
  go_ret
  exact ⟨rfl, rfl⟩

theorem end_any (g : Nat) (l : List UInt8) (bad : Bool) (w : World) (h : Src w g l bad) :
    Calls Try.prog 24 #[ptr g] w fun e w' => e = .returned (.bool (!bad && l.isEmpty)) ∧ w = w' := by
  have h0 := ok_any g l bad w h
  have h1 := left_any g l bad w h
  cases bad
  · go_enter Try.func24, Try.ntmps24
    go_wp2_with fail
    refine h0.mono ?_
    rintro e w' ⟨rfl, rfl⟩
    go_wp2_with fail
    refine h1.mono ?_
    rintro e w' ⟨rfl, rfl⟩
    go_wp2
    go_ret
    refine ⟨?_, rfl⟩
    cases l <;> simp <;> omega
  · go_enter Try.func24, Try.ntmps24
    go_wp2_with fail
    refine h0.mono ?_
    rintro e w' ⟨rfl, rfl⟩
    go_wp2
    go_ret
    exact ⟨rfl, rfl⟩

theorem fail_any (g : Nat) (l : List UInt8) (bad : Bool) (w : World) (h : Src w g l bad) :
    Calls Try.prog 39 #[ptr g] w fun e w' => e = .returned (.tuple #[]) ∧ Src w' g [] true ∧ Fr (One g) w w' := by
  have hc0 := h.1.cell 0
  have hc1 := h.1.cell 1
  have hf0 := h.1.frozen 0
  have hf1 := h.1.frozen 1
  have HB := Lib.hid h.1
  clear h
  simp at hc0 hc1
  go_enter Try.func39, Try.ntmps39
  go_wp2
  go_end0
  refine ⟨rfl, ⟨?_, fun _ => rfl⟩, ((Fr.refl _ _).set1 _ _).set1 _ _⟩
  exact (HB.out.set 0 _).set 1 _

theorem slice_from (l : List UInt8) (k : Nat) (hk : k ≤ l.length) : (⟨l.toArray⟩ : ByteArray).extract k l.length = ⟨(l.drop k).toArray⟩ := by
  apply ByteArray.ext
  simp
  exact List.take_of_length_le (by simp)
theorem slice_to (l : List UInt8) (k : Nat) : (⟨l.toArray⟩ : ByteArray).extract 0 k = ⟨(l.take k).toArray⟩ := by
  apply ByteArray.ext
  simp

set_option maxHeartbeats 400000 in
theorem num_any (g : Nat) (l : List UInt8) (bad : Bool) (w : World) (h : Src w g l bad) :
    Calls Try.prog 62 #[ptr g] w fun e w' => e = .returned (.int .u64 (fstN l)) ∧ Src w' g (rest l) (fell l) ∧ Fr (One g) w w' := by
  have h0 := ok_any g l bad w h
  cases bad
  · have hc0 := h.1.cell 0
    have hf0 := h.1.frozen 0
    simp at hc0
    have HB := Lib.hid h.1
    cases hr : rd 0 0 l with
    | none =>
      have HN := Lib.hid (rest_none hr)
      have hz := (rest_none hr).2.2.2
      clear hr
      go_enter Try.func62, Try.ntmps62
      go_wp2_with fail
      refine h0.mono ?_
      rintro e w' ⟨rfl, rfl⟩
      go_wp2_with fail
      refine (first_any l w).mono ?_
      rintro e w' ⟨rfl, rfl⟩
      go_wp2_with fail
      refine (fail_any g l false w h).mono ?_
      rintro e w' ⟨rfl, hs, hf⟩
      go_wp2
      go_ret
      refine ⟨by rw [HN.out.2.2.1]; rfl, by rw [HN.out.1, HN.out.2.1]; exact hs, hf⟩
    | some p =>
      obtain ⟨n, r⟩ := p
      have HN := Lib.hid (rest_some hr)
      have hlen := rd_len (by omega) hr
      have HI := Lib.hid (rd_is hr)
      have hz : fstS l ≤ l.length := by rw [(rest_some hr).2.2.2]; omega
      have hz0 : 0 < fstS l := by rw [(rest_some hr).2.2.2]; omega
      have hs : ByteArray.size ⟨l.toArray⟩ = l.length := by simp [ByteArray.size]
      have hsl := slice_from l (fstS l) hz
      clear hr hlen
      go_enter Try.func62, Try.ntmps62
      go_wp2_with fail
      refine h0.mono ?_
      rintro e w' ⟨rfl, rfl⟩
      go_wp2_with fail
      refine (first_any l w).mono ?_
      rintro e w' ⟨rfl, rfl⟩
      go_wp2
      go_ret
      refine ⟨rfl, ⟨?_, fun h => ?_⟩, (Fr.refl _ _).set1 _ _⟩
      · have hd : l.drop (fstS l) = rest l := by
          rw [HN.out.1, HN.out.2.2.2]
          conv => lhs; rw [HI.out]
          rw [List.length_append, Nat.add_sub_cancel, List.drop_left]
        rw [HN.out.2.1, ← hd]
        exact HB.out.set 0 _
      · rw [HN.out.2.1] at h; cases h
  · obtain rfl : l = [] := h.2 rfl
    go_enter Try.func62, Try.ntmps62
    go_wp2_with fail
    refine h0.mono ?_
    rintro e w' ⟨rfl, rfl⟩
    go_wp2
    go_ret
    exact ⟨rfl, h, Fr.refl _ _⟩

end Go.Proofs.Ytihofmmbdedhbaa


namespace Go.Proofs.Ytihofmmbdedhbaa
set_option linter.unusedVariables false
set_option linter.unusedSimpArgs false
set_option maxRecDepth 100000
open Go.RowKit

/-- a bound stored, as a walk spells it -/
def setLow (w : World) (g : Nat) (n : Bool) (i : Int) (t : List UInt8) : World := ((w.setCell ⟨g, 2, none⟩ (.bool n)).setCell ⟨g, 3, none⟩ (.int .i64 i)).setCell ⟨g, 4, none⟩ (.string ⟨t.toArray⟩)
def setHigh (w : World) (g : Nat) (n : Bool) (i : Int) (t : List UInt8) : World := ((w.setCell ⟨g, 5, none⟩ (.bool n)).setCell ⟨g, 6, none⟩ (.int .i64 i)).setCell ⟨g, 7, none⟩ (.string ⟨t.toArray⟩)
theorem setLow_B {w : World} {g : Nat} {z : Zn} (h : ZnB w g z) (c : Cl) : ZnB (setLow w g c.null c.num c.txt) g ⟨z.rows, z.nulls, c, z.high⟩ := ((Blk.set h 2 _).set 3 _).set 4 _
theorem setHigh_B {w : World} {g : Nat} {z : Zn} (h : ZnB w g z) (c : Cl) : ZnB (setHigh w g c.null c.num c.txt) g ⟨z.rows, z.nulls, z.low, c⟩ := ((Blk.set h 5 _).set 6 _).set 7 _
theorem setLow_fr (w : World) (g : Nat) (n : Bool) (i : Int) (t : List UInt8) : Fr (One g) w (setLow w g n i t) := (((Fr.refl (One g) w).set1 2 _).set1 3 _).set1 4 _
theorem setHigh_fr (w : World) (g : Nat) (n : Bool) (i : Int) (t : List UInt8) : Fr (One g) w (setHigh w g n i t) := (((Fr.refl (One g) w).set1 5 _).set1 6 _).set1 7 _
def TwoB (f g : Nat) : Nat → Prop := fun k => k = f ∨ k = g

/-- what the closure holds: whether nothing is noted yet, and where the zone lies -/
structure NoteAt (w : World) (f p g : Nat) (first : Bool) (z : Zn) : Prop where
  fb : Blk w f 4 #[.bool first]
  pb : Blk w p 50 #[ptr g]
  zb : ZnB w g z
theorem NoteAt.non {w w' : World} {f p g : Nat} {first : Bool} {z : Zn} (h : NoteAt w f p g first z) (hf : Fr Non w w') : NoteAt w' f p g first z :=
  ⟨h.fb.fr hf (fun e => e), h.pb.fr hf (fun e => e), h.zb.fr hf (fun e => e)⟩
theorem NoteAt.drew {w : World} {f p g : Nat} {first : Bool} {z : Zn} (h : NoteAt w f p g first z) : NoteAt w.drew f p g first z := ⟨h.fb, h.pb, h.zb⟩
theorem NoteAt.low {w : World} {f p g : Nat} {first : Bool} {z : Zn} (h : NoteAt w f p g first z) (hf : f ≠ g) (hp : p ≠ g) (c : Cl) : NoteAt (setLow w g c.null c.num c.txt) f p g first ⟨z.rows, z.nulls, c, z.high⟩ :=
  ⟨h.fb.fr (setLow_fr _ _ _ _ _) hf, h.pb.fr (setLow_fr _ _ _ _ _) hp, setLow_B h.zb c⟩
theorem NoteAt.high {w : World} {f p g : Nat} {first : Bool} {z : Zn} (h : NoteAt w f p g first z) (hf : f ≠ g) (hp : p ≠ g) (c : Cl) : NoteAt (setHigh w g c.null c.num c.txt) f p g first ⟨z.rows, z.nulls, z.low, c⟩ :=
  ⟨h.fb.fr (setHigh_fr _ _ _ _ _) hf, h.pb.fr (setHigh_fr _ _ _ _ _) hp, setHigh_B h.zb c⟩
theorem NoteAt.noted {w : World} {f p g : Nat} {first : Bool} {z : Zn} (h : NoteAt w f p g first z) (hp : p ≠ f) (hg : g ≠ f) : NoteAt (w.setCell ⟨f, 0, none⟩ (.bool false)) f p g false z :=
  ⟨h.fb.set 0 _, h.pb.fr ((Fr.refl (One f) w).set1 0 _) hp, h.zb.fr ((Fr.refl (One f) w).set1 0 _) hg⟩

theorem noteIn_any (g : Nat) (w : World) : Calls Try.prog 25 #[ptr g] w fun e w' => e = .returned (.func (.func 43) #[] #[ptr (w.heap.size + 1), ptr w.heap.size]) ∧
    Blk w' (w.heap.size + 1) 4 #[.bool true] ∧ Blk w' w.heap.size 50 #[ptr g] ∧ Fr Non w w' := by
  have hmf : ∀ (fn : Fn) (first cap : Array Value) (w : World), (Instr.makeFunc fn first cap).run Try.prog w = .ok (.func fn first cap) w := fun _ _ _ _ => rfl
  have h1 : Blk (w.alloc (.cells #[ptr g] 50)) w.heap.size 50 #[ptr g] := Blk.new _ _ _
  have f1 : Fr Non w (w.alloc (.cells #[ptr g] 50)) := (Fr.refl _ _).alloc _
  have hs : (w.alloc (.cells #[ptr g] 50)).heap.size = w.heap.size + 1 := by simp
  have h2 : Blk ((w.alloc (.cells #[ptr g] 50)).alloc (.cells #[.bool true] 4)) _ 4 #[.bool true] := Blk.new _ _ _
  rw [hs] at h2
  have f2 := (Fr.refl Non (w.alloc (.cells #[ptr g] 50))).alloc (.cells #[.bool true] 4)
  have H2 := Lib.hid h2
  have H1 := Lib.hid (h1.fr f2 (fun e => e))
  have F := Lib.hid (f1.trans f2)
  clear h1 h2 f1 f2 hs
  go_enter Try.func25, Try.ntmps25
  go_wp2
  go_ret
  exact ⟨rfl, H2.out, H1.out, F.out⟩

set_option maxHeartbeats 2000000 in
theorem note_any (f p g : Nat) (first : Bool) (z : Zn) (c : Cl) (w : World) (h : NoteAt w f p g first z) (hfp : p ≠ f) (hgf : g ≠ f) (hpg : p ≠ g) :
    Calls Try.prog 43 #[clV c, ptr f, ptr p] w fun e w' => e = .returned (.tuple #[]) ∧ NoteAt w' f p g false (noteZ first z c) ∧ Fr (TwoB f g) w w' := by
  have hz0 := h.zb.lt
  have hz1 := h.fb.lt
  have hz2 := h.pb.lt
  have hB : ClB (w.alloc (.cells #[.bool c.null, .int .i64 c.num, .string ⟨c.txt.toArray⟩] 26)) w.heap.size c := cl_new w c
  have F0 : Fr Non w (w.alloc (.cells #[.bool c.null, .int .i64 c.num, .string ⟨c.txt.toArray⟩] 26)) := (Fr.refl _ _).alloc _
  have hN := h.non F0
  have hF : Fr (One g) w _ := F0.any
  have hR : w.heap.size ≠ g ∧ w.heap.size ≠ f ∧ w.heap.size ≠ p := ⟨by omega, by omega, by omega⟩
  clear h F0 hz0 hz1 hz2
  have O1 := fun W => order_any c z.low W
  have O2 := fun W => order_any c z.high W
  have HZ : noteZ first z c = ⟨z.rows, z.nulls, if (first || decide (ordC c z.low < 0)) = true then c else z.low, if (first || decide (0 < ordC c z.high)) = true then c else z.high⟩ := rfl
  generalize ordC c z.low = x at *
  generalize ordC c z.high = y at *
  unfold clV clC at *
  cases first
  · go_enter Try.func43, Try.ntmps43
    go_wp2
    generalize w.alloc (.cells #[.bool c.null, .int .i64 c.num, .string ⟨c.txt.toArray⟩] 26) = V0 at *
    generalize w.heap.size = R at *
    replace O1 := Lib.hid O1
    replace O2 := Lib.hid O2
    replace HZ := Lib.hid HZ
    replace hN := hN.drew
    replace hB : ClB V0.drew R c := hB
    replace hF := hF.drew
    have s0 : (V0.drew).cell? ⟨f, 0, none⟩ = some (.bool false) := (hN).fb.cell 0
    have s1 : (V0.drew).cell? ⟨p, 0, none⟩ = some (ptr g) := (hN).pb.cell 0
    have s2 : (V0.drew).cell? ⟨g, 2, none⟩ = some (.bool z.low.null) := (hN).zb.cell 2
    have s3 : (V0.drew).cell? ⟨g, 3, none⟩ = some (.int .i64 z.low.num) := (hN).zb.cell 3
    have s4 : (V0.drew).cell? ⟨g, 4, none⟩ = some (.string ⟨z.low.txt.toArray⟩) := (hN).zb.cell 4
    have s5 : (V0.drew).cell? ⟨R, 0, none⟩ = some (.bool c.null) := (hB).cell 0
    have s6 : (V0.drew).cell? ⟨R, 1, none⟩ = some (.int .i64 c.num) := (hB).cell 1
    have s7 : (V0.drew).cell? ⟨R, 2, none⟩ = some (.string ⟨c.txt.toArray⟩) := (hB).cell 2
    go_region_held3 (fun W => W.cell? ⟨f, 0, none⟩ = some (.bool false) ∧ W.cell? ⟨p, 0, none⟩ = some (ptr g) ∧ W.cell? ⟨g, 2, none⟩ = some (.bool z.low.null) ∧ W.cell? ⟨g, 3, none⟩ = some (.int .i64 z.low.num) ∧ W.cell? ⟨g, 4, none⟩ = some (.string ⟨z.low.txt.toArray⟩) ∧ W.cell? ⟨R, 0, none⟩ = some (.bool c.null) ∧ W.cell? ⟨R, 1, none⟩ = some (.int .i64 c.num) ∧ W.cell? ⟨R, 2, none⟩ = some (.string ⟨c.txt.toArray⟩)) (first | exact ⟨s0, s1, s2, s3, s4, s5, s6, s7⟩ | exact ⟨t0, t1, t2, t3, t4, t5, t6, t7⟩) (first | (go_at_call 29; (with_reducible refine (O1.out _).mono ?_); rintro e w1 ⟨rfl, f1⟩; have hN1 := hN.non f1; have hB1 : ClB w1 R c := hB.fr f1 (fun e => e); have hF1 := hF.then f1; have t0 : w1.cell? ⟨f, 0, none⟩ = some (.bool false) := hN1.fb.cell 0; have t1 : w1.cell? ⟨p, 0, none⟩ = some (ptr g) := hN1.pb.cell 0; have t2 : w1.cell? ⟨g, 2, none⟩ = some (.bool z.low.null) := hN1.zb.cell 2; have t3 : w1.cell? ⟨g, 3, none⟩ = some (.int .i64 z.low.num) := hN1.zb.cell 3; have t4 : w1.cell? ⟨g, 4, none⟩ = some (.string ⟨z.low.txt.toArray⟩) := hN1.zb.cell 4; have t5 : w1.cell? ⟨R, 0, none⟩ = some (.bool c.null) := hB1.cell 0; have t6 : w1.cell? ⟨R, 1, none⟩ = some (.int .i64 c.num) := hB1.cell 1; have t7 : w1.cell? ⟨R, 2, none⟩ = some (.string ⟨c.txt.toArray⟩) := hB1.cell 2))
    clear s0 s1 s2 s3 s4 s5 s6 s7 t0 t1 t2 t3 t4 t5 t6 t7 f1 hN hB hF
    have hN := hN1
    have hB := hB1
    have hF := hF1
    clear hN1 hB1 hF1
    clear O1
    by_cases hx : x < 0
    · have HZ1 : Hid (noteZ false z c = ⟨z.rows, z.nulls, c, if (false || decide (0 < y)) = true then c else z.high⟩) := Lib.hid (by rw [HZ.out, decide_eq_true hx]; rfl)
      have hd : decide (x < 0) = true := decide_eq_true hx
      clear HZ
      generalize w1 = V1 at *
      have hL : NoteAt (setLow V1 g c.null c.num c.txt) f p g false ⟨z.rows, z.nulls, c, z.high⟩ := hN.low (Ne.symm hgf) hpg c
      have FL := setLow_fr V1 g c.null c.num c.txt
      have hBL : ClB (setLow V1 g c.null c.num c.txt) R c := hB.fr FL (fun e => hR.1 e)
      have FF : Fr (One g) w (setLow V1 g c.null c.num c.txt) := hF.trans FL
      replace hL := Lib.hid hL
      replace hBL := Lib.hid hBL
      replace FF := Lib.hid FF
      obtain ⟨y0, y1, y2, y3, y4, y5, y6, y7⟩ := znB_froz hN.zb
      obtain ⟨a0, a1, a2, a3, a4, a5, a6, a7⟩ := znB_cells hN.zb
      obtain ⟨c0, c1, c2, _⟩ := hB.facts
      have p0 : V1.cell? ⟨p, 0, none⟩ = some (ptr g) := hN.pb.cell 0
      clear FL
      unfold setLow at hL hBL FF
      clear hN hB hF
      go_wp2
      clear p0 y0 y1 y2 y3 y4 y5 y6 y7 a0 a1 a2 a3 a4 a5 a6 a7 c0 c1 c2
      generalize ((V1.setCell ⟨g, 2, none⟩ (.bool c.null)).setCell ⟨g, 3, none⟩ (.int .i64 c.num)).setCell ⟨g, 4, none⟩ (.string ⟨c.txt.toArray⟩) = V at *
      have hN := hL.out
      have hB := hBL.out
      have hF := FF.out
      clear hL hBL FF
      replace hN := hN.drew
      replace hB : ClB V.drew R c := hB
      replace hF := hF.drew
      have s0 : (V.drew).cell? ⟨f, 0, none⟩ = some (.bool false) := (hN).fb.cell 0
      have s1 : (V.drew).cell? ⟨p, 0, none⟩ = some (ptr g) := (hN).pb.cell 0
      have s2 : (V.drew).cell? ⟨g, 5, none⟩ = some (.bool z.high.null) := (hN).zb.cell 5
      have s3 : (V.drew).cell? ⟨g, 6, none⟩ = some (.int .i64 z.high.num) := (hN).zb.cell 6
      have s4 : (V.drew).cell? ⟨g, 7, none⟩ = some (.string ⟨z.high.txt.toArray⟩) := (hN).zb.cell 7
      have s5 : (V.drew).cell? ⟨R, 0, none⟩ = some (.bool c.null) := (hB).cell 0
      have s6 : (V.drew).cell? ⟨R, 1, none⟩ = some (.int .i64 c.num) := (hB).cell 1
      have s7 : (V.drew).cell? ⟨R, 2, none⟩ = some (.string ⟨c.txt.toArray⟩) := (hB).cell 2
      go_region_held3 (fun W => W.cell? ⟨f, 0, none⟩ = some (.bool false) ∧ W.cell? ⟨p, 0, none⟩ = some (ptr g) ∧ W.cell? ⟨g, 5, none⟩ = some (.bool z.high.null) ∧ W.cell? ⟨g, 6, none⟩ = some (.int .i64 z.high.num) ∧ W.cell? ⟨g, 7, none⟩ = some (.string ⟨z.high.txt.toArray⟩) ∧ W.cell? ⟨R, 0, none⟩ = some (.bool c.null) ∧ W.cell? ⟨R, 1, none⟩ = some (.int .i64 c.num) ∧ W.cell? ⟨R, 2, none⟩ = some (.string ⟨c.txt.toArray⟩)) (first | exact ⟨s0, s1, s2, s3, s4, s5, s6, s7⟩ | exact ⟨t0, t1, t2, t3, t4, t5, t6, t7⟩) (first | (go_at_call 29; (with_reducible refine (O2.out _).mono ?_); rintro e w1 ⟨rfl, f1⟩; have hN1 := hN.non f1; have hB1 : ClB w1 R c := hB.fr f1 (fun e => e); have hF1 := hF.then f1; have t0 : w1.cell? ⟨f, 0, none⟩ = some (.bool false) := hN1.fb.cell 0; have t1 : w1.cell? ⟨p, 0, none⟩ = some (ptr g) := hN1.pb.cell 0; have t2 : w1.cell? ⟨g, 5, none⟩ = some (.bool z.high.null) := hN1.zb.cell 5; have t3 : w1.cell? ⟨g, 6, none⟩ = some (.int .i64 z.high.num) := hN1.zb.cell 6; have t4 : w1.cell? ⟨g, 7, none⟩ = some (.string ⟨z.high.txt.toArray⟩) := hN1.zb.cell 7; have t5 : w1.cell? ⟨R, 0, none⟩ = some (.bool c.null) := hB1.cell 0; have t6 : w1.cell? ⟨R, 1, none⟩ = some (.int .i64 c.num) := hB1.cell 1; have t7 : w1.cell? ⟨R, 2, none⟩ = some (.string ⟨c.txt.toArray⟩) := hB1.cell 2))
      clear s0 s1 s2 s3 s4 s5 s6 s7 t0 t1 t2 t3 t4 t5 t6 t7 f1 hN hB hF
      have hN := hN1
      have hB := hB1
      have hF := hF1
      clear hN1 hB1 hF1
      by_cases hy : 0 < y
      · have HE : Hid (noteZ false z c = ⟨z.rows, z.nulls, c, c⟩) := Lib.hid (by rw [HZ1.out, decide_eq_true hy]; rfl)
        have hd : decide (0 < y) = true := decide_eq_true hy
        clear HZ1 O2
        generalize w1 = V1 at *
        have hL : NoteAt (setHigh V1 g c.null c.num c.txt) f p g false ⟨z.rows, z.nulls, c, c⟩ := hN.high (Ne.symm hgf) hpg c
        have FL := setHigh_fr V1 g c.null c.num c.txt
        have hBL : ClB (setHigh V1 g c.null c.num c.txt) R c := hB.fr FL (fun e => hR.1 e)
        have FF : Fr (One g) w (setHigh V1 g c.null c.num c.txt) := hF.trans FL
        replace hL := Lib.hid hL
        replace hBL := Lib.hid hBL
        replace FF := Lib.hid FF
        obtain ⟨y0, y1, y2, y3, y4, y5, y6, y7⟩ := znB_froz hN.zb
        obtain ⟨a0, a1, a2, a3, a4, a5, a6, a7⟩ := znB_cells hN.zb
        obtain ⟨c0, c1, c2, _⟩ := hB.facts
        have p0 : V1.cell? ⟨p, 0, none⟩ = some (ptr g) := hN.pb.cell 0
        clear FL
        have f0 := hN.fb.frozen 0
        have f1 : V1.cell? ⟨f, 0, none⟩ = some (.bool false) := hN.fb.cell 0
        have HN := Lib.hid (hL.out.noted hfp hgf)
        have HF := Lib.hid ((FF.out.mono (S' := TwoB f g) (fun _ _ e => .inr e)).setCell (p := ⟨f, 0, none⟩) (fun _ => .inl rfl) (.bool false))
        clear hL hBL FF hN hB hF
        go_wp2
        go_end0
        exact ⟨rfl, by rw [HE.out]; exact HN.out, HF.out⟩
      · have HE : Hid (noteZ false z c = ⟨z.rows, z.nulls, c, z.high⟩) := Lib.hid (by rw [HZ1.out, decide_eq_false hy]; rfl)
        have hd : decide (0 < y) = false := decide_eq_false hy
        clear HZ1 O2
        generalize w1 = V at *
        have f0 := hN.fb.frozen 0
        have f1 : V.cell? ⟨f, 0, none⟩ = some (.bool false) := hN.fb.cell 0
        have HN := Lib.hid (hN.noted hfp hgf)
        have HF := Lib.hid ((hF.mono (S' := TwoB f g) (fun _ _ e => .inr e)).setCell (p := ⟨f, 0, none⟩) (fun _ => .inl rfl) (.bool false))
        clear hN hB hF
        go_wp2
        go_end0
        exact ⟨rfl, by rw [HE.out]; exact HN.out, HF.out⟩
    · have HZ1 : Hid (noteZ false z c = ⟨z.rows, z.nulls, z.low, if (false || decide (0 < y)) = true then c else z.high⟩) := Lib.hid (by rw [HZ.out, decide_eq_false hx]; rfl)
      have hd : decide (x < 0) = false := decide_eq_false hx
      clear HZ
      generalize w1 = V at *
      go_wp2
      replace hN := hN.drew
      replace hB : ClB V.drew R c := hB
      replace hF := hF.drew
      have s0 : (V.drew).cell? ⟨f, 0, none⟩ = some (.bool false) := (hN).fb.cell 0
      have s1 : (V.drew).cell? ⟨p, 0, none⟩ = some (ptr g) := (hN).pb.cell 0
      have s2 : (V.drew).cell? ⟨g, 5, none⟩ = some (.bool z.high.null) := (hN).zb.cell 5
      have s3 : (V.drew).cell? ⟨g, 6, none⟩ = some (.int .i64 z.high.num) := (hN).zb.cell 6
      have s4 : (V.drew).cell? ⟨g, 7, none⟩ = some (.string ⟨z.high.txt.toArray⟩) := (hN).zb.cell 7
      have s5 : (V.drew).cell? ⟨R, 0, none⟩ = some (.bool c.null) := (hB).cell 0
      have s6 : (V.drew).cell? ⟨R, 1, none⟩ = some (.int .i64 c.num) := (hB).cell 1
      have s7 : (V.drew).cell? ⟨R, 2, none⟩ = some (.string ⟨c.txt.toArray⟩) := (hB).cell 2
      go_region_held3 (fun W => W.cell? ⟨f, 0, none⟩ = some (.bool false) ∧ W.cell? ⟨p, 0, none⟩ = some (ptr g) ∧ W.cell? ⟨g, 5, none⟩ = some (.bool z.high.null) ∧ W.cell? ⟨g, 6, none⟩ = some (.int .i64 z.high.num) ∧ W.cell? ⟨g, 7, none⟩ = some (.string ⟨z.high.txt.toArray⟩) ∧ W.cell? ⟨R, 0, none⟩ = some (.bool c.null) ∧ W.cell? ⟨R, 1, none⟩ = some (.int .i64 c.num) ∧ W.cell? ⟨R, 2, none⟩ = some (.string ⟨c.txt.toArray⟩)) (first | exact ⟨s0, s1, s2, s3, s4, s5, s6, s7⟩ | exact ⟨t0, t1, t2, t3, t4, t5, t6, t7⟩) (first | (go_at_call 29; (with_reducible refine (O2.out _).mono ?_); rintro e w1 ⟨rfl, f1⟩; have hN1 := hN.non f1; have hB1 : ClB w1 R c := hB.fr f1 (fun e => e); have hF1 := hF.then f1; have t0 : w1.cell? ⟨f, 0, none⟩ = some (.bool false) := hN1.fb.cell 0; have t1 : w1.cell? ⟨p, 0, none⟩ = some (ptr g) := hN1.pb.cell 0; have t2 : w1.cell? ⟨g, 5, none⟩ = some (.bool z.high.null) := hN1.zb.cell 5; have t3 : w1.cell? ⟨g, 6, none⟩ = some (.int .i64 z.high.num) := hN1.zb.cell 6; have t4 : w1.cell? ⟨g, 7, none⟩ = some (.string ⟨z.high.txt.toArray⟩) := hN1.zb.cell 7; have t5 : w1.cell? ⟨R, 0, none⟩ = some (.bool c.null) := hB1.cell 0; have t6 : w1.cell? ⟨R, 1, none⟩ = some (.int .i64 c.num) := hB1.cell 1; have t7 : w1.cell? ⟨R, 2, none⟩ = some (.string ⟨c.txt.toArray⟩) := hB1.cell 2))
      clear s0 s1 s2 s3 s4 s5 s6 s7 t0 t1 t2 t3 t4 t5 t6 t7 f1 hN hB hF
      have hN := hN1
      have hB := hB1
      have hF := hF1
      clear hN1 hB1 hF1
      by_cases hy : 0 < y
      · have HE : Hid (noteZ false z c = ⟨z.rows, z.nulls, z.low, c⟩) := Lib.hid (by rw [HZ1.out, decide_eq_true hy]; rfl)
        have hd : decide (0 < y) = true := decide_eq_true hy
        clear HZ1 O2
        generalize w1 = V1 at *
        have hL : NoteAt (setHigh V1 g c.null c.num c.txt) f p g false ⟨z.rows, z.nulls, z.low, c⟩ := hN.high (Ne.symm hgf) hpg c
        have FL := setHigh_fr V1 g c.null c.num c.txt
        have hBL : ClB (setHigh V1 g c.null c.num c.txt) R c := hB.fr FL (fun e => hR.1 e)
        have FF : Fr (One g) w (setHigh V1 g c.null c.num c.txt) := hF.trans FL
        replace hL := Lib.hid hL
        replace hBL := Lib.hid hBL
        replace FF := Lib.hid FF
        obtain ⟨y0, y1, y2, y3, y4, y5, y6, y7⟩ := znB_froz hN.zb
        obtain ⟨a0, a1, a2, a3, a4, a5, a6, a7⟩ := znB_cells hN.zb
        obtain ⟨c0, c1, c2, _⟩ := hB.facts
        have p0 : V1.cell? ⟨p, 0, none⟩ = some (ptr g) := hN.pb.cell 0
        clear FL
        have f0 := hN.fb.frozen 0
        have f1 : V1.cell? ⟨f, 0, none⟩ = some (.bool false) := hN.fb.cell 0
        have HN := Lib.hid (hL.out.noted hfp hgf)
        have HF := Lib.hid ((FF.out.mono (S' := TwoB f g) (fun _ _ e => .inr e)).setCell (p := ⟨f, 0, none⟩) (fun _ => .inl rfl) (.bool false))
        clear hL hBL FF hN hB hF
        go_wp2
        go_end0
        exact ⟨rfl, by rw [HE.out]; exact HN.out, HF.out⟩
      · have HE : Hid (noteZ false z c = ⟨z.rows, z.nulls, z.low, z.high⟩) := Lib.hid (by rw [HZ1.out, decide_eq_false hy]; rfl)
        have hd : decide (0 < y) = false := decide_eq_false hy
        clear HZ1 O2
        generalize w1 = V at *
        have f0 := hN.fb.frozen 0
        have f1 : V.cell? ⟨f, 0, none⟩ = some (.bool false) := hN.fb.cell 0
        have HN := Lib.hid (hN.noted hfp hgf)
        have HF := Lib.hid ((hF.mono (S' := TwoB f g) (fun _ _ e => .inr e)).setCell (p := ⟨f, 0, none⟩) (fun _ => .inl rfl) (.bool false))
        clear hN hB hF
        go_wp2
        go_end0
        exact ⟨rfl, by rw [HE.out]; exact HN.out, HF.out⟩
  · go_enter Try.func43, Try.ntmps43
    go_wp2
    generalize w.alloc (.cells #[.bool c.null, .int .i64 c.num, .string ⟨c.txt.toArray⟩] 26) = V at *
    generalize w.heap.size = R at *
    have HE : Hid (noteZ true z c = ⟨z.rows, z.nulls, c, c⟩) := Lib.hid (by rw [HZ]; rfl)
    clear O1 O2 HZ
    have q0 : V.cell? ⟨f, 0, none⟩ = some (.bool true) := hN.fb.cell 0
    go_region
    clear q0
    replace hN := hN.drew
    replace hB : ClB V.drew R c := hB
    replace hF := hF.drew
    generalize V.drew = V1 at *
    have hL : NoteAt (setLow V1 g c.null c.num c.txt) f p g true ⟨z.rows, z.nulls, c, z.high⟩ := hN.low (Ne.symm hgf) hpg c
    have FL := setLow_fr V1 g c.null c.num c.txt
    have hBL : ClB (setLow V1 g c.null c.num c.txt) R c := hB.fr FL (fun e => hR.1 e)
    have FF : Fr (One g) w (setLow V1 g c.null c.num c.txt) := hF.trans FL
    replace hL := Lib.hid hL
    replace hBL := Lib.hid hBL
    replace FF := Lib.hid FF
    obtain ⟨y0, y1, y2, y3, y4, y5, y6, y7⟩ := znB_froz hN.zb
    obtain ⟨a0, a1, a2, a3, a4, a5, a6, a7⟩ := znB_cells hN.zb
    obtain ⟨c0, c1, c2, _⟩ := hB.facts
    have p0 : V1.cell? ⟨p, 0, none⟩ = some (ptr g) := hN.pb.cell 0
    clear FL
    unfold setLow at hL hBL FF
    clear hN hB hF
    go_wp2
    clear p0 y0 y1 y2 y3 y4 y5 y6 y7 a0 a1 a2 a3 a4 a5 a6 a7 c0 c1 c2
    generalize ((V1.setCell ⟨g, 2, none⟩ (.bool c.null)).setCell ⟨g, 3, none⟩ (.int .i64 c.num)).setCell ⟨g, 4, none⟩ (.string ⟨c.txt.toArray⟩) = V at *
    have hN := hL.out
    have hB := hBL.out
    have hF := FF.out
    clear hL hBL FF
    have q0 : V.cell? ⟨f, 0, none⟩ = some (.bool true) := hN.fb.cell 0
    go_region
    clear q0
    replace hN := hN.drew
    replace hB : ClB V.drew R c := hB
    replace hF := hF.drew
    generalize V.drew = V2 at *
    have hL : NoteAt (setHigh V2 g c.null c.num c.txt) f p g true ⟨z.rows, z.nulls, c, c⟩ := hN.high (Ne.symm hgf) hpg c
    have FL := setHigh_fr V2 g c.null c.num c.txt
    have hBL : ClB (setHigh V2 g c.null c.num c.txt) R c := hB.fr FL (fun e => hR.1 e)
    have FF : Fr (One g) w (setHigh V2 g c.null c.num c.txt) := hF.trans FL
    replace hL := Lib.hid hL
    replace hBL := Lib.hid hBL
    replace FF := Lib.hid FF
    obtain ⟨y0, y1, y2, y3, y4, y5, y6, y7⟩ := znB_froz hN.zb
    obtain ⟨a0, a1, a2, a3, a4, a5, a6, a7⟩ := znB_cells hN.zb
    obtain ⟨c0, c1, c2, _⟩ := hB.facts
    have p0 : V2.cell? ⟨p, 0, none⟩ = some (ptr g) := hN.pb.cell 0
    clear FL
    have f0 := hN.fb.frozen 0
    have f1 : V2.cell? ⟨f, 0, none⟩ = some (.bool true) := hN.fb.cell 0
    have HN := Lib.hid (hL.out.noted hfp hgf)
    have HF := Lib.hid ((FF.out.mono (S' := TwoB f g) (fun _ _ e => .inr e)).setCell (p := ⟨f, 0, none⟩) (fun _ => .inl rfl) (.bool false))
    clear hL hBL FF hN hB hF
    go_wp2
    go_end0
    exact ⟨rfl, by rw [HE.out]; exact HN.out, HF.out⟩
end Go.Proofs.Ytihofmmbdedhbaa
