/-
  Joined: Base, Row, Slc, MathVint, MathTx, Cell1, CellW, SlcC, SlcR, GrpW, Cell2, Zone1, MathZone, MathDelta, MathFold, Frame, OpenG, SlcN, Kol1, MathName, Vint3, Vint4, Vint5, Vint7
-/
import Derived.Lib.Zigzag
import Derived.Deep.QuietTactic
import Derived.BigQuiet
import Derived.Deep.RegionHeld3
import Derived.Deep.DrawnRows
import Derived.Shelf.Strings.Replace
import Derived.Shelf.Strconv.Itoa4
import Derived.Shelf.Strings.OnBuilder
import Derived.Test.YtjcfjjhhbcgcmaaGreatProg
import Derived.Lib.SmallJoins
import Derived.Lib.AppendIntMem
import Derived.Laws.StructEq
import Derived.Laws.Rows
import Derived.Laws.ResultCell
import Derived.Deep.RegionWith
import Derived.WalkKit
import Derived.WalkSpells
import Derived.Deep.AppendSrc
import Derived.Maps.AppendAt
import Derived.Lib.Hide
import Derived.Deep.Draws
import Derived.Lib.AppendStr
import Derived.Laws.CopyOwn
import Derived.Laws.OwnMore
import Derived.Lib.Varint
import Derived.ArgAppend
import Derived.Deep.DeepAppendRoom
import Derived.Laws.Cover1
import Derived.Test.YtjcfjjhhbcgcmaaGreatRows
import Derived.ProofKit
import Derived.OpenShut
import Derived.ShutString
import Derived.ChangeOld
import Derived.Below
import Derived.Deep.Slices
import Derived.BigFrame
set_option linter.unusedVariables false
set_option linter.unusedSimpArgs false
set_option maxRecDepth 100000
namespace Go.Proofs.YtjcfjjhhbcgcmaaGreat
theorem zA.{u} {α : Type u} (l : List α) (i : Nat) (a : α) : l.toArray.setIfInBounds i a = (l.set i a).toArray := List.setIfInBounds_toArray l i a
theorem zB.{u} {α : Type u} {x : α} {xs : List α} {a : α} : (x :: xs).set 0 a = a :: xs := List.set_cons_zero
theorem zC.{u} {α : Type u} {x : α} {xs : List α} {i : Nat} {a : α} : (x :: xs).set (i + 1) a = x :: xs.set i a := List.set_cons_succ
end Go.Proofs.YtjcfjjhhbcgcmaaGreat
namespace Go.Proofs.YtjcfjjhhbcgcmaaGreat
open Go.RowKit
structure Fr (S : Nat → Prop) (w w' : World) : Prop where
  os : w'.os = w.os
  tape : w'.tape = w.tape
  output : w'.output = w.output
  size : w.heap.size ≤ w'.heap.size
  block : ∀ k, k < w.heap.size → ¬ S k → w'.heap[k]? = w.heap[k]?
def Non : Nat → Prop := fun _ => False
def One (g : Nat) : Nat → Prop := fun k => k = g
theorem Fr.refl (S : Nat → Prop) (w : World) : Fr S w w := ⟨rfl, rfl, rfl, Nat.le_refl _, fun _ _ _ => rfl⟩
theorem Fr.join {S S' : Nat → Prop} {w w1 w2 : World} (h : Fr S w w1) (h' : Fr S' w1 w2) (hs : ∀ k, k < w.heap.size → S' k → S k) : Fr S w w2 :=
  ⟨h'.os.trans h.os, h'.tape.trans h.tape, h'.output.trans h.output, Nat.le_trans h.size h'.size,
    fun k hk hn => (h'.block k (Nat.lt_of_lt_of_le hk h.size) (fun e => hn (hs k hk e))).trans (h.block k hk hn)⟩
theorem Fr.trans {S : Nat → Prop} {w w1 w2 : World} (h : Fr S w w1) (h' : Fr S w1 w2) : Fr S w w2 := h.join h' fun _ _ e => e
theorem Fr.then {S : Nat → Prop} {w w1 w2 : World} (h : Fr S w w1) (h' : Fr Non w1 w2) : Fr S w w2 := h.join h' fun _ _ e => e.elim
theorem Fr.mono {S S' : Nat → Prop} {w w' : World} (h : Fr S w w') (hs : ∀ k, k < w.heap.size → S k → S' k) : Fr S' w w' :=
  ⟨h.os, h.tape, h.output, h.size, fun k hk hn => h.block k hk fun e => hn (hs k hk e)⟩
theorem Fr.any {S : Nat → Prop} {w w' : World} (h : Fr Non w w') : Fr S w w' := h.mono fun _ _ e => e.elim
theorem Fr.fresh {S S' : Nat → Prop} {w w1 w2 : World} (h : Fr S w w1) (h' : Fr S' w1 w2) (hs : ∀ k, S' k → w.heap.size ≤ k) : Fr S w w2 :=
  h.join h' fun k hk e => absurd (hs k e) (by omega)
theorem Fr.drew {S : Nat → Prop} {w w' : World} (h : Fr S w w') : Fr S w w'.drew := ⟨h.os, h.tape, h.output, h.size, h.block⟩
theorem Fr.drewN {S : Nat → Prop} {w w' : World} (h : Fr S w w') (n : Nat) : Fr S w (w'.drewN n) := ⟨h.os, h.tape, h.output, h.size, h.block⟩
theorem Fr.alloc {S : Nat → Prop} {w w' : World} (h : Fr S w w') (o : Obj) : Fr S w (w'.alloc o) :=
  h.then ⟨rfl, rfl, rfl, by simp, fun k hk _ => Below.heap_alloc _ _ _ hk⟩
theorem Fr.setCell {S : Nat → Prop} {w w' : World} (h : Fr S w w') {p : Addr} (hp : p.block < w.heap.size → S p.block) (u : Value) : Fr S w (w'.setCell p u) :=
  ⟨h.os, h.tape, h.output, by simpa [World.setCell] using h.size, fun k hk hn => (Below.heap_setCell w' p u k (fun e => hn (by subst e; exact hp hk))).trans (h.block k hk hn)⟩
theorem Fr.set1 {g : Nat} {w w' : World} (h : Fr (One g) w w') (i : Nat) (u : Value) : Fr (One g) w (w'.setCell ⟨g, i, none⟩ u) := h.setCell (p := ⟨g, i, none⟩) (fun _ => rfl) u
theorem Fr.of_below {w w' : World} (h : Below w.heap.size w w') : Fr Non w w' := ⟨h.os, h.tape, h.output, h.size, fun k hk _ => h.block k hk⟩
theorem Fr.below {w w' : World} (h : Fr Non w w') : Below w.heap.size w w' := ⟨h.os, h.tape, h.output, h.size, fun k hk => h.block k hk fun e => e⟩
theorem Fr.of_grown {w w' : World} {row : Option Nat} (h : w.grownBy w' row) : Fr (fun k => row = some k) w w' :=
  ⟨h.os, h.tape, h.output, h.size, fun k hk hn => h.block k hk (fun e => hn e.symm)⟩
theorem Fr.cell {S : Nat → Prop} {w w' : World} (h : Fr S w w') {p : Addr} (hp : p.block < w.heap.size) (hn : ¬ S p.block) : w'.cell? p = w.cell? p := World.cell?_of_block (h.block _ hp hn)
theorem ret_boolE {a b : Bool} (h : a = b) : Ending.returned (.bool a) = .returned (.bool b) := by rw [h]
theorem ret_int {k : IntKind} {a b : Int} (h : a = b) : Ending.returned (.int k a) = .returned (.int k b) := by rw [h]
def Blk (w : World) (g : Nat) (t : TypeId) (cs : Array Value) : Prop := w.heap[g]? = some (.cells cs t (0, 0))
theorem Blk.lt {w : World} {g : Nat} {t : TypeId} {cs : Array Value} (h : Blk w g t cs) : g < w.heap.size := (Array.getElem?_eq_some_iff.1 h).1
theorem Blk.cell {w : World} {g : Nat} {t : TypeId} {cs : Array Value} (h : Blk w g t cs) (i : Nat) : w.cell? ⟨g, i, none⟩ = cs[i]? := cell_of_row w g i cs t (0, 0) h
theorem Blk.frozen {w : World} {g : Nat} {t : TypeId} {cs : Array Value} (h : Blk w g t cs) (i : Nat) : w.frozen? ⟨g, i, none⟩ = false := by
  unfold Blk at h; simp [World.frozen?, h]
theorem Blk.new (w : World) (t : TypeId) (cs : Array Value) : Blk (w.alloc (.cells cs t)) w.heap.size t cs := heap_alloc_new w _
theorem Blk.fr {S : Nat → Prop} {w w' : World} {g : Nat} {t : TypeId} {cs : Array Value} (h : Blk w g t cs) (hf : Fr S w w') (hn : ¬ S g) : Blk w' g t cs := (hf.block g h.lt hn).trans h
theorem Blk.set {w : World} {g : Nat} {t : TypeId} {cs : Array Value} (h : Blk w g t cs) (i : Nat) (u : Value) : Blk (w.setCell ⟨g, i, none⟩ u) g t (cs.setIfInBounds i u) := by
  unfold Blk at h ⊢; simp [World.setCell, Array.getElem?_modify, h]
theorem Blk.drew {w : World} {g : Nat} {t : TypeId} {cs : Array Value} (h : Blk w g t cs) : Blk w.drew g t cs := h
theorem cell_new1 (w : World) (v : Value) (t : TypeId) : (w.alloc (.cells #[v] t)).cell? ⟨w.heap.size, 0, none⟩ = some v := (Blk.new w t #[v]).cell 0
def bv (b : UInt8) : Value := .int .u8 b.toNat
theorem add_block (a : Addr) (n : Nat) : (a.add n).block = a.block := by unfold Addr.add; split <;> rfl
theorem add_add (a : Addr) (i j : Nat) : (a.add i).add j = a.add (i + j) := by
  unfold Addr.add
  by_cases hi : i = 0 <;> by_cases hj : j = 0 <;> simp [hi, hj, Nat.add_assoc]
def Bs (w : World) (v : Value) (l : List UInt8) : Prop :=
  ∃ A c, v = .slice A l.length c ∧ l.length ≤ c ∧ (A = none → c = 0) ∧ ∀ a, A = some a → ∀ j (h : j < l.length), w.cell? (a.add j) = some (bv l[j])
theorem Bs.nil_ (w : World) : Bs w (.slice none 0 0) [] := ⟨none, 0, rfl, Nat.le_refl _, fun _ => rfl, fun _ h => by cases h⟩
theorem Bs.keep {w w' : World} {v : Value} {l : List UInt8} (h : Bs w v l) (hk : ∀ k, v.ownBlock = some k → k < w.heap.size → w'.heap[k]? = w.heap[k]?) : Bs w' v l := by
  obtain ⟨A, c, rfl, h1, h2, h3⟩ := h
  refine ⟨A, c, rfl, h1, h2, fun a ha j hj => ?_⟩
  have := h3 a ha j hj
  subst ha
  have hb := World.block_lt_of_cell? w _ this
  rw [add_block] at hb
  rw [← this]
  exact World.cell?_of_block (by rw [add_block]; exact hk _ rfl hb)
theorem Bs.fr {S : Nat → Prop} {w w' : World} {v : Value} {l : List UInt8} (h : Bs w v l) (hf : Fr S w w') (hn : ∀ k, v.ownBlock = some k → ¬ S k) : Bs w' v l :=
  h.keep fun k hk hlt => hf.block k hlt (hn k hk)
theorem Bs.non {w w' : World} {v : Value} {l : List UInt8} (h : Bs w v l) (hf : Fr Non w w') : Bs w' v l := h.fr hf fun _ _ e => e
theorem Bs.drew {w : World} {v : Value} {l : List UInt8} (h : Bs w v l) : Bs w.drew v l := h
theorem Bs.shape {w : World} {v : Value} {l : List UInt8} (h : Bs w v l) : ∃ A c, v = .slice A l.length c := by
  obtain ⟨A, c, rfl, _⟩ := h; exact ⟨A, c, rfl⟩
def Own (w : World) (B : Nat) (v : Value) (l : List UInt8) : Prop := w.ownsRow B 5 1 v l.length (l.map bv)
theorem Own.lt {w : World} {B : Nat} {v : Value} {l : List UInt8} (h : Own w B v l) : ∀ k, v.ownBlock = some k → B ≤ k ∧ k < w.heap.size := World.ownsRow.lt h
theorem Own.bs {w : World} {B : Nat} {v : Value} {l : List UInt8} (h : Own w B v l) : Bs w v l := by
  rcases h.2 with ⟨rfl, h0⟩ | ⟨g, cap, cur, rfl, _, _, hle, _, _, _⟩
  · have hl : l = [] := List.eq_nil_of_length_eq_zero h0
    subst hl; exact Bs.nil_ w
  · refine ⟨_, cap, rfl, hle, (fun h => by cases h), fun a ha j hj => ?_⟩
    cases ha
    exact World.ownsRow.cells h (g := g) rfl j _ (by simp [hj])
theorem Own.keep {w w' : World} {B : Nat} {v : Value} {l : List UInt8} (h : Own w B v l) (hk : ∀ k, v.ownBlock = some k → w'.heap[k]? = w.heap[k]?) : Own w' B v l := by
  refine ⟨h.1, ?_⟩
  rcases h.2 with h2 | ⟨g, cap, cur, hv, hb, hg, r⟩
  · exact .inl h2
  · exact .inr ⟨g, cap, cur, hv, hb, by rw [hk g (by rw [hv]; rfl)]; exact hg, r⟩
theorem Own.fr {S : Nat → Prop} {w w' : World} {B : Nat} {v : Value} {l : List UInt8} (h : Own w B v l) (hf : Fr S w w') (hn : ∀ k, v.ownBlock = some k → ¬ S k) : Own w' B v l :=
  h.keep fun k hk => hf.block k (h.lt k hk).2 (hn k hk)
theorem Own.non {w w' : World} {B : Nat} {v : Value} {l : List UInt8} (h : Own w B v l) (hf : Fr Non w w') : Own w' B v l := h.fr hf fun _ _ e => e
theorem Own.alloc {w : World} {B : Nat} {v : Value} {l : List UInt8} (h : Own w B v l) (o : Obj) : Own (w.alloc o) B v l := h.non ((Fr.refl _ _).alloc o)
theorem Own.mono {w : World} {B B' : Nat} {v : Value} {l : List UInt8} (h : Own w B v l) (hB : B' ≤ B) : Own w B' v l := by
  refine ⟨h.1, ?_⟩
  rcases h.2 with h2 | ⟨g, cap, cur, hv, hb, r⟩
  · exact .inl h2
  · exact .inr ⟨g, cap, cur, hv, by omega, r⟩
theorem Own.row {w : World} {B : Nat} {v : Value} {l : List UInt8} (h : Own w B v l) (hn : l ≠ []) : ∃ g cap, v = .slice (some ⟨g, 0, none⟩) l.length cap ∧ B ≤ g ∧ g < w.heap.size ∧ l.length ≤ cap ∧ cap ≤ maxLen := by
  rcases h.2 with ⟨rfl, h0⟩ | ⟨g, cap, cur, rfl, hb, hg, hle, hm, _⟩
  · exact absurd (List.eq_nil_of_length_eq_zero h0) hn
  · exact ⟨g, cap, rfl, hb, (Array.getElem?_eq_some_iff.1 hg).1, hle, hm⟩
theorem Own.store {w : World} {B g n cap : Nat} {l : List UInt8} (h : Own w B (.slice (some ⟨g, 0, none⟩) n cap) l) (hn : n = l.length) (j : Nat) (b : UInt8) : Own (w.setCell ⟨g, j, none⟩ (bv b)) B (.slice (some ⟨g, 0, none⟩) n cap) (l.set j b) := by
  subst hn
  have := (World.ownsRow.stored h j (bv b)).1
  unfold Own
  rw [List.length_set, List.map_set]
  exact this
theorem Own.cell {w : World} {B g n cap : Nat} {l : List UInt8} (h : Own w B (.slice (some ⟨g, 0, none⟩) n cap) l) (hn : n = l.length) (j : Nat) (b : UInt8) (hb : l[j]? = some b) : w.cell? ⟨g, j, none⟩ = some (.int .u8 b.toNat) := by
  subst hn
  have hj : j < l.length := (List.getElem?_eq_some_iff.1 hb).1
  rw [World.ownsRow.cellAt h j (by omega), List.getElem?_map, hb]; rfl
theorem Own.frozen {w : World} {B g n cap : Nat} {l : List UInt8} (h : Own w B (.slice (some ⟨g, 0, none⟩) n cap) l) (hn : n = l.length) (j : Nat) : w.frozen? ⟨g, j, none⟩ = false := by
  subst hn; exact World.ownsRow.frozenAt h j
theorem Own.drew {w : World} {B : Nat} {v : Value} {l : List UInt8} (h : Own w B v l) : Own w.drew B v l := h
end Go.Proofs.YtjcfjjhhbcgcmaaGreat

namespace Go.Proofs.YtjcfjjhhbcgcmaaGreat
open Go.RowKit
theorem run_pushv (T E ty : TypeId) (z : Value) (by_ : Nat) (hT : Tryz.prog.underlying T = some (.slice E)) (hinfo : (Tryz.prog.info? E).map (fun i => (i.zero, i.size, i.bytes)) = some (some z, 1, by_)) (hz : z.cells.size = 1)
    (w0 : World) (B : Nat) (v u : Value) (xs : List Value) (hown : w0.ownsRow B E 1 v xs.length xs) (h1 : u.oneCell' = true) (hl : (xs.length + 1) * by_ ≤ 140737488355328) (hm : xs.length + 1 ≤ maxLen) (hB : B ≤ w0.heap.size) (g : Nat) (hg : g = w0.heap.size) :
    ∃ v' w', (Builtin.append_ #[T, T] ty #[v, .slice (some ⟨g, 0, none⟩) 1 1]).run Tryz.prog (w0.alloc (.cells #[u] E)) = .ok v' w' ∧ w'.ownsRow B E 1 v' (xs ++ [u]).length (xs ++ [u]) ∧ Fr (fun k => v.ownBlock = some k) w0 w' := by
  subst hg
  obtain ⟨i, hi, hz0, hz1, hz2⟩ := info_parts hinfo
  have ho : (w0.alloc (.cells #[u] E)).ownsRow B E 1 v xs.length xs := by
    refine ⟨hown.1, ?_⟩
    rcases hown.2 with h2 | ⟨g, cap, cur, hv, hb, hg, r⟩
    · exact .inl h2
    · exact .inr ⟨g, cap, cur, hv, hb, by rw [Below.heap_alloc _ _ _ (Array.getElem?_eq_some_iff.1 hg).1]; exact hg, r⟩
  obtain ⟨v', w', hr, h2, h3, h4⟩ := run_append_own (P := Tryz.prog) (w0.alloc (.cells #[u] E)) B T ty E i z 1 by_ hT hi hz0 hz1 hz2 hz (by omega) v xs.length xs ho ⟨w0.heap.size, 0, none⟩ 1 1 [u] rfl
    (fun j x hj => by
      cases j with
      | zero =>
        obtain rfl : u = x := by simpa using hj
        exact cell_new1 _ _ _
      | succ j => simp at hj)
    (fun x hx => by obtain rfl : x = u := by simpa using hx
                    exact h1) hm hl (by simp; omega)
  refine ⟨v', w', hr, by simpa using h2, ?_⟩
  exact ((Fr.refl _ _).alloc _).join (Fr.of_grown h3) fun k hk e => e.symm ▸ rfl
theorem Own.kind {w : World} {B : Nat} {u : Value} {l : List UInt8} (h : Own w B u l) : ∀ k, u.ownBlock = some k → ∃ cur, w.heap[k]? = some (.cells cur 5 (0, 0)) := by
  intro k hk
  rcases h.2 with ⟨rfl, _⟩ | ⟨g, cap, cur, rfl, _, hg, _⟩
  · cases hk
  · obtain rfl : g = k := by simpa [Value.ownBlock] using hk
    exact ⟨cur, hg⟩
theorem row_kind {w : World} {B : Nat} {E : TypeId} {n : Nat} {v : Value} {xs : List Value} (h : w.ownsRow B E 1 v n xs) : ∀ k, v.ownBlock = some k → ∃ cur, w.heap[k]? = some (.cells cur E (0, 0)) := by
  intro k hk
  rcases h.2 with ⟨rfl, _⟩ | ⟨g, cap, cur, rfl, _, hg, _⟩
  · cases hk
  · obtain rfl : g = k := by simpa [Value.ownBlock] using hk
    exact ⟨cur, hg⟩
theorem row_keep {w w' : World} {B : Nat} {E : TypeId} {n : Nat} {v : Value} {xs : List Value} (h : w.ownsRow B E 1 v n xs) (hk : ∀ k, v.ownBlock = some k → w'.heap[k]? = w.heap[k]?) : w'.ownsRow B E 1 v n xs := by
  refine ⟨h.1, ?_⟩
  rcases h.2 with h2 | ⟨g, cap, cur, hv, hb, hg, r⟩
  · exact .inl h2
  · exact .inr ⟨g, cap, cur, hv, hb, by rw [hk g (by rw [hv]; rfl)]; exact hg, r⟩
theorem row_mono {w : World} {B B' : Nat} {E : TypeId} {n : Nat} {v : Value} {xs : List Value} (h : w.ownsRow B E 1 v n xs) (hB : B' ≤ B) : w.ownsRow B' E 1 v n xs := by
  refine ⟨h.1, ?_⟩
  rcases h.2 with h2 | ⟨g, cap, cur, hv, hb, r⟩
  · exact .inl h2
  · exact .inr ⟨g, cap, cur, hv, by omega, r⟩
def iv (n : Int) : Value := .int .i64 n
end Go.Proofs.YtjcfjjhhbcgcmaaGreat

namespace Go.Proofs.YtjcfjjhhbcgcmaaGreat
open Go.RowKit
def Vs {α : Type} (f : α → Value) (w : World) (v : Value) (l : List α) : Prop :=
  ∃ A c, v = .slice A l.length c ∧ l.length ≤ c ∧ (A = none → c = 0) ∧ ∀ a, A = some a → ∀ j (h : j < l.length), w.cell? (a.add j) = some (f l[j])
def Ow {α : Type} (f : α → Value) (E : TypeId) (w : World) (B : Nat) (v : Value) (l : List α) : Prop := w.ownsRow B E 1 v l.length (l.map f)
structure El (T E : TypeId) (z : Value) (by_ : Nat) : Prop where
  under : Tryz.prog.underlying T = some (.slice E)
  info : (Tryz.prog.info? E).map (fun i => (i.zero, i.size, i.bytes)) = some (some z, 1, by_)
  cells : z.cells = #[z]
  small : by_ ≤ 64
  elem : Tryz.prog.elem T = E
  sz : ∀ w, (sizeOf (Tryz.prog.elem T)).run Tryz.prog w = .ok 1 w
section
variable {α : Type} {f : α → Value}
theorem Vs.nil_ (w : World) : Vs f w (.slice none 0 0) [] := ⟨none, 0, rfl, Nat.le_refl _, fun _ => rfl, fun _ h => by cases h⟩
theorem Vs.keep {w w' : World} {v : Value} {l : List α} (h : Vs f w v l) (hk : ∀ k, v.ownBlock = some k → k < w.heap.size → w'.heap[k]? = w.heap[k]?) : Vs f w' v l := by
  obtain ⟨A, c, rfl, h1, h2, h3⟩ := h
  refine ⟨A, c, rfl, h1, h2, fun a ha j hj => ?_⟩
  have := h3 a ha j hj
  subst ha
  have hb := World.block_lt_of_cell? w _ this
  rw [add_block] at hb
  rw [← this]
  exact World.cell?_of_block (by rw [add_block]; exact hk _ rfl hb)
theorem Vs.fr {S : Nat → Prop} {w w' : World} {v : Value} {l : List α} (h : Vs f w v l) (hf : Fr S w w') (hn : ∀ k, v.ownBlock = some k → ¬ S k) : Vs f w' v l :=
  h.keep fun k hk hlt => hf.block k hlt (hn k hk)
theorem Vs.non {w w' : World} {v : Value} {l : List α} (h : Vs f w v l) (hf : Fr Non w w') : Vs f w' v l := h.fr hf fun _ _ e => e
theorem Vs.drew {w : World} {v : Value} {l : List α} (h : Vs f w v l) : Vs f w.drew v l := h
theorem Vs.drewN {w : World} {v : Value} {l : List α} (h : Vs f w v l) (n : Nat) : Vs f (w.drewN n) v l := h
theorem Vs.shape {w : World} {v : Value} {l : List α} (h : Vs f w v l) : ∃ A c, v = .slice A l.length c := by
  obtain ⟨A, c, rfl, _⟩ := h; exact ⟨A, c, rfl⟩
theorem Vs.addr {w : World} {A : Option Addr} {n c : Nat} {l : List α} (h : Vs f w (.slice A n c) l) (hl : 0 < n) : ∃ a, A = some a ∧ n = l.length ∧ n ≤ c ∧ ∀ j (h : j < l.length), w.cell? (a.add j) = some (f l[j]) := by
  obtain ⟨A0, c0, he, h1, h2, h3⟩ := h
  simp only [Value.slice.injEq] at he
  obtain ⟨rfl, rfl, rfl⟩ := he
  cases A with
  | none => have := h2 rfl; omega
  | some a => exact ⟨a, rfl, rfl, h1, h3 a rfl⟩
theorem vs_row (w : World) (l : List α) (E : TypeId) (fr : Nat × Nat) : Vs f (w.alloc (.cells (l.map f).toArray E fr)) (.slice (some ⟨w.heap.size, 0, none⟩) l.length l.length) l := by
  refine ⟨_, _, rfl, Nat.le_refl _, (fun h => by cases h), fun a ha j hj => ?_⟩
  cases ha
  rw [Addr.add_lit, Nat.zero_add, cell_of_row _ w.heap.size j _ _ fr (heap_alloc_new w _)]
  simp [hj]
theorem Vs.pre {w : World} {A : Option Addr} {n c k : Nat} {l : List α} (h : Vs f w (.slice A n c) l) (hk : k ≤ n) : Vs f w (.slice A k c) (l.take k) := by
  obtain ⟨A0, c0, he, h1, h2, h3⟩ := h
  simp only [Value.slice.injEq] at he
  obtain ⟨rfl, rfl, rfl⟩ := he
  have hl : (l.take k).length = k := by rw [List.length_take]; omega
  refine ⟨A, c, by rw [hl], by rw [hl]; omega, h2, fun a ha j hj => ?_⟩
  rw [h3 a ha j (by rw [hl] at hj; omega)]
  simp
variable {E : TypeId}
theorem ow_nil (w : World) (B : Nat) : Ow f E w B (.slice none 0 0) [] := ⟨by simp, .inl ⟨rfl, rfl⟩⟩
theorem Ow.lt {w : World} {B : Nat} {v : Value} {l : List α} (h : Ow f E w B v l) : ∀ k, v.ownBlock = some k → B ≤ k ∧ k < w.heap.size := World.ownsRow.lt h
theorem Ow.vs {w : World} {B : Nat} {v : Value} {l : List α} (h : Ow f E w B v l) : Vs f w v l := by
  rcases h.2 with ⟨rfl, h0⟩ | ⟨g, cap, cur, rfl, _, _, hle, _, _, _⟩
  · have hl : l = [] := List.eq_nil_of_length_eq_zero h0
    subst hl; exact Vs.nil_ w
  · refine ⟨_, cap, rfl, hle, (fun h => by cases h), fun a ha j hj => ?_⟩
    cases ha
    exact World.ownsRow.cells h (g := g) rfl j _ (by simp [hj])
theorem Ow.shape {w : World} {B : Nat} {v : Value} {l : List α} (h : Ow f E w B v l) : ∃ A c, v = .slice A l.length c := h.vs.shape
theorem Ow.keep {w w' : World} {B : Nat} {v : Value} {l : List α} (h : Ow f E w B v l) (hk : ∀ k, v.ownBlock = some k → w'.heap[k]? = w.heap[k]?) : Ow f E w' B v l := row_keep h hk
theorem Ow.fr {S : Nat → Prop} {w w' : World} {B : Nat} {v : Value} {l : List α} (h : Ow f E w B v l) (hf : Fr S w w') (hn : ∀ k, v.ownBlock = some k → ¬ S k) : Ow f E w' B v l :=
  h.keep fun k hk => hf.block k (h.lt k hk).2 (hn k hk)
theorem Ow.non {w w' : World} {B : Nat} {v : Value} {l : List α} (h : Ow f E w B v l) (hf : Fr Non w w') : Ow f E w' B v l := h.fr hf fun _ _ e => e
theorem Ow.alloc {w : World} {B : Nat} {v : Value} {l : List α} (h : Ow f E w B v l) (o : Obj) : Ow f E (w.alloc o) B v l := h.non ((Fr.refl _ _).alloc o)
theorem Ow.drew {w : World} {B : Nat} {v : Value} {l : List α} (h : Ow f E w B v l) : Ow f E w.drew B v l := h
theorem Ow.drewN {w : World} {B : Nat} {v : Value} {l : List α} (h : Ow f E w B v l) (n : Nat) : Ow f E (w.drewN n) B v l := h
theorem Ow.mono {w : World} {B B' : Nat} {v : Value} {l : List α} (h : Ow f E w B v l) (hB : B' ≤ B) : Ow f E w B' v l := row_mono h hB
theorem Ow.kind {w : World} {B : Nat} {v : Value} {l : List α} (h : Ow f E w B v l) : ∀ k, v.ownBlock = some k → ∃ cur, w.heap[k]? = some (.cells cur E (0, 0)) := row_kind h
theorem Ow.row {w : World} {B : Nat} {v : Value} {l : List α} (h : Ow f E w B v l) (hn : 0 < l.length) : ∃ g cap, v = .slice (some ⟨g, 0, none⟩) l.length cap ∧ B ≤ g ∧ g < w.heap.size ∧ l.length ≤ cap ∧ cap ≤ maxLen := by
  rcases h.2 with ⟨rfl, h0⟩ | ⟨g, cap, cur, rfl, hb, hg, hle, hm, _⟩
  · omega
  · exact ⟨g, cap, rfl, hb, (Array.getElem?_eq_some_iff.1 hg).1, hle, hm⟩
theorem Ow.cell {w : World} {B g n cap : Nat} {l : List α} (h : Ow f E w B (.slice (some ⟨g, 0, none⟩) n cap) l) (hn : n = l.length) (j : Nat) (x : α) (hb : l[j]? = some x) : w.cell? ⟨g, j, none⟩ = some (f x) := by
  subst hn
  have hj : j < l.length := (List.getElem?_eq_some_iff.1 hb).1
  rw [World.ownsRow.cellAt h j (by omega), List.getElem?_map, hb]; rfl
theorem Ow.frozen {w : World} {B g n cap : Nat} {l : List α} (h : Ow f E w B (.slice (some ⟨g, 0, none⟩) n cap) l) (hn : n = l.length) (j : Nat) : w.frozen? ⟨g, j, none⟩ = false := by
  subst hn; exact World.ownsRow.frozenAt h j
theorem Ow.store {w : World} {B g n cap : Nat} {l : List α} (h : Ow f E w B (.slice (some ⟨g, 0, none⟩) n cap) l) (hn : n = l.length) (j : Nat) (x : α) : Ow f E (w.setCell ⟨g, j, none⟩ (f x)) B (.slice (some ⟨g, 0, none⟩) n cap) (l.set j x) := by
  subst hn
  have := (World.ownsRow.stored h j (f x)).1
  unfold Ow
  rw [List.length_set, List.map_set]
  exact this
theorem ow_lit (w : World) (B g : Nat) (l : List α) (cs : Array Value) (hcs : cs.toList = l.map f) (hg : g = w.heap.size) (hB : B ≤ g) (hm : l.length ≤ maxLen) : Ow f E (w.alloc (.cells cs E)) B (.slice (some ⟨g, 0, none⟩) l.length l.length) l := by
  subst hg
  unfold Ow
  rw [← hcs]
  exact World.ownsRow_lit w cs l.length hB hm (by have := congrArg List.length hcs; simpa using this)
theorem ow_lit0 (w : World) (B g : Nat) (hg : g = w.heap.size) (hB : B ≤ g) : Ow f E (w.alloc (.cells #[] E)) B (.slice (some ⟨g, 0, none⟩) 0 0) [] :=
  ow_lit w B g [] #[] rfl hg hB (by unfold maxLen; simp)
variable {T : TypeId} {z : Value} {by_ : Nat}
theorem wpList_pushG (hE : El T E z by_) (hf1 : ∀ x, (f x).oneCell' = true) {w0 : World} {ops : Array Oper} {rest : List Oper} {o : Oper} {a : Act} {Q : Exit → Act → World → Prop} (hgd : o.guard = none) (s x : Operand)
    (ho : o.op = .call { callee := .builtin .append, args := #[s, x], argTypes := #[T, T] })
    (B : Nat) (v : Value) (l : List α) (hs : a.eval s = v) (hown : Ow f E w0 B v l) (u : Value) (y : α) (hu : u = f y) (hx : a.eval x = .slice (some ⟨w0.heap.size, 0, none⟩) 1 1)
    (hl : l.length < 1099511627776) (hB : B ≤ w0.heap.size)
    (h : ∀ v' w', Ow f E w' B v' (l ++ [y]) → Fr (fun k => v.ownBlock = some k) w0 w' → wpList Tryz.prog ops Q rest (a.put o.dst v') w') :
    wpList Tryz.prog ops Q (o :: rest) a (w0.alloc (.cells #[u] E)) := by
  subst hu
  have hown' : w0.ownsRow B E 1 v (l.map f).length (l.map f) := by rw [List.length_map]; exact hown
  have hs' := hE.small
  have hbl : ((l.map f).length + 1) * by_ ≤ 140737488355328 := by
    rw [List.length_map]
    have := Nat.mul_le_mul (show l.length + 1 ≤ 1099511627776 by omega) hs'
    omega
  obtain ⟨v', w', hr, h1, h2⟩ := run_pushv T E o.type z by_ hE.under hE.info (by rw [hE.cells]; rfl) w0 B v (f y) (l.map f) hown' (hf1 y) hbl (by rw [List.length_map]; unfold maxLen; omega) hB w0.heap.size rfl
  refine wpList_plain hgd fun K hK => ?_
  unfold Oper.wp execOp
  simp only [ho, resolve, invoke, builtin, Sem.run_bind, Sem.run_pure, Result.andThen_ok, List.map_toArray, List.map_cons, List.map_nil, hs, hx, hr]
  refine hK _ _ (h v' w' ?_ h2)
  unfold Ow
  simpa [List.map_append] using h1
theorem wpList_appG (hE : El T E z by_) (hf1 : ∀ x, (f x).oneCell' = true) {w : World} {ops : Array Oper} {rest : List Oper} {o : Oper} {a : Act} {Q : Exit → Act → World → Prop} (hgd : o.guard = none) (s x : Operand)
    (ho : o.op = .call { callee := .builtin .append, args := #[s, x], argTypes := #[T, T] })
    (B : Nat) (v y : Value) (l m : List α) (hs : a.eval s = v) (hown : Ow f E w B v l) (hx : a.eval x = y) (hy : Vs f w y m)
    (hl : l.length + m.length < 1099511627776) (hB : B ≤ w.heap.size)
    (h : ∀ v' w', Ow f E w' B v' (l ++ m) → Fr (fun k => v.ownBlock = some k) w w' → wpList Tryz.prog ops Q rest (a.put o.dst v') w') : wpList Tryz.prog ops Q (o :: rest) a w := by
  refine wpList_plain hgd fun K hK => ?_
  obtain ⟨i, hi, hz0, hz1, hz2⟩ := info_parts hE.info
  have hs' := hE.small
  have hzc : z.cells.size = 1 := by rw [hE.cells]; rfl
  have hbl : (l.length + m.length) * by_ ≤ 140737488355328 := by
    have := Nat.mul_le_mul (show l.length + m.length ≤ 1099511627776 by omega) hs'
    omega
  obtain ⟨A, c, rfl, hmc, hn, hcells⟩ := hy
  cases A with
  | some ad =>
    refine wp_append_own w s x T ho B E i z 1 by_ hE.under hi hz0 hz1 hz2 hzc (by omega) v l.length (l.map f) hs hown ad m.length c (m.map f) hx (by simp) ?_ (by intro u hu; obtain ⟨b, _, rfl⟩ := List.mem_map.1 hu; exact hf1 b) (by unfold maxLen; omega) (by omega) hB ?_
    · intro j u hu
      have hj : j < m.length := by simpa using (List.getElem?_eq_some_iff.1 hu).1
      rw [hcells ad rfl j hj]
      simpa [hj] using hu
    · intro v' w' h1 h2 _
      refine hK _ _ (h v' w' ?_ (Fr.of_grown h2))
      unfold Ow; simpa using h1
  | none =>
    have hm : m = [] := List.eq_nil_of_length_eq_zero (by have := hn rfl; omega)
    subst hm
    have hc : c = 0 := hn rfl
    subst hc
    have hrun := run_append_owned_none (P := Tryz.prog) (w := w) B T o.type E i 1 hE.under hi v l.length (l.map f) hown
    unfold Oper.wp
    have hx' : a.eval x = .slice none 0 0 := hx
    simp [execOp, ho, resolve, invoke, builtin, hs, hx', hrun, Result.andThen]
    exact hK _ _ (h v w (by simpa using hown) (Fr.refl _ _))
theorem wpList_mkfullG (hE : El T E z by_) (y : α) (hy : f y = z) {w : World} {ops : Array Oper} {rest : List Oper} {o : Oper} {a : Act} {Q : Exit → Act → World → Prop} (hgd : o.guard = none) (x c : Operand)
    (ho : o.op = .makeSlice T x c) (kl kc : IntKind) (C L : Int) (n : Nat) (hx : a.eval x = .int kl L) (hc : a.eval c = .int kc C) (hL : L = (n : Int)) (hC : C = (n : Int)) (hn : n ≤ 1099511627776)
    (h : ∀ w', Ow f E w' w.heap.size (.slice (some ⟨w.heap.size, 0, none⟩) n n) (List.replicate n y) → Fr Non w w' → wpList Tryz.prog ops Q rest (a.put o.dst (.slice (some ⟨w.heap.size, 0, none⟩) n n)) w') : wpList Tryz.prog ops Q (o :: rest) a w := by
  obtain ⟨i, hi, hz0, hz1, hz2⟩ := info_parts hE.info
  have hs' := hE.small
  have hbl : by_ * n ≤ 70368744177664 := by
    have := Nat.mul_le_mul hs' hn
    omega
  refine wpList_make_full w hgd x c T ho w.heap.size E i z 1 hE.under hi hz0 hz1 kl kc L C n hx hc hL hC (by rw [hz2]; omega) (by unfold maxLen; omega) (Nat.le_refl _) ?_
  intro w' h1 h2
  refine h _ ?_ ((Fr.of_grown h2).mono fun k _ e => by cases e)
  unfold Ow
  rw [hE.cells, Nat.mul_one, toList_madeCells_one] at h1
  rw [List.length_replicate, List.map_replicate, hy]
  exact h1
theorem slice_loG (hE : El T E z by_) (A : Option Addr) (n c k : Nat) (kl : IntKind) (y : Int) (hy : y = (k : Int)) (hk : k ≤ n) (hn : n ≤ c) :
    ∃ A' c', (∀ W, (Instr.slice T (.slice A n c) (some (.int kl y)) none none).run Tryz.prog W = .ok (.slice A' (n - k) c') W) ∧
      (∀ {α : Type} (f : α → Value) W (l : List α), l.length = n → Vs f W (.slice A n c) l → Vs f W (.slice A' (n - k) c') (l.drop k)) ∧ (Value.slice A' (n - k) c').ownBlock = (Value.slice A n c).ownBlock := by
  subst hy
  refine ⟨if c = k then A else A.map (·.add k), c - k, fun W => ?_, ?_, ?_⟩
  · rw [run_slice_any W T A n c (by rw [hE.elem]; exact hE.under)]
    have hb : (Instr.sliceBounds true n c (some (.int kl (k : Int))) none none).run Tryz.prog W = .ok (k, n, c) W := by
      simp [Instr.sliceBounds, run_sliceBound, hk, hn]
    rw [hb]
    simp only [Result.andThen_ok, hE.sz]
    simp [sliced]
  · rintro α f W l hl ⟨A0, c0, he, h1, h2, h3⟩
    simp only [Value.slice.injEq] at he
    obtain ⟨rfl, hl', rfl⟩ := he
    refine ⟨if c = k then A else A.map (·.add k), c - k, by rw [List.length_drop, hl], by rw [List.length_drop]; omega, fun e => ?_, fun a ha j hj => ?_⟩
    · split at e
      · have := h2 e; omega
      · have := h2 (by simpa using e); omega
    · rw [List.length_drop] at hj
      rw [if_neg (by omega)] at ha
      cases A with
      | none => cases ha
      | some b =>
        obtain rfl : b.add k = a := by simpa using ha
        rw [add_add, h3 b rfl (k + j) (by omega)]
        simp
  · split
    · cases A <;> rfl
    · cases A <;> simp [Value.ownBlock, add_block]
theorem slice_hiG (hE : El T E z by_) (A : Option Addr) (n c k : Nat) (kl : IntKind) (y : Int) (hy : y = (k : Int)) (hk : k ≤ n) (hn : n ≤ c) :
    ∃ A' c', (∀ W, (Instr.slice T (.slice A n c) none (some (.int kl y)) none).run Tryz.prog W = .ok (.slice A' k c') W) ∧
      (∀ {α : Type} (f : α → Value) W (l : List α), l.length = n → Vs f W (.slice A n c) l → Vs f W (.slice A' k c') (l.take k)) ∧ (Value.slice A' k c').ownBlock = (Value.slice A n c).ownBlock := by
  subst hy
  refine ⟨if c = 0 then A else A.map (·.add 0), c, fun W => ?_, ?_, ?_⟩
  · rw [run_slice_any W T A n c (by rw [hE.elem]; exact hE.under)]
    have hb : (Instr.sliceBounds true n c none (some (.int kl (k : Int))) none).run Tryz.prog W = .ok (0, k, c) W := by
      simp [Instr.sliceBounds, run_sliceBound, show (k : Int) ≤ c by omega]
    rw [hb]
    simp only [Result.andThen_ok, hE.sz]
    simp [sliced]
  · rintro α f W l hl ⟨A0, c0, he, h1, h2, h3⟩
    simp only [Value.slice.injEq] at he
    obtain ⟨rfl, hl', rfl⟩ := he
    refine ⟨if c = 0 then A else A.map (·.add 0), c, by rw [List.length_take, hl, Nat.min_eq_left hk], by rw [List.length_take]; omega, fun e => ?_, fun a ha j hj => ?_⟩
    · split at e
      · have := h2 e; omega
      · have := h2 (by simpa using e); omega
    · rw [List.length_take] at hj
      rw [if_neg (by omega)] at ha
      cases A with
      | none => cases ha
      | some b =>
        obtain rfl : b.add 0 = a := by simpa using ha
        rw [add_add, h3 b rfl (0 + j) (by omega)]
        simp
  · split
    · cases A <;> rfl
    · cases A <;> simp [Value.ownBlock, add_block]
end
def tv (b : Bool) : Value := .bool b
theorem iv_oneC (n : Int) : (iv n).oneCell' = true := rfl
theorem el_bool : El 106 4 (.bool false) 1 := ⟨Tryz.underlying106, by kernel_rfl, rfl, by decide, by kernel_rfl, fun _ => by kernel_rfl⟩
theorem el_int : El 44 3 (.int .i64 0) 8 := ⟨Tryz.underlying44, by kernel_rfl, rfl, by decide, by kernel_rfl, fun _ => by kernel_rfl⟩
theorem Bs.vs {w : World} {v : Value} {l : List UInt8} (h : Bs w v l) : Vs bv w v l := h
theorem Vs.bs {w : World} {v : Value} {l : List UInt8} (h : Vs bv w v l) : Bs w v l := h
theorem Ow.own {w : World} {B : Nat} {v : Value} {l : List UInt8} (h : Ow bv 5 w B v l) : Own w B v l := h
end Go.Proofs.YtjcfjjhhbcgcmaaGreat

namespace Go.Proofs.YtjcfjjhhbcgcmaaGreat
def rd (i acc : Nat) : List UInt8 → Option (Nat × List UInt8)
  | [] => none
  | c :: r => if (i = 9 ∧ 1 < c.toNat) ∨ (0 < i ∧ c.toNat = 0) then none else if c.toNat < 128 then some (acc + c.toNat * 128 ^ i, r) else rd (i + 1) (acc + (c.toNat - 128) * 128 ^ i) r
end Go.Proofs.YtjcfjjhhbcgcmaaGreat

namespace Go.Proofs.YtjcfjjhhbcgcmaaGreat
abbrev Tx := List UInt8
theorem bless : ∀ (x y : Tx), Op.bytesLess x y = decide (x < y)
  | x, [] => by cases x <;> simp [Op.bytesLess]
  | [], b :: y => by simp [Op.bytesLess]
  | a :: x, b :: y => by
    rw [Op.bytesLess, bless x y, Bool.eq_iff_iff]
    simp [List.cons_lt_cons_iff]
def cmpT (x y : Tx) : Int := if x < y then -1 else if y < x then 1 else 0
def cmpI (x y : Int) : Int := if x < y then -1 else if y < x then 1 else 0
theorem tx_tri (x y : Tx) : x < y ∨ x = y ∨ y < x := by
  by_cases h1 : x < y
  · exact .inl h1
  · by_cases h2 : y < x
    · exact .inr (.inr h2)
    · exact .inr (.inl (List.le_antisymm (List.not_lt.1 h2) (List.not_lt.1 h1)))
theorem cmpT_lt {x y : Tx} (h : x < y) : cmpT x y = -1 := by unfold cmpT; rw [if_pos h]
theorem cmpT_gt {x y : Tx} (h : y < x) : cmpT x y = 1 := by
  unfold cmpT; rw [if_neg (fun e => List.lt_irrefl x (List.lt_trans e h)), if_pos h]
theorem cmpT_self (x : Tx) : cmpT x x = 0 := by unfold cmpT; rw [if_neg (List.lt_irrefl x), if_neg (List.lt_irrefl x)]
theorem cmpT_neg (x y : Tx) : cmpT y x = -cmpT x y := by
  rcases tx_tri x y with h | h | h
  · rw [cmpT_lt h, cmpT_gt h]; rfl
  · subst h; rw [cmpT_self]; rfl
  · rw [cmpT_lt h, cmpT_gt h]
theorem cmpT_zero {x y : Tx} : cmpT x y = 0 ↔ x = y := by
  rcases tx_tri x y with h | h | h
  · rw [cmpT_lt h]; exact ⟨fun e => by omega, fun e => absurd (e ▸ h) (List.lt_irrefl _)⟩
  · subst h; simp [cmpT_self]
  · rw [cmpT_gt h]; exact ⟨fun e => by omega, fun e => absurd (e ▸ h) (List.lt_irrefl _)⟩
theorem cmpT_le {x y : Tx} : cmpT x y ≤ 0 ↔ ¬ y < x := by
  rcases tx_tri x y with h | h | h
  · rw [cmpT_lt h]; exact ⟨fun _ e => List.lt_irrefl x (List.lt_trans h e), fun _ => by omega⟩
  · subst h; simp [cmpT_self, List.lt_irrefl]
  · rw [cmpT_gt h]; simp [h]
theorem cmpT_trans {x y z : Tx} (h1 : cmpT x y ≤ 0) (h2 : cmpT y z ≤ 0) : cmpT x z ≤ 0 := by
  rw [cmpT_le] at *
  exact fun h => h2 (by
    rcases tx_tri x y with h3 | h3 | h3
    · exact List.lt_trans h h3
    · subst h3; exact h
    · exact absurd h3 h1)
end Go.Proofs.YtjcfjjhhbcgcmaaGreat

namespace Go.Proofs.YtjcfjjhhbcgcmaaGreat
open Go.RowKit
structure Cl where
  null : Bool
  num : Int
  txt : List UInt8
  deriving DecidableEq
def clC (c : Cl) : Array Value := #[.bool c.null, .int .i64 c.num, .string ⟨c.txt.toArray⟩]
def clV (c : Cl) : Value := .agg (clC c)
def ceq (a b : Cl) : Bool := decide (a = b)
theorem ceq_self (a : Cl) : ceq a a = true := by simp [ceq]
theorem ceq_is {a b : Cl} (h : ceq a b = true) : a = b := by simpa [ceq] using h
theorem eq_parts (a b : Cl) : ceq a b = (a.null == b.null && (a.num == b.num && a.txt == b.txt)) := by
  obtain ⟨an, ai, at_⟩ := a
  obtain ⟨bn, bi, bt⟩ := b
  unfold ceq
  rw [Bool.eq_iff_iff]
  simp
theorem run_eql_cl (W : World) (a b : Cl) : (binOp .eql 25 (.agg #[.bool a.null, .int .i64 a.num, .string ⟨a.txt.toArray⟩]) (.agg #[.bool b.null, .int .i64 b.num, .string ⟨b.txt.toArray⟩])).run Tryz.prog W = .ok (.bool (ceq a b)) W := by
  rw [eq_parts]
  obtain ⟨an, ai, at_⟩ := a
  obtain ⟨bn, bi, bt⟩ := b
  go_simp
  by_cases h1 : an = bn <;> by_cases h2 : ai = bi <;> by_cases h3 : at_ = bt <;> simp [h1, h2, h3]
theorem run_neq_cl (W : World) (a b : Cl) : (binOp .neq 25 (.agg #[.bool a.null, .int .i64 a.num, .string ⟨a.txt.toArray⟩]) (.agg #[.bool b.null, .int .i64 b.num, .string ⟨b.txt.toArray⟩])).run Tryz.prog W = .ok (.bool (!ceq a b)) W := by
  rw [eq_parts]
  obtain ⟨an, ai, at_⟩ := a
  obtain ⟨bn, bi, bt⟩ := b
  go_simp
  by_cases h1 : an = bn <;> by_cases h2 : ai = bi <;> by_cases h3 : at_ = bt <;> simp [h1, h2, h3]
theorem csame_any (a b : Cl) (w : World) : Calls Tryz.prog 115 #[clV a, clV b] w fun e w' => e = .returned (.bool (ceq a b)) ∧ Fr Non w w' := by
  have h := fun W => run_eql_cl W a b
  unfold clV clC
  go_enter Tryz.func115, Tryz.ntmps115
  go_wp2
  go_ret
  exact ⟨rfl, ((Fr.refl _ _).alloc _).alloc _⟩
def isTy (ty : Int) : Bool := ty == 1 || ty == 2 || ty == 3
def mayC (ty : Int) (nl : Bool) (c : Cl) : Bool :=
  isTy ty && (if c.null then nl && (c.num == 0 && c.txt.isEmpty) else if ty = 3 then c.num == 0 && decide (c.txt.length ≤ 40) else c.txt.isEmpty && (ty == 1 || (c.num == 0 || c.num == 1)))
theorem istype_any (ty : Int) (w : World) : Calls Tryz.prog 114 #[.int .i64 ty] w fun e w' => e = .returned (.bool (isTy ty)) ∧ w = w' := by
  go_enter Tryz.func114, Tryz.ntmps114
  go_wp2
  all_goals
    go_ret
    exact ⟨ret_boolE (by simp_all [isTy]), rfl⟩
theorem slen (l : List UInt8) : ByteArray.size ⟨l.toArray⟩ = l.length := by simp [ByteArray.size]
theorem mayC_no {ty : Int} (h1 : ¬ ty = 1) (h2 : ¬ ty = 2) (h3 : ¬ ty = 3) (nl : Bool) (c : Cl) : mayC ty nl c = false := by
  simp [mayC, isTy, h1, h2, h3]
theorem mayC_null (ty : Int) (nl : Bool) (i : Int) (t : Tx) : mayC ty nl ⟨true, i, t⟩ = (nl && (isTy ty && ceq ⟨true, i, t⟩ ⟨true, 0, []⟩)) := by
  rw [eq_parts]
  unfold mayC
  cases isTy ty <;> cases nl <;> cases t <;> simp
set_option maxHeartbeats 1000000 in
theorem may_any (ty : Int) (nl : Bool) (c : Cl) (w : World) : Calls Tryz.prog 91 #[.int .i64 ty, .bool nl, clV c] w fun e w' => e = .returned (.bool (mayC ty nl c)) ∧ Fr Non w w' := by
  obtain ⟨n, i, t⟩ := c
  unfold clV clC
  cases n
  · have hs := slen t
    by_cases h1 : ty = 1
    · subst h1
      go_enter Tryz.func91, Tryz.ntmps91
      go_wp2
      all_goals
        go_ret
        exact ⟨ret_boolE (by first | rfl | (simp [mayC, isTy]; done) | (simp_all [mayC, isTy]; done) | (simp_all [mayC, isTy] <;> omega)), (Fr.refl _ _).alloc _⟩
    · by_cases h2 : ty = 2
      · subst h2
        go_enter Tryz.func91, Tryz.ntmps91
        go_wp2
        all_goals
          go_ret
          exact ⟨ret_boolE (by first | rfl | (simp [mayC, isTy]; done) | (simp_all [mayC, isTy]; done) | (simp_all [mayC, isTy] <;> omega)), (Fr.refl _ _).alloc _⟩
      · by_cases h3 : ty = 3
        · subst h3
          go_enter Tryz.func91, Tryz.ntmps91
          go_wp2
          all_goals
            go_ret
            exact ⟨ret_boolE (by first | rfl | (simp [mayC, isTy]; done) | (simp_all [mayC, isTy]; done) | (simp_all [mayC, isTy] <;> omega)), (Fr.refl _ _).alloc _⟩
        · have H := Lib.hid (mayC_no h1 h2 h3 nl ⟨false, i, t⟩)
          go_enter Tryz.func91, Tryz.ntmps91
          go_wp2
          go_ret
          exact ⟨ret_boolE H.out.symm, (Fr.refl _ _).alloc _⟩
  · have H := Lib.hid (mayC_null ty nl i t)
    cases nl
    · go_enter Tryz.func91, Tryz.ntmps91
      go_wp2
      go_ret
      exact ⟨ret_boolE (by rw [H.out]; rfl), (Fr.refl _ _).alloc _⟩
    · cases hT : isTy ty with
      | false =>
        have h0 := fun W => istype_any ty W
        simp only [hT] at h0
        have HT := Lib.hid hT
        clear hT
        go_enter Tryz.func91, Tryz.ntmps91
        go_wp2_with fail
        refine (h0 _).mono ?_
        rintro e w1 ⟨rfl, rfl⟩
        go_wp2
        go_ret
        exact ⟨ret_boolE (by rw [H.out, HT.out]; rfl), (Fr.refl _ _).alloc _⟩
      | true =>
        have h0 := fun W => istype_any ty W
        simp only [hT] at h0
        have HT := Lib.hid hT
        clear hT
        go_enter Tryz.func91, Tryz.ntmps91
        go_wp2_with fail
        refine (h0 _).mono ?_
        rintro e w1 ⟨rfl, rfl⟩
        go_wp2_with fail
        refine (csame_any ⟨true, i, t⟩ ⟨true, 0, []⟩ _).mono ?_
        rintro e w1 ⟨rfl, hf1⟩
        go_wp2
        go_ret
        exact ⟨ret_boolE (by rw [H.out, HT.out]; rfl), ((Fr.refl _ _).alloc _).trans hf1⟩
set_option maxHeartbeats 1000000 in
theorem rmay_any (ty : Int) (nl : Bool) (c : Cl) (w : World) : Calls Tryz.prog 16 #[.int .i64 ty, .bool nl, clV c] w fun e w' => e = .returned (.bool (mayC ty nl c)) ∧ Fr Non w w' := by
  obtain ⟨n, i, t⟩ := c
  unfold clV clC
  by_cases h0 : ty < 1
  · have H := Lib.hid (mayC_no (ty := ty) (by omega) (by omega) (by omega) nl ⟨n, i, t⟩)
    go_enter Tryz.func16, Tryz.ntmps16
    go_wp2
    go_ret
    exact ⟨ret_boolE H.out.symm, (Fr.refl _ _).alloc _⟩
  · by_cases h4 : 3 < ty
    · have H := Lib.hid (mayC_no (ty := ty) (by omega) (by omega) (by omega) nl ⟨n, i, t⟩)
      go_enter Tryz.func16, Tryz.ntmps16
      go_wp2
      go_ret
      exact ⟨ret_boolE H.out.symm, (Fr.refl _ _).alloc _⟩
    · have hs := slen t
      have h3 : ty = 1 ∨ ty = 2 ∨ ty = 3 := by omega
      clear h0 h4
      cases n
      · rcases h3 with h | h | h
        · subst h
          go_enter Tryz.func16, Tryz.ntmps16
          go_wp2
          all_goals
            go_ret
            exact ⟨ret_boolE (by first | rfl | (simp [mayC, isTy]; done) | (simp_all [mayC, isTy]; done) | (simp_all [mayC, isTy] <;> omega)), (Fr.refl _ _).alloc _⟩
        · subst h
          go_enter Tryz.func16, Tryz.ntmps16
          go_wp2
          all_goals
            go_ret
            exact ⟨ret_boolE (by first | rfl | (simp [mayC, isTy]; done) | (simp_all [mayC, isTy]; done) | (simp_all [mayC, isTy] <;> omega)), (Fr.refl _ _).alloc _⟩
        · subst h
          go_enter Tryz.func16, Tryz.ntmps16
          go_wp2
          all_goals
            go_ret
            exact ⟨ret_boolE (by first | rfl | (simp [mayC, isTy]; done) | (simp_all [mayC, isTy]; done) | (simp_all [mayC, isTy] <;> omega)), (Fr.refl _ _).alloc _⟩
      · have hT : isTy ty = true := by rcases h3 with rfl | rfl | rfl <;> rfl
        have hl : ¬ ty < 1 := by omega
        have hg : ¬ 3 < ty := by omega
        clear h3
        cases nl
        · go_enter Tryz.func16, Tryz.ntmps16
          go_wp2
          all_goals
            go_ret
            exact ⟨ret_boolE (by first | (simp [mayC, hT]; done) | (simp_all [mayC]; done)), (Fr.refl _ _).alloc _⟩
        · go_enter Tryz.func16, Tryz.ntmps16
          go_wp2
          all_goals
            go_ret
            exact ⟨ret_boolE (by first | (simp [mayC, hT]; done) | (simp_all [mayC]; done)), (Fr.refl _ _).alloc _⟩
end Go.Proofs.YtjcfjjhhbcgcmaaGreat

namespace Go.Proofs.YtjcfjjhhbcgcmaaGreat
open Go.RowKit
abbrev ClB (w : World) (g : Nat) (c : Cl) : Prop := Blk w g 25 #[.bool c.null, .int .i64 c.num, .string ⟨c.txt.toArray⟩]
theorem ClB.facts {w : World} {g : Nat} {c : Cl} (h : ClB w g c) :
    w.cell? ⟨g, 0, none⟩ = some (.bool c.null) ∧ w.cell? ⟨g, 1, none⟩ = some (.int .i64 c.num) ∧ w.cell? ⟨g, 2, none⟩ = some (.string ⟨c.txt.toArray⟩) ∧
    w.frozen? ⟨g, 0, none⟩ = false ∧ w.frozen? ⟨g, 1, none⟩ = false ∧ w.frozen? ⟨g, 2, none⟩ = false :=
  ⟨h.cell 0, h.cell 1, h.cell 2, h.frozen 0, h.frozen 1, h.frozen 2⟩
def setCl (w : World) (g : Nat) (n : Bool) (i : Int) (t : List UInt8) : World := ((w.setCell ⟨g, 0, none⟩ (.bool n)).setCell ⟨g, 1, none⟩ (.int .i64 i)).setCell ⟨g, 2, none⟩ (.string ⟨t.toArray⟩)
theorem setCl_B {w : World} {g : Nat} {c : Cl} (h : ClB w g c) (n : Bool) (i : Int) (t : List UInt8) : ClB (setCl w g n i t) g ⟨n, i, t⟩ := ((h.set 0 _).set 1 _).set 2 _
theorem setCl_fr (w : World) (g : Nat) (n : Bool) (i : Int) (t : List UInt8) : Fr (One g) w (setCl w g n i t) := (((Fr.refl (One g) w).set1 0 _).set1 1 _).set1 2 _
theorem ret_cl {fn : Func} {p : Tmp} (h : fn.results = #[.cell p 25]) (tmps : Array Value) (w : World) (g : Nat) (c : Cl)
    (hp : tmps.getD p undef = .pointer (some ⟨g, 0, none⟩)) (hg : ClB w g c) : (results fn tmps).run Tryz.prog w = .ok (clV c) w :=
  results_cell_row h tmps w g 25 _ (0, 0) _ hp hg Tryz.underlying25 rfl (by kernel_rfl)
theorem cl_new (w : World) (c : Cl) : ClB (w.alloc (.cells #[.bool c.null, .int .i64 c.num, .string ⟨c.txt.toArray⟩] 25)) w.heap.size c := Blk.new _ _ _
end Go.Proofs.YtjcfjjhhbcgcmaaGreat

namespace Go.Proofs.YtjcfjjhhbcgcmaaGreat
open Go.RowKit
def clL (c : Cl) : List Value := [.bool c.null, .int .i64 c.num, .string ⟨c.txt.toArray⟩]
def clsL (l : List Cl) : List Value := l.flatMap clL
theorem clsL_cons (c : Cl) (l : List Cl) : clsL (c :: l) = clL c ++ clsL l := by simp [clsL]
theorem clsL_app (l m : List Cl) : clsL (l ++ m) = clsL l ++ clsL m := by simp [clsL]
theorem clsL_one (c : Cl) : clsL [c] = clL c := by simp [clsL]
theorem clsL_len (l : List Cl) : (clsL l).length = l.length * 3 := by
  induction l with
  | nil => rfl
  | cons c l ih => rw [clsL_cons, List.length_append, ih, List.length_cons]; simp [clL]; omega
theorem clsL_at (l : List Cl) (j : Nat) (i : Nat) (hj : j < l.length) (hi : i < 3) : (clsL l)[j * 3 + i]? = (clL l[j])[i]? := by
  induction l generalizing j with
  | nil => cases hj
  | cons c l ih =>
    rw [clsL_cons]
    cases j with
    | zero => rw [List.getElem?_append_left (by simp [clL]; omega)]; simp
    | succ j =>
      rw [List.getElem?_append_right (by simp [clL]; omega)]
      rw [show (j + 1) * 3 + i - (clL c).length = j * 3 + i by simp [clL]; omega]
      exact ih j (by simpa using hj)
theorem clsL_one' (l : List Cl) : ∀ u ∈ clsL l, u.oneCell' = true := by
  intro u hu
  obtain ⟨c, _, hc⟩ := List.mem_flatMap.1 hu
  simp [clL] at hc
  rcases hc with rfl | rfl | rfl <;> rfl
theorem clsL_set (l : List Cl) (j : Nat) (c : Cl) (hj : j < l.length) : clsL (l.set j c) = (((clsL l).set (j * 3) (.bool c.null)).set (j * 3 + 1) (.int .i64 c.num)).set (j * 3 + 2) (.string ⟨c.txt.toArray⟩) := by
  induction l generalizing j with
  | nil => cases hj
  | cons d l ih =>
    cases j with
    | zero => simp [clsL_cons, clL]
    | succ j =>
      rw [List.set_cons_succ, clsL_cons, clsL_cons, ih j (by simpa using hj)]
      rw [show (j + 1) * 3 = 3 + j * 3 by omega]
      have e : ∀ (k : Nat) (u : Value) (m : List Value), (clL d ++ m).set (3 + k) u = clL d ++ m.set k u := fun k u m => by
        rw [List.set_append_right _ _ (by simp [clL] <;> omega)]
        congr 2
        simp [clL] <;> omega
      rw [e, show 3 + j * 3 + 1 = 3 + (j * 3 + 1) by omega, e, show 3 + j * 3 + 2 = 3 + (j * 3 + 2) by omega, e]
structure At3 (w : World) (a : Addr) (c : Cl) : Prop where
  c0 : w.cell? a = some (.bool c.null)
  c1 : w.cell? (a.add 1) = some (.int .i64 c.num)
  c2 : w.cell? (a.add 2) = some (.string ⟨c.txt.toArray⟩)
def Cs (w : World) (v : Value) (l : List Cl) : Prop :=
  ∃ A c, v = .slice A l.length c ∧ l.length ≤ c ∧ (A = none → c = 0) ∧ ∀ a, A = some a → ∀ j (h : j < l.length), At3 w (a.add (j * 3)) l[j]
def Oc (w : World) (B : Nat) (v : Value) (l : List Cl) : Prop := w.ownsRow B 25 3 v l.length (clsL l)
theorem At3.keep {w w' : World} {a : Addr} {c : Cl} (h : At3 w a c) (hk : w'.heap[a.block]? = w.heap[a.block]?) : At3 w' a c := by
  obtain ⟨h0, h1, h2⟩ := h
  exact ⟨by rw [← h0]; exact World.cell?_of_block hk, by rw [← h1]; exact World.cell?_of_block (by rw [add_block]; exact hk), by rw [← h2]; exact World.cell?_of_block (by rw [add_block]; exact hk)⟩
theorem Cs.nil_ (w : World) : Cs w (.slice none 0 0) [] := ⟨none, 0, rfl, Nat.le_refl _, fun _ => rfl, fun _ h => by cases h⟩
theorem Cs.keep {w w' : World} {v : Value} {l : List Cl} (h : Cs w v l) (hk : ∀ k, v.ownBlock = some k → k < w.heap.size → w'.heap[k]? = w.heap[k]?) : Cs w' v l := by
  obtain ⟨A, c, rfl, h1, h2, h3⟩ := h
  refine ⟨A, c, rfl, h1, h2, fun a ha j hj => ?_⟩
  have := h3 a ha j hj
  subst ha
  have hb := World.block_lt_of_cell? w _ this.c0
  refine this.keep ?_
  rw [add_block] at hb ⊢
  exact hk _ rfl hb
theorem Cs.fr {S : Nat → Prop} {w w' : World} {v : Value} {l : List Cl} (h : Cs w v l) (hf : Fr S w w') (hn : ∀ k, v.ownBlock = some k → ¬ S k) : Cs w' v l :=
  h.keep fun k hk hlt => hf.block k hlt (hn k hk)
theorem Cs.non {w w' : World} {v : Value} {l : List Cl} (h : Cs w v l) (hf : Fr Non w w') : Cs w' v l := h.fr hf fun _ _ e => e
theorem Cs.drew {w : World} {v : Value} {l : List Cl} (h : Cs w v l) : Cs w.drew v l := h.keep fun _ _ _ => rfl
theorem Cs.shape {w : World} {v : Value} {l : List Cl} (h : Cs w v l) : ∃ A c, v = .slice A l.length c := by
  obtain ⟨A, c, rfl, _⟩ := h; exact ⟨A, c, rfl⟩
theorem Cs.addr {w : World} {A : Option Addr} {n c : Nat} {l : List Cl} (h : Cs w (.slice A n c) l) (hl : 0 < n) : ∃ a, A = some a ∧ n = l.length ∧ n ≤ c ∧ ∀ j (h : j < l.length), At3 w (a.add (j * 3)) l[j] := by
  obtain ⟨A0, c0, he, h1, h2, h3⟩ := h
  simp only [Value.slice.injEq] at he
  obtain ⟨rfl, rfl, rfl⟩ := he
  cases A with
  | none => have := h2 rfl; omega
  | some a => exact ⟨a, rfl, rfl, h1, h3 a rfl⟩
theorem Cs.el {w : World} {a : Addr} {n c : Nat} {l : List Cl} (h : Cs w (.slice (some a) n c) l) (j : Nat) (x : Cl) (hx : l[j]? = some x) :
    w.cell? (a.add (j * 3)) = some (.bool x.null) ∧ w.cell? ((a.add (j * 3)).add 1) = some (.int .i64 x.num) ∧ w.cell? ((a.add (j * 3)).add 2) = some (.string ⟨x.txt.toArray⟩) := by
  obtain ⟨A0, c0, he, h1, h2, h3⟩ := h
  simp only [Value.slice.injEq] at he
  obtain ⟨rfl, rfl, rfl⟩ := he
  obtain ⟨hj, rfl⟩ := List.getElem?_eq_some_iff.1 hx
  have := h3 a rfl j hj
  exact ⟨this.c0, this.c1, this.c2⟩
theorem Fr.at3 {w w' : World} {a : Addr} {c : Cl} (hf : Fr Non w w') (h : At3 w a c) : At3 w' a c :=
  h.keep (hf.block _ (World.block_lt_of_cell? w _ h.c0) (fun e => e))
theorem At3.lit {w : World} {a : Addr} {c : Cl} (h : At3 w a c) : w.cell? a = some (.bool c.null) ∧ w.cell? { block := a.block, off := a.off + 1 } = some (.int .i64 c.num) ∧ w.cell? { block := a.block, off := a.off + 2 } = some (.string ⟨c.txt.toArray⟩) := ⟨h.c0, h.c1, h.c2⟩
theorem oc_nil (w : World) (B : Nat) : Oc w B (.slice none 0 0) [] := ⟨by simp [clsL], .inl ⟨rfl, rfl⟩⟩
theorem Oc.lt {w : World} {B : Nat} {v : Value} {l : List Cl} (h : Oc w B v l) : ∀ k, v.ownBlock = some k → B ≤ k ∧ k < w.heap.size := World.ownsRow.lt h
theorem Oc.cs {w : World} {B : Nat} {v : Value} {l : List Cl} (h : Oc w B v l) : Cs w v l := by
  rcases h.2 with ⟨rfl, h0⟩ | ⟨g, cap, cur, rfl, _, _, hle, _, _, _⟩
  · have hl : l = [] := List.eq_nil_of_length_eq_zero h0
    subst hl; exact Cs.nil_ w
  · refine ⟨_, cap, rfl, hle, (fun h => by cases h), fun a ha j hj => ?_⟩
    cases ha
    have H := fun i hi => World.ownsRow.cells h (g := g) rfl (j * 3 + i) _ ((clsL_at l j i hj hi).trans (List.getElem?_eq_getElem (by simp [clL]; omega)))
    refine ⟨?_, ?_, ?_⟩
    · have := H 0 (by omega); simpa [clL] using this
    · rw [add_add]; have := H 1 (by omega); simpa [clL] using this
    · rw [add_add]; have := H 2 (by omega); simpa [clL] using this
theorem Oc.shape {w : World} {B : Nat} {v : Value} {l : List Cl} (h : Oc w B v l) : ∃ A c, v = .slice A l.length c := h.cs.shape
theorem Oc.keep {w w' : World} {B : Nat} {v : Value} {l : List Cl} (h : Oc w B v l) (hk : ∀ k, v.ownBlock = some k → w'.heap[k]? = w.heap[k]?) : Oc w' B v l := by
  refine ⟨h.1, ?_⟩
  rcases h.2 with h2 | ⟨g, cap, cur, hv, hb, hg, r⟩
  · exact .inl h2
  · exact .inr ⟨g, cap, cur, hv, hb, by rw [hk g (by rw [hv]; rfl)]; exact hg, r⟩
theorem Oc.fr {S : Nat → Prop} {w w' : World} {B : Nat} {v : Value} {l : List Cl} (h : Oc w B v l) (hf : Fr S w w') (hn : ∀ k, v.ownBlock = some k → ¬ S k) : Oc w' B v l :=
  h.keep fun k hk => hf.block k (h.lt k hk).2 (hn k hk)
theorem Oc.non {w w' : World} {B : Nat} {v : Value} {l : List Cl} (h : Oc w B v l) (hf : Fr Non w w') : Oc w' B v l := h.fr hf fun _ _ e => e
theorem Oc.alloc {w : World} {B : Nat} {v : Value} {l : List Cl} (h : Oc w B v l) (o : Obj) : Oc (w.alloc o) B v l := h.non ((Fr.refl _ _).alloc o)
theorem Oc.drew {w : World} {B : Nat} {v : Value} {l : List Cl} (h : Oc w B v l) : Oc w.drew B v l := h
theorem Oc.mono {w : World} {B B' : Nat} {v : Value} {l : List Cl} (h : Oc w B v l) (hB : B' ≤ B) : Oc w B' v l := by
  refine ⟨h.1, ?_⟩
  rcases h.2 with h2 | ⟨g, cap, cur, hv, hb, r⟩
  · exact .inl h2
  · exact .inr ⟨g, cap, cur, hv, by omega, r⟩
theorem Oc.kind {w : World} {B : Nat} {v : Value} {l : List Cl} (h : Oc w B v l) : ∀ k, v.ownBlock = some k → ∃ cur, w.heap[k]? = some (.cells cur 25 (0, 0)) := by
  intro k hk
  rcases h.2 with ⟨rfl, _⟩ | ⟨g, cap, cur, rfl, _, hg, _⟩
  · cases hk
  · obtain rfl : g = k := by simpa [Value.ownBlock] using hk
    exact ⟨cur, hg⟩
theorem Oc.row {w : World} {B : Nat} {v : Value} {l : List Cl} (h : Oc w B v l) (hn : 0 < l.length) : ∃ g cap, v = .slice (some ⟨g, 0, none⟩) l.length cap ∧ B ≤ g ∧ g < w.heap.size ∧ l.length ≤ cap ∧ cap ≤ maxLen := by
  rcases h.2 with ⟨rfl, h0⟩ | ⟨g, cap, cur, rfl, hb, hg, hle, hm, _⟩
  · omega
  · exact ⟨g, cap, rfl, hb, (Array.getElem?_eq_some_iff.1 hg).1, hle, hm⟩
theorem Oc.el {w : World} {B g n cap : Nat} {l : List Cl} (h : Oc w B (.slice (some ⟨g, 0, none⟩) n cap) l) (hn : n = l.length) (j : Nat) (x : Cl) (hx : l[j]? = some x) :
    w.cell? ⟨g, j * 3, none⟩ = some (.bool x.null) ∧ w.cell? ⟨g, j * 3 + 1, none⟩ = some (.int .i64 x.num) ∧ w.cell? ⟨g, j * 3 + 2, none⟩ = some (.string ⟨x.txt.toArray⟩) := by
  subst hn
  obtain ⟨hj, rfl⟩ := List.getElem?_eq_some_iff.1 hx
  refine ⟨?_, ?_, ?_⟩
  · rw [World.ownsRow.cellAt h (j * 3) (by omega)]; have := clsL_at l j 0 hj (by omega); simpa [clL] using this
  · rw [World.ownsRow.cellAt h (j * 3 + 1) (by omega)]; have := clsL_at l j 1 hj (by omega); simpa [clL] using this
  · rw [World.ownsRow.cellAt h (j * 3 + 2) (by omega)]; have := clsL_at l j 2 hj (by omega); simpa [clL] using this
theorem Oc.frozen {w : World} {B g n cap : Nat} {l : List Cl} (h : Oc w B (.slice (some ⟨g, 0, none⟩) n cap) l) (hn : n = l.length) (j : Nat) : w.frozen? ⟨g, j, none⟩ = false := by
  subst hn; exact World.ownsRow.frozenAt h j
theorem Oc.put3 {w : World} {B g n cap : Nat} {l : List Cl} (h : Oc w B (.slice (some ⟨g, 0, none⟩) n cap) l) (hn : n = l.length) (j : Nat) (hj : j < l.length) (c : Cl) :
    Oc (((w.setCell ⟨g, j * 3, none⟩ (.bool c.null)).setCell ⟨g, j * 3 + 1, none⟩ (.int .i64 c.num)).setCell ⟨g, j * 3 + 2, none⟩ (.string ⟨c.txt.toArray⟩)) B (.slice (some ⟨g, 0, none⟩) n cap) (l.set j c) := by
  subst hn
  unfold Oc
  rw [List.length_set, clsL_set l j c hj]
  exact (World.ownsRow.stored (World.ownsRow.stored (World.ownsRow.stored h (j * 3) _).1 (j * 3 + 1) _).1 (j * 3 + 2) _).1
theorem info_cl : (Tryz.prog.info? 25).map (fun i => (i.zero, i.size, i.bytes)) = some (some (.agg #[.bool false, .int .i64 0, .string ⟨#[]⟩]), 3, 32) := by kernel_rfl
theorem oc_lit0 (w : World) (B g : Nat) (hg : g = w.heap.size) (hB : B ≤ g) : Oc (w.alloc (.cells #[] 25)) B (.slice (some ⟨g, 0, none⟩) 0 0) [] := by
  subst hg
  exact World.ownsRow_lit w #[] 0 hB (by unfold maxLen; omega) rfl
theorem oc_lit (w : World) (B g : Nat) (l : List Cl) (cs : Array Value) (hcs : cs.toList = clsL l) (hg : g = w.heap.size) (hB : B ≤ g) (hm : l.length ≤ 1000000) : Oc (w.alloc (.cells cs 25)) B (.slice (some ⟨g, 0, none⟩) l.length l.length) l := by
  subst hg
  have h := World.ownsRow_lit (e := 25) (size := 3) w cs l.length hB (by unfold maxLen; omega) (by rw [← Array.length_toList, hcs, clsL_len])
  rw [hcs] at h
  exact h
theorem madeCls (n : Nat) : (madeCells #[.bool false, .int .i64 0, .string ⟨#[]⟩] (n * 3)).toList = clsL (List.replicate n ⟨false, 0, []⟩) := by
  refine List.ext_getElem? fun k => ?_
  by_cases hk : k < n * 3
  · have e := clsL_at (List.replicate n (⟨false, 0, []⟩ : Cl)) (k / 3) (k % 3) (by simp; omega) (Nat.mod_lt _ (by omega))
    rw [show k / 3 * 3 + k % 3 = k by omega] at e
    rw [e]
    simp only [madeCells, Array.toList_map, Array.toList_range, List.getElem?_map]
    rw [List.getElem?_range hk]
    have h3 : k % 3 = 0 ∨ k % 3 = 1 ∨ k % 3 = 2 := by omega
    rcases h3 with h | h | h <;> simp [clL, h]
  · rw [List.getElem?_eq_none_iff.2 (by simp [size_madeCells]; omega), List.getElem?_eq_none_iff.2 (by rw [clsL_len]; simp; omega)]
theorem wpList_mkC {w : World} {ops : Array Oper} {rest : List Oper} {o : Oper} {a : Act} {Q : Exit → Act → World → Prop} (hgd : o.guard = none) (x c : Operand)
    (ho : o.op = .makeSlice 47 x c) (kl kc : IntKind) (C L : Int) (n : Nat) (hx : a.eval x = .int kl L) (hc : a.eval c = .int kc C) (hL : L = (n : Int)) (hC : C = (n : Int)) (hn : n ≤ 1099511627776)
    (h : ∀ w', Oc w' w.heap.size (.slice (some ⟨w.heap.size, 0, none⟩) n n) (List.replicate n ⟨false, 0, []⟩) → Fr Non w w' → wpList Tryz.prog ops Q rest (a.put o.dst (.slice (some ⟨w.heap.size, 0, none⟩) n n)) w') : wpList Tryz.prog ops Q (o :: rest) a w := by
  obtain ⟨i, hi, hz0, hz1, hz2⟩ := info_parts info_cl
  refine wpList_make_full w hgd x c _ ho w.heap.size 25 i _ 3 Tryz.underlying47 hi hz0 hz1 kl kc L C n hx hc hL hC (by rw [hz2]; omega) (by unfold maxLen; omega) (Nat.le_refl _) ?_
  intro w' h1 h2
  refine h _ ?_ ((Fr.of_grown h2).mono fun k _ e => by cases e)
  unfold Oc
  rw [List.length_replicate, ← madeCls]
  exact h1
theorem wpList_pushC {w0 : World} {ops : Array Oper} {rest : List Oper} {o : Oper} {a : Act} {Q : Exit → Act → World → Prop} (hgd : o.guard = none) (s x : Operand)
    (ho : o.op = .call { callee := .builtin .append, args := #[s, x], argTypes := #[47, 47] })
    (B : Nat) (v : Value) (l : List Cl) (hs : a.eval s = v) (hown : Oc w0 B v l) (y : Cl) (b : Bool) (i : Int) (t : ByteArray) (hb : b = y.null) (hi : i = y.num) (ht : t = ⟨y.txt.toArray⟩) (g : Nat) (hx : a.eval x = .slice (some ⟨g, 0, none⟩) 1 1) (hg : g = w0.heap.size)
    (hl : l.length < 1099511627776) (hB : B ≤ w0.heap.size)
    (h : ∀ v' w', Oc w' B v' (l ++ [y]) → Fr (fun k => v.ownBlock = some k) w0 w' → wpList Tryz.prog ops Q rest (a.put o.dst v') w') :
    wpList Tryz.prog ops Q (o :: rest) a (w0.alloc (.cells #[.bool b, .int .i64 i, .string t] 25)) := by
  subst hb hi ht hg
  obtain ⟨ii, hi, hz0, hz1, hz2⟩ := info_parts info_cl
  have hbl := ((cl_new w0 y).facts)
  refine wpList_append_own _ hgd s x _ ho B 25 ii _ 3 32 Tryz.underlying47 hi hz0 hz1 hz2 rfl (by omega) v l.length (clsL l) hs (hown.alloc _) ⟨w0.heap.size, 0, none⟩ 1 1 (clL y) hx rfl ?_ ?_ (by unfold maxLen; omega) (by omega) (by simp; omega) ?_
  · intro j u hu
    rw [Addr.add_lit, Nat.zero_add]
    match j with
    | 0 => obtain rfl : _ = u := by simpa [clL] using hu
           exact hbl.1
    | 1 => obtain rfl : _ = u := by simpa [clL] using hu
           exact hbl.2.1
    | 2 => obtain rfl : _ = u := by simpa [clL] using hu
           exact hbl.2.2.1
    | j + 3 => simp [clL] at hu
  · intro u hu
    exact clsL_one' [y] u (by rw [clsL_one]; exact hu)
  · intro v' w' h1 h2 _
    refine h v' w' ?_ ?_
    · unfold Oc
      rw [clsL_app, clsL_one, List.length_append]
      exact h1
    · exact ((Fr.refl _ _).alloc _).join (Fr.of_grown h2) fun k hk e => e.symm ▸ rfl
end Go.Proofs.YtjcfjjhhbcgcmaaGreat

namespace Go.Proofs.YtjcfjjhhbcgcmaaGreat
open Go.RowKit
structure Sl where
  A : Option Addr
  n : Nat
  c : Nat
def slV (s : Sl) : Value := .slice s.A s.n s.c
def noSl : Sl := ⟨none, 0, 0⟩
theorem slV_one (s : Sl) : (slV s).oneCell' = true := rfl
theorem el_rows : El 32 47 (.slice none 0 0) 24 := ⟨Tryz.underlying32, by kernel_rfl, rfl, by decide, by kernel_rfl, fun _ => by kernel_rfl⟩
def Rs (w : World) (v : Value) (rs : List (List Cl)) : Prop := ∃ hs : List Sl, hs.length = rs.length ∧ Vs slV w v hs ∧ ∀ i (h : i < hs.length) (h2 : i < rs.length), Cs w (slV hs[i]) rs[i]
theorem Rs.non {w w' : World} {v : Value} {rs : List (List Cl)} (h : Rs w v rs) (hf : Fr Non w w') : Rs w' v rs := by
  obtain ⟨hs, h1, h2, h3⟩ := h
  exact ⟨hs, h1, h2.non hf, fun i a b => (h3 i a b).non hf⟩
theorem Rs.shape {w : World} {v : Value} {rs : List (List Cl)} (h : Rs w v rs) : ∃ A c, v = .slice A rs.length c := by
  obtain ⟨hs, h1, h2, _⟩ := h
  obtain ⟨A, c, e⟩ := h2.shape
  exact ⟨A, c, by rw [e, h1]⟩
theorem Rs.nil_ (w : World) : Rs w (.slice none 0 0) [] := ⟨[], rfl, Vs.nil_ w, fun i h => by cases h⟩
theorem Rs.el {w : World} {A : Option Addr} {n c : Nat} {rs : List (List Cl)} (h : Rs w (.slice A n c) rs) (j : Nat) (hj : j < rs.length) :
    ∃ a A' c', A = some a ∧ n = rs.length ∧ w.cell? (a.add j) = some (.slice A' rs[j].length c') ∧ Cs w (.slice A' rs[j].length c') rs[j] := by
  obtain ⟨hs, h1, h2, h3⟩ := h
  obtain ⟨A0, c0, he, _⟩ := h2
  have h2' : Vs slV w (.slice A n c) hs := ⟨A0, c0, he, by assumption⟩
  simp only [Value.slice.injEq] at he
  obtain ⟨rfl, rfl, rfl⟩ := he
  obtain ⟨a, rfl, _, _, hc⟩ := h2'.addr (by omega)
  have h4 := h3 j (by omega) hj
  obtain ⟨A', c', e⟩ := h4.shape
  have h5 := hc j (by omega)
  rw [e] at h4 h5
  exact ⟨a, A', c', rfl, h1, h5, h4⟩
def Ro (w : World) (B : Nat) (v : Value) (rs : List (List Cl)) : Prop := ∃ hs : List Sl, hs.length = rs.length ∧ Ow slV 47 w B v hs ∧ ∀ i (h : i < hs.length) (h2 : i < rs.length), Oc w B (slV hs[i]) rs[i]
theorem Ro.rs {w : World} {B : Nat} {v : Value} {rs : List (List Cl)} (h : Ro w B v rs) : Rs w v rs := by
  obtain ⟨hs, h1, h2, h3⟩ := h
  exact ⟨hs, h1, h2.vs, fun i a b => (h3 i a b).cs⟩
theorem Ro.non {w w' : World} {B : Nat} {v : Value} {rs : List (List Cl)} (h : Ro w B v rs) (hf : Fr Non w w') : Ro w' B v rs := by
  obtain ⟨hs, h1, h2, h3⟩ := h
  exact ⟨hs, h1, h2.non hf, fun i a b => (h3 i a b).non hf⟩
theorem Ro.mono {w : World} {B B' : Nat} {v : Value} {rs : List (List Cl)} (h : Ro w B v rs) (hB : B' ≤ B) : Ro w B' v rs := by
  obtain ⟨hs, h1, h2, h3⟩ := h
  exact ⟨hs, h1, h2.mono hB, fun i a b => (h3 i a b).mono hB⟩
theorem Ro.shape {w : World} {B : Nat} {v : Value} {rs : List (List Cl)} (h : Ro w B v rs) : ∃ A c, v = .slice A rs.length c := h.rs.shape
theorem ro_nil (w : World) (B : Nat) : Ro w B (.slice none 0 0) [] := ⟨[], rfl, ow_nil w B, fun i h => by cases h⟩
theorem Ro.frozen {w : World} {B g n cap : Nat} {rs : List (List Cl)} (h : Ro w B (.slice (some ⟨g, 0, none⟩) n cap) rs) (hn : n = rs.length) (j : Nat) : w.frozen? ⟨g, j, none⟩ = false := by
  obtain ⟨hs, h1, h2, h3⟩ := h
  exact h2.frozen (by omega) j
theorem Ro.lt {w : World} {B : Nat} {v : Value} {rs : List (List Cl)} (h : Ro w B v rs) : ∀ k, v.ownBlock = some k → B ≤ k ∧ k < w.heap.size := by
  obtain ⟨hs, h1, h2, h3⟩ := h
  exact h2.lt
theorem oc_kind_ne {w : World} {B g : Nat} {v : Value} {l : List Cl} {cur : Array Value} {E : TypeId} (h : Oc w B v l) (hg : w.heap[g]? = some (.cells cur E (0, 0))) (hE : 25 ≠ E) : ∀ k, v.ownBlock = some k → k ≠ g := by
  rintro k hk rfl
  obtain ⟨c, h1⟩ := h.kind k hk
  rw [hg] at h1
  simp at h1
  exact hE h1.2.symm
theorem cell_ne_cells : 25 ≠ 47 := by decide
theorem Ro.put {w : World} {B g n cap : Nat} {rs : List (List Cl)} (h : Ro w B (.slice (some ⟨g, 0, none⟩) n cap) rs) (hn : n = rs.length) (j : Nat) {u : Value} {l : List Cl} (hu : Oc w B u l) :
    Ro (w.setCell ⟨g, j, none⟩ u) B (.slice (some ⟨g, 0, none⟩) n cap) (rs.set j l) := by
  obtain ⟨hs, h1, h2, h3⟩ := h
  obtain ⟨A, c, rfl⟩ := hu.shape
  obtain ⟨cur, hg⟩ := h2.kind g rfl
  have hf : Fr (One g) w (w.setCell ⟨g, j, none⟩ (.slice A l.length c)) := (Fr.refl _ _).set1 j _
  refine ⟨hs.set j ⟨A, l.length, c⟩, by simp [h1], h2.store (by omega) j ⟨A, l.length, c⟩, fun i a b => ?_⟩
  simp only [List.getElem_set]
  split
  · exact hu.fr hf (oc_kind_ne hu hg cell_ne_cells)
  · have h4 := h3 i (by simpa using a) (by simpa using b)
    exact h4.fr hf (oc_kind_ne h4 hg cell_ne_cells)
theorem Ro.el {w : World} {B g n cap : Nat} {rs : List (List Cl)} (h : Ro w B (.slice (some ⟨g, 0, none⟩) n cap) rs) (hn : n = rs.length) (j : Nat) (hj : j < rs.length) :
    ∃ A' c', w.cell? ⟨g, j, none⟩ = some (.slice A' rs[j].length c') ∧ Cs w (.slice A' rs[j].length c') rs[j] := by
  obtain ⟨hs, h1, h2, h3⟩ := h
  have h4 := (h3 j (by omega) hj).cs
  obtain ⟨A', c', e⟩ := h4.shape
  have h5 := h2.cell (by omega) j hs[j] (List.getElem?_eq_getElem (by omega))
  rw [e] at h4 h5
  exact ⟨A', c', h5, h4⟩
end Go.Proofs.YtjcfjjhhbcgcmaaGreat

namespace Go.Proofs.YtjcfjjhhbcgcmaaGreat
open Go.RowKit
section
variable {α : Type} {f : α → Value} {E : TypeId} {T : TypeId} {z : Value} {by_ : Nat}
theorem wp_pushG (hE : El T E z by_) (hf1 : ∀ x, (f x).oneCell' = true) {w0 : World} {o : Oper} {a : Act} {K : Act → World → Prop} {Q : Exit → Act → World → Prop} (s x : Operand)
    (ho : o.op = .call { callee := .builtin .append, args := #[s, x], argTypes := #[T, T] })
    (B : Nat) (v : Value) (l : List α) (hs : a.eval s = v) (hown : Ow f E w0 B v l) (u : Value) (y : α) (hu : u = f y) (hx : a.eval x = .slice (some ⟨w0.heap.size, 0, none⟩) 1 1)
    (hl : l.length < 1099511627776) (hB : B ≤ w0.heap.size)
    (h : ∀ v' w', Ow f E w' B v' (l ++ [y]) → Fr (fun k => v.ownBlock = some k) w0 w' → K (a.put o.dst v') w') :
    o.wp Tryz.prog a (w0.alloc (.cells #[u] E)) K Q := by
  subst hu
  have hown' : w0.ownsRow B E 1 v (l.map f).length (l.map f) := by rw [List.length_map]; exact hown
  have hs' := hE.small
  have hbl : ((l.map f).length + 1) * by_ ≤ 140737488355328 := by
    rw [List.length_map]
    have := Nat.mul_le_mul (show l.length + 1 ≤ 1099511627776 by omega) hs'
    omega
  obtain ⟨v', w', hr, h1, h2⟩ := run_pushv T E o.type z by_ hE.under hE.info (by rw [hE.cells]; rfl) w0 B v (f y) (l.map f) hown' (hf1 y) hbl (by rw [List.length_map]; unfold maxLen; omega) hB w0.heap.size rfl
  unfold Oper.wp execOp
  simp only [ho, resolve, invoke, builtin, Sem.run_bind, Sem.run_pure, Result.andThen_ok, List.map_toArray, List.map_cons, List.map_nil, hs, hx, hr]
  refine h v' w' ?_ h2
  unfold Ow
  simpa [List.map_append] using h1
end
theorem ro_push {w0 w' : World} {B : Nat} {v v' : Value} {rs : List (List Cl)} {hs : List Sl} (h1 : hs.length = rs.length) (h2 : Ow slV 47 w0 B v hs) (h3 : ∀ i (h : i < hs.length) (h2 : i < rs.length), Oc w0 B (slV hs[i]) rs[i])
    {y : Sl} {l : List Cl} (hu : Oc w0 B (slV y) l) (ho : Ow slV 47 w' B v' (hs ++ [y])) (hf : Fr (fun k => v.ownBlock = some k) w0 w') : Ro w' B v' (rs ++ [l]) := by
  have keep : ∀ {u : Value} {m : List Cl}, Oc w0 B u m → Oc w' B u m := fun {u m} h => h.fr hf (fun k hk e => by
    obtain ⟨cur, hg⟩ := h2.kind k e
    exact oc_kind_ne h hg cell_ne_cells k hk rfl)
  refine ⟨hs ++ [y], by simp [h1], ho, fun i a b => ?_⟩
  by_cases e : i < hs.length
  · rw [List.getElem_append_left e, List.getElem_append_left (by omega)]
    exact keep (h3 i e (by omega))
  · have ei : i = hs.length := by simp at a; omega
    subst ei
    rw [List.getElem_append_right (Nat.le_refl _), List.getElem_append_right (by omega)]
    simp only [Nat.sub_self, h1, List.getElem_singleton]
    exact keep hu
theorem wp_pushRo {w0 : World} {o : Oper} {a : Act} {K : Act → World → Prop} {Q : Exit → Act → World → Prop} (s x : Operand)
    (ho : o.op = .call { callee := .builtin .append, args := #[s, x], argTypes := #[32, 32] })
    (B : Nat) (v : Value) (rs : List (List Cl)) (hs : a.eval s = v) (hown : Ro w0 B v rs) (u : Value) (l : List Cl) (hu : Oc w0 B u l) (hx : a.eval x = .slice (some ⟨w0.heap.size, 0, none⟩) 1 1)
    (hl : rs.length < 1099511627776) (hB : B ≤ w0.heap.size)
    (h : ∀ v' w', Ro w' B v' (rs ++ [l]) → Fr (fun k => v.ownBlock = some k) w0 w' → K (a.put o.dst v') w') :
    o.wp Tryz.prog a (w0.alloc (.cells #[u] 47)) K Q := by
  obtain ⟨hh, h1, h2, h3⟩ := hown
  obtain ⟨A, c, rfl⟩ := hu.shape
  exact wp_pushG el_rows slV_one s x ho B v hh hs h2 (.slice A l.length c) ⟨A, l.length, c⟩ rfl hx (by omega) hB (fun v' w' hn hf => h v' w' (ro_push h1 h2 h3 (y := ⟨A, l.length, c⟩) hu hn hf) hf)
theorem wpList_pushRo {w0 : World} {ops : Array Oper} {rest : List Oper} {o : Oper} {a : Act} {Q : Exit → Act → World → Prop} (hgd : o.guard = none) (s x : Operand)
    (ho : o.op = .call { callee := .builtin .append, args := #[s, x], argTypes := #[32, 32] })
    (B : Nat) (v : Value) (rs : List (List Cl)) (hs : a.eval s = v) (hown : Ro w0 B v rs) (u : Value) (l : List Cl) (hu : Oc w0 B u l) (hx : a.eval x = .slice (some ⟨w0.heap.size, 0, none⟩) 1 1)
    (hl : rs.length < 1099511627776) (hB : B ≤ w0.heap.size)
    (h : ∀ v' w', Ro w' B v' (rs ++ [l]) → Fr (fun k => v.ownBlock = some k) w0 w' → wpList Tryz.prog ops Q rest (a.put o.dst v') w') :
    wpList Tryz.prog ops Q (o :: rest) a (w0.alloc (.cells #[u] 47)) :=
  wpList_plain hgd fun K hK => wp_pushRo s x ho B v rs hs hown u l hu hx hl hB fun v' w' h1 h2 => hK _ _ (h v' w' h1 h2)
theorem ro_lit0 (w : World) (B g : Nat) (hg : g = w.heap.size) (hB : B ≤ g) : Ro (w.alloc (.cells #[] 47)) B (.slice (some ⟨g, 0, none⟩) 0 0) [] :=
  ⟨[], rfl, ow_lit0 w B g hg hB, fun i h => by cases h⟩
theorem ro_one {w : World} {B g : Nat} {u : Value} {l : List Cl} (hu : Oc w B u l) (hg : g = w.heap.size) (hB : B ≤ g) : Ro (w.alloc (.cells #[u] 47)) B (.slice (some ⟨g, 0, none⟩) 1 1) [l] := by
  obtain ⟨A, c, rfl⟩ := hu.shape
  exact ⟨[⟨A, l.length, c⟩], rfl, ow_lit (f := slV) w B g [⟨A, l.length, c⟩] #[.slice A l.length c] rfl hg hB (by unfold maxLen; simp), fun i a b => by
    obtain rfl : i = 0 := by simpa using a
    exact hu.alloc _⟩
theorem ro_fr {S : Nat → Prop} {w w' : World} {B : Nat} {v : Value} {rs : List (List Cl)} (h : Ro w B v rs) (hf : Fr S w w') (hn : ∀ k, B ≤ k → ¬ S k) : Ro w' B v rs := by
  obtain ⟨hs, h1, h2, h3⟩ := h
  exact ⟨hs, h1, h2.fr hf (fun k hk => hn k (h2.lt k hk).1), fun i a b => (h3 i a b).fr hf (fun k hk => hn k ((h3 i a b).lt k hk).1)⟩
theorem rs_pairs {w : World} {v : Value} {rs : List (List Cl)} (h : Rs w v rs) : ∃ ps : List (Sl × List Cl), ps.map Prod.snd = rs ∧ Vs slV w v (ps.map Prod.fst) ∧ ∀ p ∈ ps, Cs w (slV p.1) p.2 := by
  obtain ⟨hs, h1, h2, h3⟩ := h
  refine ⟨hs.zip rs, by rw [List.map_snd_zip (by omega)], by rw [List.map_fst_zip (by omega)]; exact h2, fun p hp => ?_⟩
  obtain ⟨i, hi, rfl⟩ := List.mem_iff_getElem.1 hp
  rw [List.length_zip] at hi
  rw [List.getElem_zip]
  exact h3 i (by omega) (by omega)
theorem rs_ofp {w : World} {v : Value} {ps : List (Sl × List Cl)} (h : Vs slV w v (ps.map Prod.fst)) (h2 : ∀ p ∈ ps, Cs w (slV p.1) p.2) : Rs w v (ps.map Prod.snd) := by
  refine ⟨ps.map Prod.fst, by simp, h, fun i a b => ?_⟩
  simp only [List.getElem_map]
  exact h2 _ (List.getElem_mem _)
def psF (f : List Cl → Bool) (ps : List (Sl × List Cl)) (i : Nat) : List (Sl × List Cl) := (ps.take i).filter fun p => f p.2
theorem psF_more {f : List Cl → Bool} {ps : List (Sl × List Cl)} {i : Nat} (h : i < ps.length) : psF f ps (i + 1) = psF f ps i ++ if f ps[i].2 = true then [ps[i]] else [] := by
  unfold psF
  rw [List.take_succ_eq_append_getElem h, List.filter_append, List.filter_cons, List.filter_nil]
theorem psF_len (f : List Cl → Bool) (ps : List (Sl × List Cl)) (i : Nat) : (psF f ps i).length ≤ ps.length := by
  unfold psF
  exact Nat.le_trans (List.length_filter_le _ _) (by rw [List.length_take]; omega)
theorem psF_end (f : List Cl → Bool) (ps : List (Sl × List Cl)) : (psF f ps ps.length).map Prod.snd = (ps.map Prod.snd).filter f := by
  unfold psF
  rw [List.take_length, List.filter_map]; rfl
theorem psF_mem {f : List Cl → Bool} {ps : List (Sl × List Cl)} {i : Nat} {p : Sl × List Cl} (h : p ∈ psF f ps i) : p ∈ ps ∧ f p.2 = true := by
  unfold psF at h
  obtain ⟨h1, h2⟩ := List.mem_filter.1 h
  exact ⟨List.mem_of_mem_take h1, h2⟩
end Go.Proofs.YtjcfjjhhbcgcmaaGreat

namespace Go.Proofs.YtjcfjjhhbcgcmaaGreat
open Go.RowKit
theorem nani_any (x : Int) (w : World) : Calls Tryz.prog 125 #[.int .i64 x] w fun e w' => e = .returned (.bool false) ∧ w = w' := by
  have h : (x != x) = false := by simp
  go_enter Tryz.func125, Tryz.ntmps125
  go_wp2
  go_ret
  exact ⟨ret_boolE (by simp), rfl⟩
theorem nant_any (x : Tx) (w : World) : Calls Tryz.prog 126 #[.string ⟨x.toArray⟩] w fun e w' => e = .returned (.bool false) ∧ w = w' := by
  go_enter Tryz.func126, Tryz.ntmps126
  go_wp2
  go_ret
  exact ⟨ret_boolE (by simp), rfl⟩
theorem cmpi_any (x y : Int) (w : World) : Calls Tryz.prog 105 #[.int .i64 x, .int .i64 y] w fun e w' => e = .returned (.int .i64 (cmpI x y)) ∧ w = w' := by
  go_enter Tryz.func105, Tryz.ntmps105
  go_wp2_with fail
  refine (nani_any x w).mono ?_
  rintro e w1 ⟨rfl, rfl⟩
  go_wp2_with fail
  refine (nani_any y w).mono ?_
  rintro e w1 ⟨rfl, rfl⟩
  go_wp2
  all_goals
    go_ret
    exact ⟨ret_int (by unfold cmpI; first | (rw [if_pos (by omega)]; done) | (rw [if_neg (by omega), if_pos (by omega)]; done) | (rw [if_neg (by omega), if_neg (by omega)]; done)), rfl⟩
theorem less_lt {x y : Tx} (h : x < y) : Op.bytesLess x y = true := by rw [bless]; simpa using h
theorem less_gt {x y : Tx} (h : y < x) : Op.bytesLess x y = false ∧ (x == y) = false := by
  refine ⟨by rw [bless]; simpa using fun e => List.lt_irrefl x (List.lt_trans e h), beq_eq_false_iff_ne.2 fun e => ?_⟩
  subst e; exact List.lt_irrefl x h
theorem less_self (x : Tx) : Op.bytesLess x x = false := by rw [bless]; simp
theorem cmpt_any (x y : Tx) (w : World) : Calls Tryz.prog 106 #[.string ⟨x.toArray⟩, .string ⟨y.toArray⟩] w fun e w' => e = .returned (.int .i64 (cmpT x y)) ∧ w = w' := by
  rcases tx_tri x y with hl | hl | hl
  · have h1 := less_lt hl
    have H := Lib.hid (cmpT_lt hl)
    clear hl
    go_enter Tryz.func106, Tryz.ntmps106
    go_wp2_with fail
    refine (nant_any x w).mono ?_
    rintro e w1 ⟨rfl, rfl⟩
    go_wp2_with fail
    refine (nant_any y w).mono ?_
    rintro e w1 ⟨rfl, rfl⟩
    go_wp2
    go_ret
    exact ⟨ret_int (by rw [H.out]), rfl⟩
  · subst hl
    have h1 := less_self x
    have H := Lib.hid (cmpT_self x)
    go_enter Tryz.func106, Tryz.ntmps106
    go_wp2_with fail
    refine (nant_any x w).mono ?_
    rintro e w1 ⟨rfl, rfl⟩
    go_wp2_with fail
    refine (nant_any x w).mono ?_
    rintro e w1 ⟨rfl, rfl⟩
    go_wp2
    go_ret
    exact ⟨ret_int (by rw [H.out]), rfl⟩
  · obtain ⟨h1, h2⟩ := less_gt hl
    have H := Lib.hid (cmpT_gt hl)
    clear hl
    go_enter Tryz.func106, Tryz.ntmps106
    go_wp2_with fail
    refine (nant_any x w).mono ?_
    rintro e w1 ⟨rfl, rfl⟩
    go_wp2_with fail
    refine (nant_any y w).mono ?_
    rintro e w1 ⟨rfl, rfl⟩
    go_wp2
    go_ret
    exact ⟨ret_int (by rw [H.out]), rfl⟩
def ordC (a b : Cl) : Int := if a.null && !b.null then -1 else if b.null && !a.null then 1 else if a.num = b.num then cmpT a.txt b.txt else cmpI a.num b.num
theorem cmpI_lt {x y : Int} (h : x < y) : cmpI x y = -1 := by unfold cmpI; rw [if_pos h]
theorem cmpI_gt {x y : Int} (h : y < x) : cmpI x y = 1 := by unfold cmpI; rw [if_neg (by omega), if_pos h]
theorem ordC_null {a b : Cl} (h : a.null = b.null) : ordC a b = if a.num = b.num then cmpT a.txt b.txt else cmpI a.num b.num := by
  unfold ordC
  cases ha : a.null <;> rw [ha] at h <;> simp [← h]
theorem ordC_mk (n : Bool) (i j : Int) (s t : Tx) : ordC ⟨n, i, s⟩ ⟨n, j, t⟩ = if i = j then cmpT s t else cmpI i j := ordC_null (a := ⟨n, i, s⟩) (b := ⟨n, j, t⟩) rfl
theorem ordC_tf {a b : Cl} (h : a.null = true) (h' : b.null = false) : ordC a b = -1 := by unfold ordC; rw [h, h']; rfl
theorem ordC_ft {a b : Cl} (h : a.null = false) (h' : b.null = true) : ordC a b = 1 := by unfold ordC; rw [h, h']; rfl
theorem ordC_neg (a b : Cl) : ordC b a = -ordC a b := by
  cases ha : a.null <;> cases hb : b.null
  · rw [ordC_null (ha.trans hb.symm), ordC_null (hb.trans ha.symm)]
    by_cases h : a.num = b.num
    · rw [if_pos h, if_pos h.symm, cmpT_neg]
    · rw [if_neg h, if_neg (fun e => h e.symm)]
      unfold cmpI
      split <;> split <;> first | rfl | omega | (split <;> first | rfl | omega)
  · rw [ordC_ft ha hb, ordC_tf hb ha]
  · rw [ordC_tf ha hb, ordC_ft hb ha]; rfl
  · rw [ordC_null (ha.trans hb.symm), ordC_null (hb.trans ha.symm)]
    by_cases h : a.num = b.num
    · rw [if_pos h, if_pos h.symm, cmpT_neg]
    · rw [if_neg h, if_neg (fun e => h e.symm)]
      unfold cmpI
      split <;> split <;> first | rfl | omega | (split <;> first | rfl | omega)
theorem cmpI_zero {x y : Int} (h : cmpI x y = 0) : x = y := by
  unfold cmpI at h
  split at h
  · omega
  · split at h <;> omega
theorem ordC_zero (a b : Cl) : (ordC a b == 0) = ceq a b := by
  rw [Bool.eq_iff_iff, beq_iff_eq]
  obtain ⟨an, ai, at_⟩ := a
  obtain ⟨bn, bi, bt⟩ := b
  simp only [ceq, decide_eq_true_eq, Cl.mk.injEq]
  cases an <;> cases bn
  · rw [ordC_mk]
    by_cases h : ai = bi
    · simp only [h, if_true]; rw [cmpT_zero]; simp
    · simp only [h, if_false]
      exact ⟨fun e => absurd (cmpI_zero e) h, fun e => absurd e.2.1 (by simp)⟩
  · rw [ordC_ft rfl rfl]; simp
  · rw [ordC_tf rfl rfl]; simp
  · rw [ordC_mk]
    by_cases h : ai = bi
    · simp only [h, if_true]; rw [cmpT_zero]; simp
    · simp only [h, if_false]
      exact ⟨fun e => absurd (cmpI_zero e) h, fun e => absurd e.2.1 (by simp)⟩
theorem cmpI_le {x y : Int} : cmpI x y ≤ 0 ↔ x ≤ y := by
  unfold cmpI
  split
  · omega
  · split <;> omega
theorem ordC_trans {a b c : Cl} (h1 : ordC a b ≤ 0) (h2 : ordC b c ≤ 0) : ordC a c ≤ 0 := by
  have step : ∀ {a b c : Cl}, a.null = b.null → b.null = c.null → ordC a b ≤ 0 → ordC b c ≤ 0 → ordC a c ≤ 0 := by
    intro a b c hab hbc h1 h2
    rw [ordC_null hab] at h1
    rw [ordC_null hbc] at h2
    rw [ordC_null (hab.trans hbc)]
    by_cases e1 : a.num = b.num <;> by_cases e2 : b.num = c.num
    · rw [if_pos e1] at h1; rw [if_pos e2] at h2; rw [if_pos (e1.trans e2)]; exact cmpT_trans h1 h2
    · rw [if_neg e2] at h2
      rw [if_neg (fun e => e2 (e1 ▸ e)), e1]; exact h2
    · rw [if_neg e1] at h1
      rw [if_neg (fun e => e1 (e.trans e2.symm)), ← e2]; exact h1
    · rw [if_neg e1, cmpI_le] at h1
      rw [if_neg e2, cmpI_le] at h2
      rw [if_neg (by omega), cmpI_le]; omega
  cases ha : a.null <;> cases hb : b.null <;> cases hc : c.null
  · exact step (ha.trans hb.symm) (hb.trans hc.symm) h1 h2
  · rw [ordC_ft hb hc] at h2; omega
  · rw [ordC_ft ha hb] at h1; omega
  · rw [ordC_ft ha hb] at h1; omega
  · rw [ordC_tf ha hc]; omega
  · rw [ordC_ft hb hc] at h2; omega
  · rw [ordC_tf ha hc]; omega
  · exact step (ha.trans hb.symm) (hb.trans hc.symm) h1 h2
set_option maxHeartbeats 1000000 in
theorem order_any (a b : Cl) (w : World) : Calls Tryz.prog 72 #[clV a, clV b] w fun e w' => e = .returned (.int .i64 (ordC a b)) ∧ Fr Non w w' := by
  obtain ⟨an, ai, at_⟩ := a
  obtain ⟨bn, bi, bt⟩ := b
  unfold clV clC
  cases an <;> cases bn
  case false.true =>
    go_enter Tryz.func72, Tryz.ntmps72
    go_wp2
    go_ret
    exact ⟨rfl, ((Fr.refl _ _).alloc _).alloc _⟩
  case true.false =>
    go_enter Tryz.func72, Tryz.ntmps72
    go_wp2
    go_ret
    exact ⟨rfl, ((Fr.refl _ _).alloc _).alloc _⟩
  all_goals
    by_cases h : ai = bi
    · have HI := Lib.hid h
      have hb : (ai != bi) = false := by rw [h]; simp
      clear h
      go_enter Tryz.func72, Tryz.ntmps72
      go_wp2_with fail
      refine (cmpt_any at_ bt _).mono ?_
      rintro e w1 ⟨rfl, rfl⟩
      go_wp2
      go_ret
      exact ⟨ret_int (by rw [ordC_mk]; exact (if_pos HI.out).symm), ((Fr.refl _ _).alloc _).alloc _⟩
    · have HI := Lib.hid h
      have hb : (ai != bi) = true := by simpa using h
      clear h
      go_enter Tryz.func72, Tryz.ntmps72
      go_wp2_with fail
      refine (cmpi_any ai bi _).mono ?_
      rintro e w1 ⟨rfl, rfl⟩
      go_wp2
      go_ret
      exact ⟨ret_int (by rw [ordC_mk]; exact (if_neg HI.out).symm), ((Fr.refl _ _).alloc _).alloc _⟩
theorem ordC_of_lt {n : Bool} {i j : Int} {s t : Tx} (h : i < j) : ordC ⟨n, i, s⟩ ⟨n, j, t⟩ = -1 := by
  rw [ordC_mk]; simp only [show ¬ i = j by omega, if_false]; exact cmpI_lt h
theorem ordC_of_gt {n : Bool} {i j : Int} {s t : Tx} (h : j < i) : ordC ⟨n, i, s⟩ ⟨n, j, t⟩ = 1 := by
  rw [ordC_mk]; simp only [show ¬ i = j by omega, if_false]; exact cmpI_gt h
theorem ordC_of_eq {n : Bool} {i : Int} {s t : Tx} : ordC ⟨n, i, s⟩ ⟨n, i, t⟩ = cmpT s t := by rw [ordC_mk]; simp
set_option maxHeartbeats 1000000 in
theorem rorder_any (a b : Cl) (w : World) : Calls Tryz.prog 17 #[clV a, clV b] w fun e w' => e = .returned (.int .i64 (ordC a b)) ∧ Fr Non w w' := by
  obtain ⟨an, ai, at_⟩ := a
  obtain ⟨bn, bi, bt⟩ := b
  unfold clV clC
  cases an <;> cases bn
  case false.true =>
    go_enter Tryz.func17, Tryz.ntmps17
    go_wp2
    go_ret
    exact ⟨rfl, ((Fr.refl _ _).alloc _).alloc _⟩
  case true.false =>
    go_enter Tryz.func17, Tryz.ntmps17
    go_wp2
    go_ret
    exact ⟨rfl, ((Fr.refl _ _).alloc _).alloc _⟩
  all_goals
    rcases Int.lt_trichotomy ai bi with h | h | h
    · go_enter Tryz.func17, Tryz.ntmps17
      go_wp2
      go_ret
      exact ⟨ret_int (ordC_of_lt h).symm, ((Fr.refl _ _).alloc _).alloc _⟩
    · subst h
      rcases tx_tri at_ bt with hl | hl | hl
      · have h1 := less_lt hl
        have H := Lib.hid (cmpT_lt hl)
        clear hl
        go_enter Tryz.func17, Tryz.ntmps17
        go_wp2
        go_ret
        exact ⟨ret_int (by rw [ordC_of_eq, H.out]), ((Fr.refl _ _).alloc _).alloc _⟩
      · subst hl
        have h1 := less_self at_
        have H := Lib.hid (cmpT_self at_)
        go_enter Tryz.func17, Tryz.ntmps17
        go_wp2
        go_ret
        exact ⟨ret_int (by rw [ordC_of_eq, H.out]), ((Fr.refl _ _).alloc _).alloc _⟩
      · obtain ⟨h1, h2⟩ := less_gt hl
        have H := Lib.hid (cmpT_gt hl)
        clear hl
        go_enter Tryz.func17, Tryz.ntmps17
        go_wp2
        go_ret
        exact ⟨ret_int (by rw [ordC_of_eq, H.out]), ((Fr.refl _ _).alloc _).alloc _⟩
    · go_enter Tryz.func17, Tryz.ntmps17
      go_wp2
      go_ret
      exact ⟨ret_int (ordC_of_gt h).symm, ((Fr.refl _ _).alloc _).alloc _⟩
end Go.Proofs.YtjcfjjhhbcgcmaaGreat

namespace Go.Proofs.YtjcfjjhhbcgcmaaGreat
open Go.RowKit
def noCl : Cl := ⟨false, 0, []⟩
end Go.Proofs.YtjcfjjhhbcgcmaaGreat

namespace Go.Proofs.YtjcfjjhhbcgcmaaGreat
open Go.RowKit
def liveC (l : List Cl) : List Cl := l.filter (fun c => !c.null)
theorem liveC_app (l m : List Cl) : liveC (l ++ m) = liveC l ++ liveC m := by simp [liveC]
theorem liveC_null {c : Cl} (h : c.null = true) : liveC [c] = [] := by simp [liveC, h]
theorem liveC_one {c : Cl} (h : c.null = false) : liveC [c] = [c] := by simp [liveC, h]
def Bnds (l : List Cl) (lo hi : Cl) : Prop := (l = [] ∧ lo = noCl ∧ hi = noCl) ∨ (lo ∈ l ∧ hi ∈ l ∧ ∀ c ∈ l, ordC lo c ≤ 0 ∧ ordC c hi ≤ 0)
theorem ordC_self (a : Cl) : ordC a a = 0 := by
  have := ordC_zero a a
  rw [ceq_self] at this; simpa using this
theorem ordC_asym {a b : Cl} (h1 : ordC a b ≤ 0) (h2 : ordC b a ≤ 0) : a = b := by
  rw [ordC_neg a b] at h2
  have := ordC_zero a b
  rw [show ordC a b = 0 by omega] at this
  exact ceq_is this.symm
theorem bnds_step {l : List Cl} {lo hi : Cl} (h : Bnds l lo hi) (c : Cl) :
    Bnds (l ++ [c]) (if (l.isEmpty || decide (ordC c lo < 0)) = true then c else lo) (if (l.isEmpty || decide (0 < ordC c hi)) = true then c else hi) := by
  rcases h with ⟨rfl, _, _⟩ | ⟨h1, h2, h3⟩
  · right
    simp [ordC_self]
  · right
    have he : l.isEmpty = false := by cases l with
      | nil => cases h1
      | cons _ _ => rfl
    rw [he]
    simp only [Bool.false_or, decide_eq_true_eq]
    refine ⟨?_, ?_, ?_⟩
    · split <;> simp [h1]
    · split <;> simp [h2]
    · intro d hd
      rw [List.mem_append, List.mem_singleton] at hd
      have n1 := ordC_neg c lo
      have n2 := ordC_neg c hi
      rcases hd with hd | rfl
      · obtain ⟨q1, q2⟩ := h3 d hd
        constructor
        · split
          · exact ordC_trans (by omega) q1
          · exact q1
        · split
          · exact ordC_trans q2 (by omega)
          · exact q2
      · constructor
        · split
          · exact Int.le_of_eq (ordC_self _)
          · omega
        · split
          · exact Int.le_of_eq (ordC_self _)
          · omega
end Go.Proofs.YtjcfjjhhbcgcmaaGreat

namespace Go.Proofs.YtjcfjjhhbcgcmaaGreat
def w6 (n : Int) : Int := (n + 9223372036854775808) % 18446744073709551616 - 9223372036854775808
end Go.Proofs.YtjcfjjhhbcgcmaaGreat

namespace Go.Proofs.YtjcfjjhhbcgcmaaGreat
open Go.RowKit
theorem w6_add (a b : Int) : w6 (w6 a + b) = w6 (a + b) := by unfold w6; omega
def totC : List Cl → Int
  | [] => 0
  | c :: l => c.num + totC l
theorem totC_app (l m : List Cl) : totC (l ++ m) = totC l + totC m := by
  induction l with
  | nil => simp [totC]
  | cons c l ih => rw [List.cons_append, totC, totC, ih]; omega
theorem totC_one (c : Cl) : totC [c] = c.num := by simp [totC]
structure Fo where
  cnt : Int
  has : Int
  sum : Int
  low : Cl
  high : Cl
  deriving DecidableEq
def noFo : Fo := ⟨0, 0, 0, noCl, noCl⟩
structure FoOf (l : List Cl) (s : Fo) : Prop where
  cnt : s.cnt = l.length
  has : s.has = (liveC l).length
  sum : s.sum = w6 (totC (liveC l))
  bnds : Bnds (liveC l) s.low s.high
theorem foOf_nil : FoOf [] noFo := ⟨rfl, rfl, rfl, .inl ⟨rfl, rfl, rfl⟩⟩
def addF (s : Fo) (c : Cl) : Fo :=
  if c.null then ⟨s.cnt + 1, s.has, s.sum, s.low, s.high⟩
  else ⟨s.cnt + 1, s.has + 1, w6 (s.sum + c.num), if (decide (s.has = 0) || decide (ordC c s.low < 0)) = true then c else s.low, if (decide (s.has = 0) || decide (0 < ordC c s.high)) = true then c else s.high⟩
theorem empty_has {l : List Cl} {s : Fo} (h : FoOf l s) : (liveC l).isEmpty = decide (s.has = 0) := by
  rw [h.has, Bool.eq_iff_iff, List.isEmpty_iff, decide_eq_true_eq, ← List.length_eq_zero_iff]; omega
theorem foOf_add {l : List Cl} {s : Fo} (h : FoOf l s) (c : Cl) : FoOf (l ++ [c]) (addF s c) := by
  unfold addF
  cases hn : c.null
  · rw [if_neg (by simp)]
    refine ⟨?_, ?_, ?_, ?_⟩
    · rw [List.length_append]; dsimp only; rw [h.cnt]; simp
    · rw [liveC_app, liveC_one hn, List.length_append]; dsimp only; rw [h.has]; simp
    · rw [liveC_app, liveC_one hn, totC_app, totC_one]; dsimp only; rw [h.sum, w6_add]
    · rw [liveC_app, liveC_one hn]
      dsimp only
      rw [← empty_has h]
      exact bnds_step h.bnds c
  · rw [if_pos rfl]
    refine ⟨?_, ?_, ?_, ?_⟩
    · rw [List.length_append]; dsimp only; rw [h.cnt]; simp
    · rw [liveC_app, liveC_null hn, List.append_nil]; exact h.has
    · rw [liveC_app, liveC_null hn, List.append_nil]; exact h.sum
    · rw [liveC_app, liveC_null hn, List.append_nil]; exact h.bnds
def foC (l : List Cl) : Fo := l.foldl addF noFo
theorem foC_app (l : List Cl) (c : Cl) : foC (l ++ [c]) = addF (foC l) c := by unfold foC; rw [List.foldl_append]; rfl
theorem foC_from {l m : List Cl} {s : Fo} (h : FoOf l s) : FoOf (l ++ m) (m.foldl addF s) := by
  induction m generalizing l s with
  | nil => rw [List.append_nil]; exact h
  | cons c m ih =>
    rw [List.foldl_cons, show l ++ c :: m = (l ++ [c]) ++ m by simp]
    exact ih (foOf_add h c)
theorem foC_is (l : List Cl) : FoOf l (foC l) := foC_from (l := []) foOf_nil
theorem bnds_mem {l : List Cl} {lo hi : Cl} (h : Bnds l lo hi) (hl : l ≠ []) : lo ∈ l ∧ hi ∈ l ∧ ∀ c ∈ l, ordC lo c ≤ 0 ∧ ordC c hi ≤ 0 := by
  rcases h with ⟨e, _, _⟩ | h
  · exact absurd e hl
  · exact h
theorem has_zero {l : List Cl} {s : Fo} (h : FoOf l s) : s.has = 0 ↔ liveC l = [] := by
  rw [h.has, ← List.length_eq_zero_iff]; omega
def nulCl : Cl := ⟨true, 0, []⟩
def valF (op : Int) (s : Fo) : Cl :=
  if op = 1 then ⟨false, s.cnt, []⟩ else if op = 2 then ⟨false, s.has, []⟩ else if op < 1 ∨ 5 < op then noCl else if s.has = 0 then nulCl else if op = 3 then ⟨false, s.sum, []⟩ else if op = 4 then s.low else s.high
def typF (op ty : Int) : Int := if 1 ≤ op ∧ op ≤ 3 then 1 else if op = 4 ∨ op = 5 then ty else 0
def BestTo (op : Int) (L : List Cl) (j : Nat) (best : Cl) : Prop := best ∈ L ∧ (op = 4 → ∀ c ∈ L.take j, ordC best c ≤ 0) ∧ (op = 5 → ∀ c ∈ L.take j, ordC c best ≤ 0)
theorem best_start {op : Int} {L : List Cl} (h : 0 < L.length) : BestTo op L 0 L[0] := ⟨List.getElem_mem h, fun _ c hc => by simp at hc, fun _ c hc => by simp at hc⟩
theorem best_more {op : Int} {L : List Cl} {j : Nat} {best : Cl} (h : BestTo op L j best) (hj : j < L.length) :
    BestTo op L (j + 1) (if ((decide (op = 4) && decide (ordC L[j] best < 0)) || (decide (op = 5) && decide (0 < ordC L[j] best))) = true then L[j] else best) := by
  obtain ⟨h1, h2, h3⟩ := h
  have n := ordC_neg L[j] best
  refine ⟨?_, fun e c hc => ?_, fun e c hc => ?_⟩
  · split
    · exact List.getElem_mem hj
    · exact h1
  · subst e
    rw [List.take_succ_eq_append_getElem hj, List.mem_append, List.mem_singleton] at hc
    have hd : ¬ (4 : Int) = 5 := by decide
    simp only [decide_true, Bool.true_and, hd, decide_false, Bool.false_and, Bool.or_false, decide_eq_true_eq]
    split
    · rename_i hlt
      rcases hc with hc | rfl
      · exact ordC_trans (show ordC L[j] best ≤ 0 by omega) (h2 rfl c hc)
      · rw [ordC_self]; exact Int.le_refl _
    · rename_i hlt
      rcases hc with hc | rfl
      · exact h2 rfl c hc
      · omega
  · subst e
    rw [List.take_succ_eq_append_getElem hj, List.mem_append, List.mem_singleton] at hc
    have hd : ¬ (5 : Int) = 4 := by decide
    simp only [decide_true, Bool.true_and, hd, decide_false, Bool.false_and, Bool.false_or, decide_eq_true_eq]
    split
    · rename_i hlt
      rcases hc with hc | rfl
      · exact ordC_trans (h3 rfl c hc) (show ordC best L[j] ≤ 0 by omega)
      · rw [ordC_self]; exact Int.le_refl _
    · rename_i hlt
      rcases hc with hc | rfl
      · exact h3 rfl c hc
      · omega
theorem best_low {l : List Cl} {s : Fo} {best : Cl} (h : FoOf l s) (hb : BestTo 4 (liveC l) (liveC l).length best) : s.low = best := by
  obtain ⟨h1, h2, -⟩ := hb
  rw [List.take_length] at h2
  obtain ⟨k1, k2, k3⟩ := bnds_mem h.bnds (List.ne_nil_of_mem h1)
  exact ordC_asym (k3 _ h1).1 (h2 rfl _ k1)
theorem best_high {l : List Cl} {s : Fo} {best : Cl} (h : FoOf l s) (hb : BestTo 5 (liveC l) (liveC l).length best) : s.high = best := by
  obtain ⟨h1, -, h3⟩ := hb
  rw [List.take_length] at h3
  obtain ⟨k1, k2, k3⟩ := bnds_mem h.bnds (List.ne_nil_of_mem h1)
  exact ordC_asym (h3 rfl _ k2) (k3 _ h1).2
theorem sum_more {L : List Cl} {j : Nat} (hj : j < L.length) : w6 (w6 (totC (L.take j)) + L[j].num) = w6 (totC (L.take (j + 1))) := by
  rw [List.take_succ_eq_append_getElem hj, totC_app, totC_one, w6_add]
theorem live_more {l : List Cl} {j : Nat} (hj : j < l.length) : liveC (l.take (j + 1)) = if l[j].null = true then liveC (l.take j) else liveC (l.take j) ++ [l[j]] := by
  rw [List.take_succ_eq_append_getElem hj, liveC_app]
  cases h : l[j].null
  · rw [liveC_one h, if_neg (by simp)]
  · rw [liveC_null h, if_pos rfl, List.append_nil]
end Go.Proofs.YtjcfjjhhbcgcmaaGreat

namespace Go.Proofs.YtjcfjjhhbcgcmaaGreat
open Go.ChangeShapes Go.WideShapes Go.ChangeAt Go.RowKit
theorem frame_own : ownKnob Tryz.prog.godebug = none := by kernel_rfl
theorem frame_laidOut : laidOutB Tryz.prog = true := by kernel_rfl
theorem trodAll_below {H : Type} {enc : TypeId × Value → H} {W W' : World} (hb : Below W.heap.size W W') :
    ∀ (ts : List TypeId) (vs : List Value) (ds : List (DataW H)) (ps : List MemPlace), (∀ t ∈ ts, Tryz.prog.readableRec t = true ∧ t < Tryz.prog.types.size) →
      DataW.TrodAll enc Tryz.prog W 0 (fun _ => true) true ts vs ds ps → DataW.TrodAll enc Tryz.prog W' 0 (fun b => decide (b < W.heap.size)) true ts vs ds ps := by
  intro ts
  induction ts with
  | nil => intro vs ds ps _ h; cases vs <;> cases ds <;> simp_all [DataW.TrodAll]
  | cons t ts ih =>
    intro vs ds ps hr h
    cases vs with
    | nil => cases ds <;> simp_all [DataW.TrodAll]
    | cons v vs =>
      cases ds with
      | nil => simp_all [DataW.TrodAll]
      | cons d ds =>
        obtain ⟨p, q, h1, h2, rfl⟩ := h
        have hlt : ∀ x ∈ p, x.block < W.heap.size := by obtain ⟨m, hm⟩ := h1; exact DataW.trod_lt m _ _ _ hm
        have ht := hr t (List.mem_cons_self ..)
        exact ⟨p, q, Below.trod frame_laidOut ht.1 ht.2 h1 hb hlt, ih vs ds q (fun u hu => hr u (List.mem_cons_of_mem _ hu)) h2, rfl⟩
noncomputable def typesOk (ts : List TypeId) : Bool := ts.all fun t => Tryz.prog.readableRec t && decide (t < Tryz.prog.types.size)
theorem types_ok (ts : List TypeId) (h : typesOk ts = true) : ∀ t ∈ ts, Tryz.prog.readableRec t = true ∧ t < Tryz.prog.types.size := by
  intro t ht
  have := List.all_eq_true.1 h t ht
  simpa using this
theorem slice_in {W : World} {base : Nat} {t e : TypeId} {v : Value} (ht : Tryz.prog.underlying t = some (.slice e)) (hv : Value.okWide Tryz.prog W .any base t v) :
    v = .slice none 0 0 ∨ ∃ b o n c, v = .slice (some ⟨b, o, none⟩) n c ∧ n ≤ c ∧ b < W.heap.size := by
  obtain ⟨a, n, c, rfl⟩ := okWide_slice ht hv
  simp only [Value.okWide, ht, Cell.okWide] at hv
  cases a with
  | none =>
    left
    simp only [Cell.ok, ht] at hv
    cases n <;> cases c <;> simp_all
  | some a =>
    right
    simp only [Cell.ok, ht] at hv
    obtain ⟨h1, _, _, h2, row, cells, h3, _⟩ := hv
    obtain ⟨b, o, sp⟩ := a
    simp only at h2 h3
    subst h2
    refine ⟨b, o, n, c, rfl, h1, ?_⟩
    rcases Nat.lt_or_ge b W.heap.size with h | h
    · exact h
    · unfold World.shape? at h3
      rw [Array.getElem?_eq_none h] at h3
      cases h3
theorem wf_i64_bd {n : Int} (h : (Lit.int .i64 n).wf = true) : -9223372036854775808 ≤ n ∧ n ≤ 9223372036854775807 := by
  simpa [Lit.wf, IntKind.min, IntKind.max, IntKind.signed, IntKind.bits] using h
end Go.Proofs.YtjcfjjhhbcgcmaaGreat

namespace Go.Proofs.YtjcfjjhhbcgcmaaGreat
open Go.ChangeShapes Go.WideShapes Go.ChangeAt Go.RowKit
theorem choose_listG {α : Type} (P : Nat → α → Prop) : ∀ (n : Nat), (∀ i, i < n → ∃ x, P i x) → ∃ l : List α, l.length = n ∧ ∀ i (h : i < l.length), P i l[i]
  | 0, _ => ⟨[], rfl, fun i h => by simp at h⟩
  | n + 1, h => by
    obtain ⟨l, hl, hp⟩ := choose_listG P n fun i hi => h i (by omega)
    obtain ⟨x, hx⟩ := h n (by omega)
    refine ⟨l ++ [x], by simp [hl], fun i hi => ?_⟩
    by_cases hin : i < l.length
    · rw [List.getElem_append_left hin]; exact hp i hin
    · have : i = n := by simp at hi; omega
      subst this
      rw [List.getElem_append_right (by omega)]
      simpa using hx
end Go.Proofs.YtjcfjjhhbcgcmaaGreat

namespace Go.Proofs.YtjcfjjhhbcgcmaaGreat
open Go.ChangeShapes Go.WideShapes Go.ChangeAt Go.RowKit
structure Fd {α : Type} (f : α → List Value) (k : Nat) : Prop where
  len : ∀ x, (f x).length = k
  one : ∀ x, ∀ u ∈ f x, u.oneCell' = true
  pos : 0 < k
  small : k ≤ 64
section
variable {α : Type} {f : α → List Value} {k : Nat}
theorem catN_len (h : Fd f k) (l : List α) : (l.flatMap f).length = l.length * k := by
  induction l with
  | nil => simp
  | cons c l ih => rw [List.flatMap_cons, List.length_append, ih, h.len, List.length_cons, Nat.succ_mul, Nat.add_comm]
theorem catN_at (h : Fd f k) (l : List α) (j i : Nat) (hj : j < l.length) (hi : i < k) : (l.flatMap f)[j * k + i]? = (f l[j])[i]? := by
  induction l generalizing j with
  | nil => cases hj
  | cons c l ih =>
    rw [List.flatMap_cons]
    cases j with
    | zero => rw [List.getElem?_append_left (by rw [h.len]; omega)]; simp
    | succ j =>
      rw [Nat.succ_mul, List.getElem?_append_right (by rw [h.len]; omega)]
      rw [show j * k + k + i - (f c).length = j * k + i by rw [h.len]; omega]
      exact ih j (by simpa using hj)
theorem catN_set (h : Fd f k) (l : List α) (j i : Nat) (u : Value) (x y : α) (hj : l[j]? = some y) (hi : i < k) (hx : f x = (f y).set i u) : (l.set j x).flatMap f = (l.flatMap f).set (j * k + i) u := by
  induction l generalizing j with
  | nil => simp at hj
  | cons d l ih =>
    cases j with
    | zero =>
      obtain rfl : d = y := by simpa using hj
      rw [List.set_cons_zero, List.flatMap_cons, List.flatMap_cons, hx, List.set_append_left _ _ (by rw [h.len]; omega)]
      simp
    | succ j =>
      rw [List.set_cons_succ, List.flatMap_cons, List.flatMap_cons, ih j (by simpa using hj), Nat.succ_mul]
      rw [List.set_append_right _ _ (by rw [h.len]; omega), show j * k + k + i - (f d).length = j * k + i by rw [h.len]; omega]
def AtN (w : World) (a : Addr) (us : List Value) : Prop := ∀ (i : Nat) (u : Value), us[i]? = some u → w.cell? (a.add i) = some u
theorem AtN.keep {w w' : World} {a : Addr} {us : List Value} (h : AtN w a us) (hk : a.block < w.heap.size → w'.heap[a.block]? = w.heap[a.block]?) : AtN w' a us := by
  intro i u hu
  have h1 := h i u hu
  have hb := World.block_lt_of_cell? w _ h1
  rw [add_block] at hb
  rw [← h1]
  exact World.cell?_of_block (by rw [add_block]; exact hk hb)
theorem AtN.non {w w' : World} {a : Addr} {us : List Value} (h : AtN w a us) (hf : Fr Non w w') : AtN w' a us := h.keep fun hb => hf.block _ hb (fun e => e)
def Ns (f : α → List Value) (k : Nat) (w : World) (v : Value) (l : List α) : Prop :=
  ∃ A c, v = .slice A l.length c ∧ l.length ≤ c ∧ (A = none → c = 0) ∧ ∀ a, A = some a → ∀ j (h : j < l.length), AtN w (a.add (j * k)) (f l[j])
def No (f : α → List Value) (k : Nat) (E : TypeId) (w : World) (B : Nat) (v : Value) (l : List α) : Prop := w.ownsRow B E k v l.length (l.flatMap f)
theorem Ns.nil_ (w : World) : Ns f k w (.slice none 0 0) [] := ⟨none, 0, rfl, Nat.le_refl _, fun _ => rfl, fun _ h => by cases h⟩
theorem Ns.keep {w w' : World} {v : Value} {l : List α} (h : Ns f k w v l) (hk : ∀ b, v.ownBlock = some b → b < w.heap.size → w'.heap[b]? = w.heap[b]?) : Ns f k w' v l := by
  obtain ⟨A, c, rfl, h1, h2, h3⟩ := h
  refine ⟨A, c, rfl, h1, h2, fun a ha j hj => ?_⟩
  subst ha
  refine (h3 a rfl j hj).keep fun hb => ?_
  rw [add_block] at hb ⊢
  exact hk _ rfl hb
theorem Ns.fr {S : Nat → Prop} {w w' : World} {v : Value} {l : List α} (h : Ns f k w v l) (hf : Fr S w w') (hn : ∀ b, v.ownBlock = some b → ¬ S b) : Ns f k w' v l :=
  h.keep fun b hb hlt => hf.block b hlt (hn b hb)
theorem Ns.non {w w' : World} {v : Value} {l : List α} (h : Ns f k w v l) (hf : Fr Non w w') : Ns f k w' v l := h.fr hf fun _ _ e => e
theorem Ns.drew {w : World} {v : Value} {l : List α} (h : Ns f k w v l) : Ns f k w.drew v l := h.keep fun _ _ _ => rfl
theorem Ns.drewN {w : World} {v : Value} {l : List α} (h : Ns f k w v l) (n : Nat) : Ns f k (w.drewN n) v l := h.keep fun _ _ _ => rfl
theorem Ns.shape {w : World} {v : Value} {l : List α} (h : Ns f k w v l) : ∃ A c, v = .slice A l.length c := by
  obtain ⟨A, c, rfl, _⟩ := h; exact ⟨A, c, rfl⟩
theorem Ns.addr {w : World} {A : Option Addr} {n c : Nat} {l : List α} (h : Ns f k w (.slice A n c) l) (hl : 0 < n) : ∃ a, A = some a ∧ n = l.length ∧ n ≤ c ∧ ∀ j (h : j < l.length), AtN w (a.add (j * k)) (f l[j]) := by
  obtain ⟨A0, c0, he, h1, h2, h3⟩ := h
  simp only [Value.slice.injEq] at he
  obtain ⟨rfl, rfl, rfl⟩ := he
  cases A with
  | none => have := h2 rfl; omega
  | some a => exact ⟨a, rfl, rfl, h1, h3 a rfl⟩
theorem Ns.at_ {w : World} {A : Option Addr} {n c : Nat} {l : List α} (h : Ns f k w (.slice A n c) l) (j : Nat) (x : α) (hx : l[j]? = some x) : ∃ a, A = some a ∧ AtN w (a.add (j * k)) (f x) := by
  obtain ⟨hj, rfl⟩ := List.getElem?_eq_some_iff.1 hx
  obtain ⟨A0, c0, he, h1, h2, h3⟩ := h
  simp only [Value.slice.injEq] at he
  obtain ⟨rfl, rfl, rfl⟩ := he
  cases A with
  | none => have := h2 rfl; omega
  | some a => exact ⟨a, rfl, h3 a rfl j hj⟩
variable {E : TypeId}
theorem No.lt {w : World} {B : Nat} {v : Value} {l : List α} (h : No f k E w B v l) : ∀ b, v.ownBlock = some b → B ≤ b ∧ b < w.heap.size := World.ownsRow.lt h
theorem No.ns (hF : Fd f k) {w : World} {B : Nat} {v : Value} {l : List α} (h : No f k E w B v l) : Ns f k w v l := by
  rcases h.2 with ⟨rfl, h0⟩ | ⟨g, cap, cur, rfl, _, _, hle, _, _, _⟩
  · have hl : l = [] := List.eq_nil_of_length_eq_zero h0
    subst hl; exact Ns.nil_ w
  · refine ⟨_, cap, rfl, hle, (fun h => by cases h), fun a ha j hj i u hu => ?_⟩
    cases ha
    have hi : i < k := by rw [← hF.len l[j]]; exact (List.getElem?_eq_some_iff.1 hu).1
    rw [add_add]
    exact World.ownsRow.cells h (g := g) rfl (j * k + i) _ ((catN_at hF l j i hj hi).trans hu)
theorem No.keep {w w' : World} {B : Nat} {v : Value} {l : List α} (h : No f k E w B v l) (hk : ∀ b, v.ownBlock = some b → w'.heap[b]? = w.heap[b]?) : No f k E w' B v l := by
  refine ⟨h.1, ?_⟩
  rcases h.2 with h2 | ⟨g, cap, cur, hv, hb, hg, r⟩
  · exact .inl h2
  · exact .inr ⟨g, cap, cur, hv, hb, by rw [hk g (by rw [hv]; rfl)]; exact hg, r⟩
theorem No.fr {S : Nat → Prop} {w w' : World} {B : Nat} {v : Value} {l : List α} (h : No f k E w B v l) (hf : Fr S w w') (hn : ∀ b, v.ownBlock = some b → ¬ S b) : No f k E w' B v l :=
  h.keep fun b hb => hf.block b (h.lt b hb).2 (hn b hb)
theorem No.non {w w' : World} {B : Nat} {v : Value} {l : List α} (h : No f k E w B v l) (hf : Fr Non w w') : No f k E w' B v l := h.fr hf fun _ _ e => e
theorem No.alloc {w : World} {B : Nat} {v : Value} {l : List α} (h : No f k E w B v l) (o : Obj) : No f k E (w.alloc o) B v l := h.non ((Fr.refl _ _).alloc o)
theorem No.drew {w : World} {B : Nat} {v : Value} {l : List α} (h : No f k E w B v l) : No f k E w.drew B v l := h
theorem No.mono {w : World} {B B' : Nat} {v : Value} {l : List α} (h : No f k E w B v l) (hB : B' ≤ B) : No f k E w B' v l := by
  refine ⟨h.1, ?_⟩
  rcases h.2 with h2 | ⟨g, cap, cur, hv, hb, r⟩
  · exact .inl h2
  · exact .inr ⟨g, cap, cur, hv, by omega, r⟩
theorem No.kind {w : World} {B : Nat} {v : Value} {l : List α} (h : No f k E w B v l) : ∀ b, v.ownBlock = some b → ∃ cur, w.heap[b]? = some (.cells cur E (0, 0)) := by
  intro b hk
  rcases h.2 with ⟨rfl, _⟩ | ⟨g, cap, cur, rfl, _, hg, _⟩
  · cases hk
  · obtain rfl : g = b := by simpa [Value.ownBlock] using hk
    exact ⟨cur, hg⟩
theorem No.row {w : World} {B : Nat} {v : Value} {l : List α} (h : No f k E w B v l) (hn : 0 < l.length) : ∃ g cap, v = .slice (some ⟨g, 0, none⟩) l.length cap ∧ B ≤ g ∧ g < w.heap.size ∧ l.length ≤ cap ∧ cap ≤ maxLen := by
  rcases h.2 with ⟨rfl, h0⟩ | ⟨g, cap, cur, rfl, hb, hg, hle, hm, _⟩
  · omega
  · exact ⟨g, cap, rfl, hb, (Array.getElem?_eq_some_iff.1 hg).1, hle, hm⟩
theorem No.el (hF : Fd f k) {w : World} {B g n cap : Nat} {l : List α} (h : No f k E w B (.slice (some ⟨g, 0, none⟩) n cap) l) (hn : n = l.length) (j i : Nat) (x : α) (u : Value) (hx : l[j]? = some x) (hu : (f x)[i]? = some u) : w.cell? ⟨g, j * k + i, none⟩ = some u := by
  subst hn
  obtain ⟨hj, rfl⟩ := List.getElem?_eq_some_iff.1 hx
  have hi : i < k := by rw [← hF.len l[j]]; exact (List.getElem?_eq_some_iff.1 hu).1
  have hjk : (j + 1) * k ≤ l.length * k := Nat.mul_le_mul_right k hj
  rw [Nat.succ_mul] at hjk
  rw [World.ownsRow.cellAt h (j * k + i) (by omega), catN_at hF l j i hj hi]
  exact hu
theorem No.frozen {w : World} {B g n cap : Nat} {l : List α} (h : No f k E w B (.slice (some ⟨g, 0, none⟩) n cap) l) (hn : n = l.length) (j : Nat) : w.frozen? ⟨g, j, none⟩ = false := by
  subst hn; exact World.ownsRow.frozenAt h j
theorem No.put (hF : Fd f k) {w : World} {B g n cap : Nat} {l : List α} (h : No f k E w B (.slice (some ⟨g, 0, none⟩) n cap) l) (hn : n = l.length) (j i : Nat) (x y : α) (u : Value) (hy : l[j]? = some y) (hi : i < k) (hx : f x = (f y).set i u) :
    No f k E (w.setCell ⟨g, j * k + i, none⟩ u) B (.slice (some ⟨g, 0, none⟩) n cap) (l.set j x) := by
  subst hn
  unfold No
  rw [List.length_set, catN_set hF l j i u x y hy hi hx]
  exact (World.ownsRow.stored h (j * k + i) u).1
theorem no_lit (hF : Fd f k) (w : World) (B g : Nat) (l : List α) (cs : Array Value) (hcs : cs.toList = l.flatMap f) (hg : g = w.heap.size) (hB : B ≤ g) (hm : l.length ≤ 1000000) : No f k E (w.alloc (.cells cs E)) B (.slice (some ⟨g, 0, none⟩) l.length l.length) l := by
  subst hg
  have h := World.ownsRow_lit (e := E) (size := k) w cs l.length hB (by unfold maxLen; omega) (by rw [← Array.length_toList, hcs, catN_len hF])
  rw [hcs] at h
  exact h
variable {T : TypeId} {z : Value} {by_ : Nat}
theorem ns_in (hF : Fd f k) {T E : TypeId} (hT : Tryz.prog.underlying T = some (.slice E)) (hc : Tryz.prog.cellsOf E = k) {H : Type} {enc : TypeId × Value → H} {W : World} {base : Nat} {v : Value} {d : DataW H} {p : List MemPlace}
    (pr : α → Prop) (each : ∀ n cs y, cs.length = k → DataW.trod enc Tryz.prog W 0 (fun _ => true) true n E cs = some y → ∃ x, cs = f x ∧ pr x)
    (hv : Value.okWide Tryz.prog W .any base T v) (h : DataW.Trod enc Tryz.prog W 0 (fun _ => true) true T v d p) : ∃ l, Ns f k W v l ∧ l.length ≤ 9223372036854775807 ∧ (∀ x ∈ l, pr x) ∧ ∀ b, v.ownBlock = some b → b < W.heap.size := by
  have hlt : ∀ b, v.ownBlock = some b → b < W.heap.size := by
    rcases slice_in hT hv with rfl | ⟨b, o, n, c, rfl, _, hb⟩
    · intro k hk; cases hk
    · intro k hk
      obtain rfl : b = k := by simpa [Value.ownBlock] using hk
      exact hb
  obtain ⟨A, n, c, rfl⟩ := okWide_slice hT hv
  obtain ⟨fuel, hf⟩ := h
  rcases Go.Deep.open_slice hT hf with ⟨hcs, _⟩ | ⟨a, len, cap, m, q, D, Pl, hcs, _, hl, hm, hmm, _, hr⟩
  · simp [Value.cells] at hcs
    obtain ⟨rfl, rfl, rfl⟩ := hcs
    exact ⟨[], Ns.nil_ W, by simp, by simp, hlt⟩
  · simp [Value.cells] at hcs
    obtain ⟨rfl, rfl, rfl⟩ := hcs
    have hnm : n ≤ m := by rw [hmm]; simp; exact hl
    obtain ⟨l, hll, hls⟩ := choose_listG (fun i (x : α) => AtN W (a.add (i * k)) (f x) ∧ pr x) n (by
      intro i hi
      obtain ⟨cs', h1, h2⟩ := hr i (by omega)
      rw [hc] at h1
      obtain ⟨_, hlen, hcell⟩ := World.cells?_some h1
      obtain ⟨x, rfl, hp⟩ := each _ _ _ hlen h2
      refine ⟨x, fun j u hu => ?_, hp⟩
      rw [hcell j (by rw [← hF.len x]; exact (List.getElem?_eq_some_iff.1 hu).1)]
      exact hu)
    subst hll
    refine ⟨l, ⟨some a, c, rfl, hl, (fun h => by cases h), fun b hb j hj => ?_⟩, by unfold maxLen at hm; omega, fun x hx => ?_, hlt⟩
    · cases hb
      exact (hls j hj).1
    · obtain ⟨j, hj, rfl⟩ := List.mem_iff_getElem.1 hx
      exact (hls j hj).2
end
end Go.Proofs.YtjcfjjhhbcgcmaaGreat

namespace Go.Proofs.YtjcfjjhhbcgcmaaGreat
open Go.RowKit
structure Co where
  name : List UInt8
  ty : Int
  nl : Bool
  deriving DecidableEq
def coL (c : Co) : List Value := [.string ⟨c.name.toArray⟩, .int .i64 c.ty, .bool c.nl]
def coC (c : Co) : Array Value := #[.string ⟨c.name.toArray⟩, .int .i64 c.ty, .bool c.nl]
def coV (c : Co) : Value := .agg (coC c)
def noCo : Co := ⟨[], 0, false⟩
theorem fd_co : Fd coL 3 := ⟨fun _ => rfl, fun x u hu => by simp [coL] at hu; rcases hu with rfl | rfl | rfl <;> rfl, by omega, by omega⟩
abbrev Ks (w : World) (v : Value) (l : List Co) : Prop := Ns coL 3 w v l
theorem co_lit {w : World} {a : Addr} {c : Co} (h : AtN w a (coL c)) : w.cell? a = some (.string ⟨c.name.toArray⟩) ∧ w.cell? { block := a.block, off := a.off + 1 } = some (.int .i64 c.ty) ∧ w.cell? { block := a.block, off := a.off + 2 } = some (.bool c.nl) :=
  ⟨h 0 _ rfl, h 1 _ rfl, h 2 _ rfl⟩
abbrev CoB (w : World) (g : Nat) (c : Co) : Prop := Blk w g 56 #[.string ⟨c.name.toArray⟩, .int .i64 c.ty, .bool c.nl]
theorem co_new (w : World) (c : Co) : CoB (w.alloc (.cells #[.string ⟨c.name.toArray⟩, .int .i64 c.ty, .bool c.nl] 56)) w.heap.size c := Blk.new _ _ _
end Go.Proofs.YtjcfjjhhbcgcmaaGreat

namespace Go.Proofs.YtjcfjjhhbcgcmaaGreat
open Go.RowKit
def ltrI (r : Int) : Bool := decide (97 ≤ r) && decide (r ≤ 122)
def dgtI (r : Int) : Bool := decide (48 ≤ r) && decide (r ≤ 57)
def okI (j : Nat) (r : Int) : Bool := ltrI r || (decide (j ≠ 0) && (dgtI r || decide (r = 95)))
def wordsL : List (List UInt8) := [[97, 110, 100], [111, 114], [110, 111, 116], [105, 115], [110, 117, 108, 108], [108, 105, 107, 101], [116, 114, 117, 101], [102, 97, 108, 115, 101], [115, 101, 108, 101, 99, 116], [102, 114, 111, 109], [119, 104, 101, 114, 101], [103, 114, 111, 117, 112], [98, 121], [97, 108, 108], [99, 111, 117, 110, 116], [104, 97, 115], [115, 117, 109], [109, 105, 110], [109, 97, 120]]
def nmOk (l : List UInt8) : Prop := ∀ j (h : j < l.length), okI j (l[j]).toNat = true
instance (l : List UInt8) : Decidable (nmOk l) := inferInstanceAs (Decidable (∀ j (h : j < l.length), okI j (l[j]).toNat = true))
def nameB (l : List UInt8) : Bool := decide (1 ≤ l.length ∧ l.length ≤ 12 ∧ l ∉ wordsL ∧ nmOk l)
theorem name_yes {l : List UInt8} (h1 : 1 ≤ l.length) (h2 : l.length ≤ 12) (h3 : l ∉ wordsL) (h4 : nmOk l) : nameB l = true := decide_eq_true ⟨h1, h2, h3, h4⟩
theorem name_nil {l : List UInt8} (h : l.length = 0) : nameB l = false := decide_eq_false fun h' => by omega
theorem name_long {l : List UInt8} (h : 12 < l.length) : nameB l = false := decide_eq_false fun h' => by omega
theorem name_word {l : List UInt8} (h : l ∈ wordsL) : nameB l = false := decide_eq_false fun h' => h'.2.2.1 h
theorem name_bad {l : List UInt8} {j : Nat} (h : j < l.length) (hb : okI j (l[j]).toNat = false) : nameB l = false := decide_eq_false fun h' => by
  have := h'.2.2.2 j h; rw [hb] at this; cases this
theorem okI_high {j : Nat} {r : Int} (h : 128 ≤ r) : okI j r = false := by
  unfold okI ltrI dgtI
  rw [decide_eq_false (show ¬ r ≤ 122 by omega), decide_eq_false (show ¬ r ≤ 57 by omega), decide_eq_false (show ¬ r = 95 by omega)]
  simp
end Go.Proofs.YtjcfjjhhbcgcmaaGreat

namespace Go.Proofs.YtjcfjjhhbcgcmaaGreat
open Go.RowKit
theorem Own.shape {w : World} {B : Nat} {v : Value} {l : List UInt8} (h : Own w B v l) : ∃ A c, v = .slice A l.length c := h.bs.shape
end Go.Proofs.YtjcfjjhhbcgcmaaGreat

namespace Go.Proofs.YtjcfjjhhbcgcmaaGreat
open Go.RowKit
theorem byte_at (l : List UInt8) (k : Nat) (c : UInt8) (hk : k < l.length) (hc : l[k] = c) : ∀ h : k < ByteArray.size ⟨l.toArray⟩, (⟨l.toArray⟩ : ByteArray)[k] = c := by
  intro h; exact hc
end Go.Proofs.YtjcfjjhhbcgcmaaGreat

namespace Go.Proofs.YtjcfjjhhbcgcmaaGreat
open Go.RowKit
def rest (l : List UInt8) : List UInt8 := match rd 0 0 l with | none => [] | some (_, r) => r
end Go.Proofs.YtjcfjjhhbcgcmaaGreat

namespace Go.Proofs.YtjcfjjhhbcgcmaaGreat
open Go.RowKit
theorem quietly {P : Program} {f : FuncId} {args : Array Value} {w : World} {n : Nat} {v : Value}
    (h : Calls P f args (w.drewN n) fun e w' => e = .returned v ∧ w.drewN n = w') : Calls P f args (w.drewN n) fun e w'' => e = .returned v ∧ ∃ m, w'' = w.drewN m := h.mono fun _ _ ⟨he, hm⟩ => ⟨he, n, hm.symm⟩
end Go.Proofs.YtjcfjjhhbcgcmaaGreat
