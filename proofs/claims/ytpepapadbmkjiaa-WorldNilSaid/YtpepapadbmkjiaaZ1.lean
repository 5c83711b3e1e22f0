/-
  Joined: Base, Frame, Row, Slc, MathVint, Sv, At0, Vint3, Vint5, MathTx, Wld1, MathDelta, MathWld, MapG, KeyT, WldP1, W6, WldP2, WldP3, WldP4, Lib1, WldP6, Wld2, WldP5, WldP7, WldP8
-/
import Derived.Deep.Slices
import Derived.Lib.Zigzag
import Derived.Deep.QuietTactic
import Derived.BigQuiet
import Derived.Deep.RegionHeld3
import Derived.Deep.DrawnRows
import Derived.Shelf.Strings.Prefix
import Derived.Shelf.Sort.Plain
import Derived.Test.YtpepapadbmkjiaaProg
import Derived.Deep.Cut
import Derived.Maps.RangeWalk
import Derived.StillTail
import Derived.Laws.StructEq
import Derived.Laws.Rows
import Derived.Laws.ResultCell
import Derived.ArgAppend
import Derived.Deep.DeepAppendRoom
import Derived.BigFrame
import Derived.Lib.SmallJoins
import Derived.ProofKit
import Derived.OpenShut
import Derived.WalkKit
import Derived.WalkSpells
import Derived.Deep.AppendSrc
import Derived.Maps.AppendAt
import Derived.Lib.Hide
import Derived.Deep.Draws
import Derived.Lib.AppendStr
import Derived.Test.YtpepapadbmkjiaaRows
import Derived.ShutString
import Derived.ChangeOld
import Derived.Below
import Derived.Laws.CopyOwn
import Derived.Laws.OwnMore
import Derived.Lib.Varint
import Derived.Maps.OwnSet
import Derived.Maps.OwnOps
import Derived.Maps.Views
import Derived.Maps.Range
import Derived.WideKeyEntry
import Derived.BigRegion
import Derived.Lib.SliceRun
import Derived.Lib.AppendZeros
set_option linter.unusedVariables false
set_option linter.unusedSimpArgs false
set_option maxRecDepth 100000
namespace Go.Proofs.Ytpepapadbmkjiaa
open Go.RowKit
structure Fr (S : Nat → Prop) (w w' : World) : Prop where
  os : w'.os = w.os
  tape : w'.tape = w.tape
  output : w'.output = w.output
  size : w.heap.size ≤ w'.heap.size
  block : ∀ k, k < w.heap.size → ¬ S k → w'.heap[k]? = w.heap[k]?
def Non : Nat → Prop := fun _ => False
def One (g : Nat) : Nat → Prop := fun k => k = g
theorem Fr.refl (S : Nat → Prop) (w : World) : Fr S w w := ⟨rfl, rfl, rfl, Nat.le_refl _, fun _ _ _ => rfl⟩
theorem Fr.join {S S' : Nat → Prop} {w w1 w2 : World} (h : Fr S w w1) (h' : Fr S' w1 w2) (hs : ∀ k, k < w.heap.size → S' k → S k) : Fr S w w2 :=
  ⟨h'.os.trans h.os, h'.tape.trans h.tape, h'.output.trans h.output, Nat.le_trans h.size h'.size,
    fun k hk hn => (h'.block k (Nat.lt_of_lt_of_le hk h.size) (fun e => hn (hs k hk e))).trans (h.block k hk hn)⟩
theorem Fr.trans {S : Nat → Prop} {w w1 w2 : World} (h : Fr S w w1) (h' : Fr S w1 w2) : Fr S w w2 := h.join h' fun _ _ e => e
theorem Fr.then {S : Nat → Prop} {w w1 w2 : World} (h : Fr S w w1) (h' : Fr Non w1 w2) : Fr S w w2 := h.join h' fun _ _ e => e.elim
theorem Fr.mono {S S' : Nat → Prop} {w w' : World} (h : Fr S w w') (hs : ∀ k, k < w.heap.size → S k → S' k) : Fr S' w w' :=
  ⟨h.os, h.tape, h.output, h.size, fun k hk hn => h.block k hk fun e => hn (hs k hk e)⟩
theorem Fr.any {S : Nat → Prop} {w w' : World} (h : Fr Non w w') : Fr S w w' := h.mono fun _ _ e => e.elim
theorem Fr.fresh {S S' : Nat → Prop} {w w1 w2 : World} (h : Fr S w w1) (h' : Fr S' w1 w2) (hs : ∀ k, S' k → w.heap.size ≤ k) : Fr S w w2 :=
  h.join h' fun k hk e => absurd (hs k e) (by omega)
theorem Fr.drew {S : Nat → Prop} {w w' : World} (h : Fr S w w') : Fr S w w'.drew := ⟨h.os, h.tape, h.output, h.size, h.block⟩
theorem Fr.alloc {S : Nat → Prop} {w w' : World} (h : Fr S w w') (o : Obj) : Fr S w (w'.alloc o) :=
  h.then ⟨rfl, rfl, rfl, by simp, fun k hk _ => Below.heap_alloc _ _ _ hk⟩
theorem Fr.setCell {S : Nat → Prop} {w w' : World} (h : Fr S w w') {p : Addr} (hp : p.block < w.heap.size → S p.block) (u : Value) : Fr S w (w'.setCell p u) :=
  ⟨h.os, h.tape, h.output, by simpa [World.setCell] using h.size, fun k hk hn => (Below.heap_setCell w' p u k (fun e => hn (by subst e; exact hp hk))).trans (h.block k hk hn)⟩
theorem Fr.set1 {g : Nat} {w w' : World} (h : Fr (One g) w w') (i : Nat) (u : Value) : Fr (One g) w (w'.setCell ⟨g, i, none⟩ u) := h.setCell (p := ⟨g, i, none⟩) (fun _ => rfl) u
theorem Fr.below {w w' : World} (h : Fr Non w w') : Below w.heap.size w w' := ⟨h.os, h.tape, h.output, h.size, fun k hk => h.block k hk fun e => e⟩
theorem Fr.of_grown {w w' : World} {row : Option Nat} (h : w.grownBy w' row) : Fr (fun k => row = some k) w w' :=
  ⟨h.os, h.tape, h.output, h.size, fun k hk hn => h.block k hk (fun e => hn e.symm)⟩
theorem Fr.cell {S : Nat → Prop} {w w' : World} (h : Fr S w w') {p : Addr} (hp : p.block < w.heap.size) (hn : ¬ S p.block) : w'.cell? p = w.cell? p := World.cell?_of_block (h.block _ hp hn)
theorem ret_boolE {a b : Bool} (h : a = b) : Ending.returned (.bool a) = .returned (.bool b) := by rw [h]
def Blk (w : World) (g : Nat) (t : TypeId) (cs : Array Value) : Prop := w.heap[g]? = some (.cells cs t (0, 0))
theorem Blk.lt {w : World} {g : Nat} {t : TypeId} {cs : Array Value} (h : Blk w g t cs) : g < w.heap.size := (Array.getElem?_eq_some_iff.1 h).1
theorem Blk.cell {w : World} {g : Nat} {t : TypeId} {cs : Array Value} (h : Blk w g t cs) (i : Nat) : w.cell? ⟨g, i, none⟩ = cs[i]? := cell_of_row w g i cs t (0, 0) h
theorem Blk.frozen {w : World} {g : Nat} {t : TypeId} {cs : Array Value} (h : Blk w g t cs) (i : Nat) : w.frozen? ⟨g, i, none⟩ = false := by
  unfold Blk at h; simp [World.frozen?, h]
theorem Blk.new (w : World) (t : TypeId) (cs : Array Value) : Blk (w.alloc (.cells cs t)) w.heap.size t cs := heap_alloc_new w _
theorem Blk.fr {S : Nat → Prop} {w w' : World} {g : Nat} {t : TypeId} {cs : Array Value} (h : Blk w g t cs) (hf : Fr S w w') (hn : ¬ S g) : Blk w' g t cs := (hf.block g h.lt hn).trans h
theorem Blk.set {w : World} {g : Nat} {t : TypeId} {cs : Array Value} (h : Blk w g t cs) (i : Nat) (u : Value) : Blk (w.setCell ⟨g, i, none⟩ u) g t (cs.setIfInBounds i u) := by
  unfold Blk at h ⊢; simp [World.setCell, Array.getElem?_modify, h]
theorem Blk.drew {w : World} {g : Nat} {t : TypeId} {cs : Array Value} (h : Blk w g t cs) : Blk w.drew g t cs := h
def bv (b : UInt8) : Value := .int .u8 b.toNat
theorem bv_one (l : List UInt8) : ∀ u ∈ l.map bv, u.oneCell' = true := by
  intro u hu; obtain ⟨b, _, rfl⟩ := List.mem_map.1 hu; rfl
theorem info_u8 : (Try.prog.info? 5).map (fun i => (i.zero, i.size, i.bytes)) = some (some (.int .u8 0), 1, 1) := by kernel_rfl
theorem add_block (a : Addr) (n : Nat) : (a.add n).block = a.block := by unfold Addr.add; split <;> rfl
theorem add_add (a : Addr) (i j : Nat) : (a.add i).add j = a.add (i + j) := by
  unfold Addr.add
  by_cases hi : i = 0 <;> by_cases hj : j = 0 <;> simp [hi, hj, Nat.add_assoc]
def Bs (w : World) (v : Value) (l : List UInt8) : Prop :=
  ∃ A c, v = .slice A l.length c ∧ l.length ≤ c ∧ (A = none → c = 0) ∧ ∀ a, A = some a → ∀ j (h : j < l.length), w.cell? (a.add j) = some (bv l[j])
theorem Bs.nil_ (w : World) : Bs w (.slice none 0 0) [] := ⟨none, 0, rfl, Nat.le_refl _, fun _ => rfl, fun _ h => by cases h⟩
theorem Bs.keep {w w' : World} {v : Value} {l : List UInt8} (h : Bs w v l) (hk : ∀ k, v.ownBlock = some k → k < w.heap.size → w'.heap[k]? = w.heap[k]?) : Bs w' v l := by
  obtain ⟨A, c, rfl, h1, h2, h3⟩ := h
  refine ⟨A, c, rfl, h1, h2, fun a ha j hj => ?_⟩
  have := h3 a ha j hj
  subst ha
  have hb := World.block_lt_of_cell? w _ this
  rw [add_block] at hb
  rw [← this]
  exact World.cell?_of_block (by rw [add_block]; exact hk _ rfl hb)
theorem Bs.fr {S : Nat → Prop} {w w' : World} {v : Value} {l : List UInt8} (h : Bs w v l) (hf : Fr S w w') (hn : ∀ k, v.ownBlock = some k → ¬ S k) : Bs w' v l :=
  h.keep fun k hk hlt => hf.block k hlt (hn k hk)
theorem Bs.non {w w' : World} {v : Value} {l : List UInt8} (h : Bs w v l) (hf : Fr Non w w') : Bs w' v l := h.fr hf fun _ _ e => e
theorem Bs.drew {w : World} {v : Value} {l : List UInt8} (h : Bs w v l) : Bs w.drew v l := h
theorem Bs.shape {w : World} {v : Value} {l : List UInt8} (h : Bs w v l) : ∃ A c, v = .slice A l.length c := by
  obtain ⟨A, c, rfl, _⟩ := h; exact ⟨A, c, rfl⟩
theorem run_conv_Bs {P : Program} {w : World} {v : Value} {l : List UInt8} (h : Bs w v l) (src dst e : TypeId) (hs : P.underlying src = some (.slice e)) (he : P.underlying e = some (.int .u8)) (hd : P.underlying dst = some .string) :
    (convert src dst v).run P w = .ok (.string ⟨l.toArray⟩) w := by
  obtain ⟨A, c, rfl, hlc, hn, hc⟩ := h
  cases A with
  | none =>
    have := hn rfl
    have hl : l = [] := List.eq_nil_of_length_eq_zero (by omega)
    subst hl
    rw [run_convert_bytes_nil w src e hs he _ _ dst hd]; rfl
  | some a => exact run_convert_bytes_back w src dst e a c l hs he hd (hc a rfl)
def Own (w : World) (B : Nat) (v : Value) (l : List UInt8) : Prop := w.ownsRow B 5 1 v l.length (l.map bv)
theorem own_nil (w : World) (B : Nat) : Own w B (.slice none 0 0) [] := ⟨by simp, .inl ⟨rfl, rfl⟩⟩
theorem Own.lt {w : World} {B : Nat} {v : Value} {l : List UInt8} (h : Own w B v l) : ∀ k, v.ownBlock = some k → B ≤ k ∧ k < w.heap.size := World.ownsRow.lt h
theorem Own.bs {w : World} {B : Nat} {v : Value} {l : List UInt8} (h : Own w B v l) : Bs w v l := by
  rcases h.2 with ⟨rfl, h0⟩ | ⟨g, cap, cur, rfl, _, _, hle, _, _, _⟩
  · have hl : l = [] := List.eq_nil_of_length_eq_zero h0
    subst hl; exact Bs.nil_ w
  · refine ⟨_, cap, rfl, hle, (fun h => by cases h), fun a ha j hj => ?_⟩
    cases ha
    exact World.ownsRow.cells h (g := g) rfl j _ (by simp [hj])
theorem Own.keep {w w' : World} {B : Nat} {v : Value} {l : List UInt8} (h : Own w B v l) (hk : ∀ k, v.ownBlock = some k → w'.heap[k]? = w.heap[k]?) : Own w' B v l := by
  refine ⟨h.1, ?_⟩
  rcases h.2 with h2 | ⟨g, cap, cur, hv, hb, hg, r⟩
  · exact .inl h2
  · exact .inr ⟨g, cap, cur, hv, hb, by rw [hk g (by rw [hv]; rfl)]; exact hg, r⟩
theorem Own.fr {S : Nat → Prop} {w w' : World} {B : Nat} {v : Value} {l : List UInt8} (h : Own w B v l) (hf : Fr S w w') (hn : ∀ k, v.ownBlock = some k → ¬ S k) : Own w' B v l :=
  h.keep fun k hk => hf.block k (h.lt k hk).2 (hn k hk)
theorem Own.non {w w' : World} {B : Nat} {v : Value} {l : List UInt8} (h : Own w B v l) (hf : Fr Non w w') : Own w' B v l := h.fr hf fun _ _ e => e
theorem Own.alloc {w : World} {B : Nat} {v : Value} {l : List UInt8} (h : Own w B v l) (o : Obj) : Own (w.alloc o) B v l := h.non ((Fr.refl _ _).alloc o)
theorem Own.mono {w : World} {B B' : Nat} {v : Value} {l : List UInt8} (h : Own w B v l) (hB : B' ≤ B) : Own w B' v l := by
  refine ⟨h.1, ?_⟩
  rcases h.2 with h2 | ⟨g, cap, cur, hv, hb, r⟩
  · exact .inl h2
  · exact .inr ⟨g, cap, cur, hv, by omega, r⟩
theorem Own.row {w : World} {B : Nat} {v : Value} {l : List UInt8} (h : Own w B v l) (hn : l ≠ []) : ∃ g cap, v = .slice (some ⟨g, 0, none⟩) l.length cap ∧ B ≤ g ∧ g < w.heap.size ∧ l.length ≤ cap ∧ cap ≤ maxLen := by
  rcases h.2 with ⟨rfl, h0⟩ | ⟨g, cap, cur, rfl, hb, hg, hle, hm, _⟩
  · exact absurd (List.eq_nil_of_length_eq_zero h0) hn
  · exact ⟨g, cap, rfl, hb, (Array.getElem?_eq_some_iff.1 hg).1, hle, hm⟩
theorem Own.store {w : World} {B g n cap : Nat} {l : List UInt8} (h : Own w B (.slice (some ⟨g, 0, none⟩) n cap) l) (hn : n = l.length) (j : Nat) (b : UInt8) : Own (w.setCell ⟨g, j, none⟩ (bv b)) B (.slice (some ⟨g, 0, none⟩) n cap) (l.set j b) := by
  subst hn
  have := (World.ownsRow.stored h j (bv b)).1
  unfold Own
  rw [List.length_set, List.map_set]
  exact this
theorem Own.cell {w : World} {B g n cap : Nat} {l : List UInt8} (h : Own w B (.slice (some ⟨g, 0, none⟩) n cap) l) (hn : n = l.length) (j : Nat) (b : UInt8) (hb : l[j]? = some b) : w.cell? ⟨g, j, none⟩ = some (.int .u8 b.toNat) := by
  subst hn
  have hj : j < l.length := (List.getElem?_eq_some_iff.1 hb).1
  rw [World.ownsRow.cellAt h j (by omega), List.getElem?_map, hb]; rfl
theorem Own.frozen {w : World} {B g n cap : Nat} {l : List UInt8} (h : Own w B (.slice (some ⟨g, 0, none⟩) n cap) l) (hn : n = l.length) (j : Nat) : w.frozen? ⟨g, j, none⟩ = false := by
  subst hn; exact World.ownsRow.frozenAt h j
theorem own_lit0 (w : World) (B g : Nat) (hg : g = w.heap.size) (hB : B ≤ g) : Own (w.alloc (.cells #[] 5)) B (.slice (some ⟨g, 0, none⟩) 0 0) [] := by
  subst hg
  exact World.ownsRow_lit w #[] 0 hB (by unfold maxLen; omega) rfl
theorem Own.drew {w : World} {B : Nat} {v : Value} {l : List UInt8} (h : Own w B v l) : Own w.drew B v l := h
theorem wp_app {w : World} {o : Oper} {a : Act} {K : Act → World → Prop} {Q : Exit → Act → World → Prop} (s x : Operand)
    (ho : o.op = .call { callee := .builtin .append, args := #[s, x], argTypes := #[23, 23] })
    (B : Nat) (v y : Value) (l m : List UInt8) (hs : a.eval s = v) (hown : Own w B v l) (hx : a.eval x = y) (hy : Bs w y m)
    (hl : l.length + m.length < 140737488355328) (hB : B ≤ w.heap.size)
    (h : ∀ v' w', Own w' B v' (l ++ m) → Fr (fun k => v.ownBlock = some k) w w' → K (a.put o.dst v') w') : o.wp Try.prog a w K Q := by
  obtain ⟨i, hi, hz0, hz1, hz2⟩ := info_parts info_u8
  obtain ⟨A, c, rfl, hmc, hn, hcells⟩ := hy
  cases A with
  | some ad =>
    refine wp_append_own w s x 23 ho B 5 i _ 1 1 Try.underlying23 hi hz0 hz1 hz2 rfl (by omega) v l.length (l.map bv) hs hown ad m.length c (m.map bv) hx (by simp) ?_ (bv_one m) (by unfold maxLen; omega) (by omega) hB ?_
    · intro j u hu
      have hj : j < m.length := by simpa using (List.getElem?_eq_some_iff.1 hu).1
      rw [hcells ad rfl j hj]
      simpa [hj] using hu
    · intro v' w' h1 h2 _
      refine h v' w' ?_ (Fr.of_grown h2)
      unfold Own; simpa using h1
  | none =>
    have hm : m = [] := List.eq_nil_of_length_eq_zero (by have := hn rfl; omega)
    subst hm
    have hc : c = 0 := hn rfl
    subst hc
    have hrun := run_append_owned_none (P := Try.prog) (w := w) B 23 o.type 5 i 1 Try.underlying23 hi v l.length (l.map bv) hown
    unfold Oper.wp
    have hx' : a.eval x = .slice none 0 0 := hx
    simp [execOp, ho, resolve, invoke, builtin, hs, hx', hrun, Result.andThen]
    exact h v w (by simpa using hown) (Fr.refl _ _)
theorem wpList_app {w : World} {ops : Array Oper} {rest : List Oper} {o : Oper} {a : Act} {Q : Exit → Act → World → Prop} (hgd : o.guard = none) (s x : Operand)
    (ho : o.op = .call { callee := .builtin .append, args := #[s, x], argTypes := #[23, 23] })
    (B : Nat) (v y : Value) (l m : List UInt8) (hs : a.eval s = v) (hown : Own w B v l) (hx : a.eval x = y) (hy : Bs w y m)
    (hl : l.length + m.length < 140737488355328) (hB : B ≤ w.heap.size)
    (h : ∀ v' w', Own w' B v' (l ++ m) → Fr (fun k => v.ownBlock = some k) w w' → wpList Try.prog ops Q rest (a.put o.dst v') w') : wpList Try.prog ops Q (o :: rest) a w :=
  wpList_plain hgd fun _ hK => wp_app s x ho B v y l m hs hown hx hy hl hB fun v' w' h1 h2 => hK _ _ (h v' w' h1 h2)
end Go.Proofs.Ytpepapadbmkjiaa

namespace Go.Proofs.Ytpepapadbmkjiaa
open Go.ChangeShapes Go.WideShapes Go.ChangeAt Go.RowKit
theorem frame_own : ownKnob Try.prog.godebug = none := by kernel_rfl
theorem frame_laidOut : laidOutB Try.prog = true := by kernel_rfl
theorem trodAll_below {H : Type} {enc : TypeId × Value → H} {W W' : World} (hb : Below W.heap.size W W') :
    ∀ (ts : List TypeId) (vs : List Value) (ds : List (DataW H)) (ps : List MemPlace), (∀ t ∈ ts, Try.prog.readableRec t = true ∧ t < Try.prog.types.size) →
      DataW.TrodAll enc Try.prog W 0 (fun _ => true) true ts vs ds ps → DataW.TrodAll enc Try.prog W' 0 (fun b => decide (b < W.heap.size)) true ts vs ds ps := by
  intro ts
  induction ts with
  | nil => intro vs ds ps _ h; cases vs <;> cases ds <;> simp_all [DataW.TrodAll]
  | cons t ts ih =>
    intro vs ds ps hr h
    cases vs with
    | nil => cases ds <;> simp_all [DataW.TrodAll]
    | cons v vs =>
      cases ds with
      | nil => simp_all [DataW.TrodAll]
      | cons d ds =>
        obtain ⟨p, q, h1, h2, rfl⟩ := h
        have hlt : ∀ x ∈ p, x.block < W.heap.size := by obtain ⟨m, hm⟩ := h1; exact DataW.trod_lt m _ _ _ hm
        have ht := hr t (List.mem_cons_self ..)
        exact ⟨p, q, Below.trod frame_laidOut ht.1 ht.2 h1 hb hlt, ih vs ds q (fun u hu => hr u (List.mem_cons_of_mem _ hu)) h2, rfl⟩
noncomputable def typesOk (ts : List TypeId) : Bool := ts.all fun t => Try.prog.readableRec t && decide (t < Try.prog.types.size)
theorem types_ok (ts : List TypeId) (h : typesOk ts = true) : ∀ t ∈ ts, Try.prog.readableRec t = true ∧ t < Try.prog.types.size := by
  intro t ht
  have := List.all_eq_true.1 h t ht
  simpa using this
theorem slice_in {W : World} {base : Nat} {t e : TypeId} {v : Value} (ht : Try.prog.underlying t = some (.slice e)) (hv : Value.okWide Try.prog W .any base t v) :
    v = .slice none 0 0 ∨ ∃ b o n c, v = .slice (some ⟨b, o, none⟩) n c ∧ n ≤ c ∧ b < W.heap.size := by
  obtain ⟨a, n, c, rfl⟩ := okWide_slice ht hv
  simp only [Value.okWide, ht, Cell.okWide] at hv
  cases a with
  | none =>
    left
    simp only [Cell.ok, ht] at hv
    cases n <;> cases c <;> simp_all
  | some a =>
    right
    simp only [Cell.ok, ht] at hv
    obtain ⟨h1, _, _, h2, row, cells, h3, _⟩ := hv
    obtain ⟨b, o, sp⟩ := a
    simp only at h2 h3
    subst h2
    refine ⟨b, o, n, c, rfl, h1, ?_⟩
    rcases Nat.lt_or_ge b W.heap.size with h | h
    · exact h
    · unfold World.shape? at h3
      rw [Array.getElem?_eq_none h] at h3
      cases h3
theorem bs_in {H : Type} {enc : TypeId × Value → H} {W : World} {base : Nat} {v : Value} {d : DataW H} {p : List MemPlace} (hv : Value.okWide Try.prog W .any base 23 v)
    (h : DataW.Trod enc Try.prog W 0 (fun _ => true) true 23 v d p) : ∃ l, Bs W v l ∧ l.length ≤ maxLen ∧ ∀ k, v.ownBlock = some k → k < W.heap.size := by
  rcases slice_in Try.underlying23 hv with rfl | ⟨b, o, len0, cap0, rfl, _, hblt⟩
  · exact ⟨[], Bs.nil_ W, Nat.zero_le _, fun _ h => by cases h⟩
  obtain ⟨fuel, hf⟩ := h
  rcases open_ints Try.underlying23 Try.underlying5 (by kernel_rfl) hf with ⟨hcs, _⟩ | ⟨x, l, c, zs, hcs, _, hl, hm, hz, _, hcell, hwz⟩
  · simp [Value.cells] at hcs
  · simp [Value.cells] at hcs
    obtain ⟨rfl, rfl, rfl⟩ := hcs
    have hzl : zs.length = cap0 := by simpa using hz
    have hlen : ((zs.take len0).map fun n => UInt8.ofNat n.toNat).length = len0 := by simp; omega
    refine ⟨(zs.take len0).map fun n => UInt8.ofNat n.toNat, ⟨_, cap0, by rw [hlen], by rw [hlen]; exact hl, (fun h => by cases h), fun a ha j hj => ?_⟩, by rw [hlen]; omega, fun k hk => ?_⟩
    · cases ha
      rw [hlen] at hj
      rw [hcell j (by omega)]
      have hw := hwz (zs.getD j 0) (by rw [← List.getElem_eq_getD (h := by omega) 0]; exact List.getElem_mem _)
      have hb : 0 ≤ zs.getD j 0 ∧ zs.getD j 0 ≤ 255 := by simpa [Lit.wf, IntKind.min, IntKind.max, IntKind.signed, IntKind.bits] using hw
      have he : ((zs.take len0).map fun n => UInt8.ofNat n.toNat)[j]'(by rw [hlen]; exact hj) = UInt8.ofNat (zs.getD j 0).toNat := by
        rw [List.getElem_map, List.getElem_take, ← List.getElem_eq_getD (h := by omega) 0]
      rw [he]
      unfold bv
      rw [show ((UInt8.ofNat (zs.getD j 0).toNat).toNat : Int) = zs.getD j 0 by rw [UInt8.toNat_ofNat']; omega]
    · simp [Value.ownBlock] at hk
      omega
end Go.Proofs.Ytpepapadbmkjiaa

namespace Go.Proofs.Ytpepapadbmkjiaa
open Go.RowKit
theorem row_keep {w w' : World} {B : Nat} {E : TypeId} {n : Nat} {v : Value} {xs : List Value} (h : w.ownsRow B E 1 v n xs) (hk : ∀ k, v.ownBlock = some k → w'.heap[k]? = w.heap[k]?) : w'.ownsRow B E 1 v n xs := by
  refine ⟨h.1, ?_⟩
  rcases h.2 with h2 | ⟨g, cap, cur, hv, hb, hg, r⟩
  · exact .inl h2
  · exact .inr ⟨g, cap, cur, hv, hb, by rw [hk g (by rw [hv]; rfl)]; exact hg, r⟩
theorem row_mono {w : World} {B B' : Nat} {E : TypeId} {n : Nat} {v : Value} {xs : List Value} (h : w.ownsRow B E 1 v n xs) (hB : B' ≤ B) : w.ownsRow B' E 1 v n xs := by
  refine ⟨h.1, ?_⟩
  rcases h.2 with h2 | ⟨g, cap, cur, hv, hb, r⟩
  · exact .inl h2
  · exact .inr ⟨g, cap, cur, hv, by omega, r⟩
def iv (n : Int) : Value := .int .i64 n
end Go.Proofs.Ytpepapadbmkjiaa

namespace Go.Proofs.Ytpepapadbmkjiaa
open Go.RowKit
def Vs {α : Type} (f : α → Value) (w : World) (v : Value) (l : List α) : Prop :=
  ∃ A c, v = .slice A l.length c ∧ l.length ≤ c ∧ (A = none → c = 0) ∧ ∀ a, A = some a → ∀ j (h : j < l.length), w.cell? (a.add j) = some (f l[j])
def Ow {α : Type} (f : α → Value) (E : TypeId) (w : World) (B : Nat) (v : Value) (l : List α) : Prop := w.ownsRow B E 1 v l.length (l.map f)
structure El (T E : TypeId) (z : Value) (by_ : Nat) : Prop where
  under : Try.prog.underlying T = some (.slice E)
  info : (Try.prog.info? E).map (fun i => (i.zero, i.size, i.bytes)) = some (some z, 1, by_)
  cells : z.cells = #[z]
  small : by_ ≤ 64
  elem : Try.prog.elem T = E
  sz : ∀ w, (sizeOf (Try.prog.elem T)).run Try.prog w = .ok 1 w
section
variable {α : Type} {f : α → Value}
theorem Vs.nil_ (w : World) : Vs f w (.slice none 0 0) [] := ⟨none, 0, rfl, Nat.le_refl _, fun _ => rfl, fun _ h => by cases h⟩
theorem Vs.keep {w w' : World} {v : Value} {l : List α} (h : Vs f w v l) (hk : ∀ k, v.ownBlock = some k → k < w.heap.size → w'.heap[k]? = w.heap[k]?) : Vs f w' v l := by
  obtain ⟨A, c, rfl, h1, h2, h3⟩ := h
  refine ⟨A, c, rfl, h1, h2, fun a ha j hj => ?_⟩
  have := h3 a ha j hj
  subst ha
  have hb := World.block_lt_of_cell? w _ this
  rw [add_block] at hb
  rw [← this]
  exact World.cell?_of_block (by rw [add_block]; exact hk _ rfl hb)
theorem Vs.fr {S : Nat → Prop} {w w' : World} {v : Value} {l : List α} (h : Vs f w v l) (hf : Fr S w w') (hn : ∀ k, v.ownBlock = some k → ¬ S k) : Vs f w' v l :=
  h.keep fun k hk hlt => hf.block k hlt (hn k hk)
theorem Vs.non {w w' : World} {v : Value} {l : List α} (h : Vs f w v l) (hf : Fr Non w w') : Vs f w' v l := h.fr hf fun _ _ e => e
theorem Vs.drew {w : World} {v : Value} {l : List α} (h : Vs f w v l) : Vs f w.drew v l := h
theorem Vs.shape {w : World} {v : Value} {l : List α} (h : Vs f w v l) : ∃ A c, v = .slice A l.length c := by
  obtain ⟨A, c, rfl, _⟩ := h; exact ⟨A, c, rfl⟩
theorem Vs.addr {w : World} {A : Option Addr} {n c : Nat} {l : List α} (h : Vs f w (.slice A n c) l) (hl : 0 < n) : ∃ a, A = some a ∧ n = l.length ∧ n ≤ c ∧ ∀ j (h : j < l.length), w.cell? (a.add j) = some (f l[j]) := by
  obtain ⟨A0, c0, he, h1, h2, h3⟩ := h
  simp only [Value.slice.injEq] at he
  obtain ⟨rfl, rfl, rfl⟩ := he
  cases A with
  | none => have := h2 rfl; omega
  | some a => exact ⟨a, rfl, rfl, h1, h3 a rfl⟩
theorem vs_row (w : World) (l : List α) (E : TypeId) (fr : Nat × Nat) : Vs f (w.alloc (.cells (l.map f).toArray E fr)) (.slice (some ⟨w.heap.size, 0, none⟩) l.length l.length) l := by
  refine ⟨_, _, rfl, Nat.le_refl _, (fun h => by cases h), fun a ha j hj => ?_⟩
  cases ha
  rw [Addr.add_lit, Nat.zero_add, cell_of_row _ w.heap.size j _ _ fr (heap_alloc_new w _)]
  simp [hj]
variable {E : TypeId}
theorem ow_nil (w : World) (B : Nat) : Ow f E w B (.slice none 0 0) [] := ⟨by simp, .inl ⟨rfl, rfl⟩⟩
theorem Ow.lt {w : World} {B : Nat} {v : Value} {l : List α} (h : Ow f E w B v l) : ∀ k, v.ownBlock = some k → B ≤ k ∧ k < w.heap.size := World.ownsRow.lt h
theorem Ow.vs {w : World} {B : Nat} {v : Value} {l : List α} (h : Ow f E w B v l) : Vs f w v l := by
  rcases h.2 with ⟨rfl, h0⟩ | ⟨g, cap, cur, rfl, _, _, hle, _, _, _⟩
  · have hl : l = [] := List.eq_nil_of_length_eq_zero h0
    subst hl; exact Vs.nil_ w
  · refine ⟨_, cap, rfl, hle, (fun h => by cases h), fun a ha j hj => ?_⟩
    cases ha
    exact World.ownsRow.cells h (g := g) rfl j _ (by simp [hj])
theorem Ow.shape {w : World} {B : Nat} {v : Value} {l : List α} (h : Ow f E w B v l) : ∃ A c, v = .slice A l.length c := h.vs.shape
theorem Ow.keep {w w' : World} {B : Nat} {v : Value} {l : List α} (h : Ow f E w B v l) (hk : ∀ k, v.ownBlock = some k → w'.heap[k]? = w.heap[k]?) : Ow f E w' B v l := row_keep h hk
theorem Ow.fr {S : Nat → Prop} {w w' : World} {B : Nat} {v : Value} {l : List α} (h : Ow f E w B v l) (hf : Fr S w w') (hn : ∀ k, v.ownBlock = some k → ¬ S k) : Ow f E w' B v l :=
  h.keep fun k hk => hf.block k (h.lt k hk).2 (hn k hk)
theorem Ow.non {w w' : World} {B : Nat} {v : Value} {l : List α} (h : Ow f E w B v l) (hf : Fr Non w w') : Ow f E w' B v l := h.fr hf fun _ _ e => e
theorem Ow.alloc {w : World} {B : Nat} {v : Value} {l : List α} (h : Ow f E w B v l) (o : Obj) : Ow f E (w.alloc o) B v l := h.non ((Fr.refl _ _).alloc o)
theorem Ow.drew {w : World} {B : Nat} {v : Value} {l : List α} (h : Ow f E w B v l) : Ow f E w.drew B v l := h
theorem Ow.mono {w : World} {B B' : Nat} {v : Value} {l : List α} (h : Ow f E w B v l) (hB : B' ≤ B) : Ow f E w B' v l := row_mono h hB
theorem Ow.row {w : World} {B : Nat} {v : Value} {l : List α} (h : Ow f E w B v l) (hn : 0 < l.length) : ∃ g cap, v = .slice (some ⟨g, 0, none⟩) l.length cap ∧ B ≤ g ∧ g < w.heap.size ∧ l.length ≤ cap ∧ cap ≤ maxLen := by
  rcases h.2 with ⟨rfl, h0⟩ | ⟨g, cap, cur, rfl, hb, hg, hle, hm, _⟩
  · omega
  · exact ⟨g, cap, rfl, hb, (Array.getElem?_eq_some_iff.1 hg).1, hle, hm⟩
theorem Ow.cell {w : World} {B g n cap : Nat} {l : List α} (h : Ow f E w B (.slice (some ⟨g, 0, none⟩) n cap) l) (hn : n = l.length) (j : Nat) (x : α) (hb : l[j]? = some x) : w.cell? ⟨g, j, none⟩ = some (f x) := by
  subst hn
  have hj : j < l.length := (List.getElem?_eq_some_iff.1 hb).1
  rw [World.ownsRow.cellAt h j (by omega), List.getElem?_map, hb]; rfl
theorem Ow.frozen {w : World} {B g n cap : Nat} {l : List α} (h : Ow f E w B (.slice (some ⟨g, 0, none⟩) n cap) l) (hn : n = l.length) (j : Nat) : w.frozen? ⟨g, j, none⟩ = false := by
  subst hn; exact World.ownsRow.frozenAt h j
theorem Ow.store {w : World} {B g n cap : Nat} {l : List α} (h : Ow f E w B (.slice (some ⟨g, 0, none⟩) n cap) l) (hn : n = l.length) (j : Nat) (x : α) : Ow f E (w.setCell ⟨g, j, none⟩ (f x)) B (.slice (some ⟨g, 0, none⟩) n cap) (l.set j x) := by
  subst hn
  have := (World.ownsRow.stored h j (f x)).1
  unfold Ow
  rw [List.length_set, List.map_set]
  exact this
theorem ow_lit (w : World) (B g : Nat) (l : List α) (cs : Array Value) (hcs : cs.toList = l.map f) (hg : g = w.heap.size) (hB : B ≤ g) (hm : l.length ≤ maxLen) : Ow f E (w.alloc (.cells cs E)) B (.slice (some ⟨g, 0, none⟩) l.length l.length) l := by
  subst hg
  unfold Ow
  rw [← hcs]
  exact World.ownsRow_lit w cs l.length hB hm (by have := congrArg List.length hcs; simpa using this)
theorem ow_lit0 (w : World) (B g : Nat) (hg : g = w.heap.size) (hB : B ≤ g) : Ow f E (w.alloc (.cells #[] E)) B (.slice (some ⟨g, 0, none⟩) 0 0) [] :=
  ow_lit w B g [] #[] rfl hg hB (by unfold maxLen; simp)
variable {T : TypeId} {z : Value} {by_ : Nat}
theorem wpList_appG (hE : El T E z by_) (hf1 : ∀ x, (f x).oneCell' = true) {w : World} {ops : Array Oper} {rest : List Oper} {o : Oper} {a : Act} {Q : Exit → Act → World → Prop} (hgd : o.guard = none) (s x : Operand)
    (ho : o.op = .call { callee := .builtin .append, args := #[s, x], argTypes := #[T, T] })
    (B : Nat) (v y : Value) (l m : List α) (hs : a.eval s = v) (hown : Ow f E w B v l) (hx : a.eval x = y) (hy : Vs f w y m)
    (hl : l.length + m.length < 1099511627776) (hB : B ≤ w.heap.size)
    (h : ∀ v' w', Ow f E w' B v' (l ++ m) → Fr (fun k => v.ownBlock = some k) w w' → wpList Try.prog ops Q rest (a.put o.dst v') w') : wpList Try.prog ops Q (o :: rest) a w := by
  refine wpList_plain hgd fun K hK => ?_
  obtain ⟨i, hi, hz0, hz1, hz2⟩ := info_parts hE.info
  have hs' := hE.small
  have hzc : z.cells.size = 1 := by rw [hE.cells]; rfl
  have hbl : (l.length + m.length) * by_ ≤ 140737488355328 := by
    have := Nat.mul_le_mul (show l.length + m.length ≤ 1099511627776 by omega) hs'
    omega
  obtain ⟨A, c, rfl, hmc, hn, hcells⟩ := hy
  cases A with
  | some ad =>
    refine wp_append_own w s x T ho B E i z 1 by_ hE.under hi hz0 hz1 hz2 hzc (by omega) v l.length (l.map f) hs hown ad m.length c (m.map f) hx (by simp) ?_ (by intro u hu; obtain ⟨b, _, rfl⟩ := List.mem_map.1 hu; exact hf1 b) (by unfold maxLen; omega) (by omega) hB ?_
    · intro j u hu
      have hj : j < m.length := by simpa using (List.getElem?_eq_some_iff.1 hu).1
      rw [hcells ad rfl j hj]
      simpa [hj] using hu
    · intro v' w' h1 h2 _
      refine hK _ _ (h v' w' ?_ (Fr.of_grown h2))
      unfold Ow; simpa using h1
  | none =>
    have hm : m = [] := List.eq_nil_of_length_eq_zero (by have := hn rfl; omega)
    subst hm
    have hc : c = 0 := hn rfl
    subst hc
    have hrun := run_append_owned_none (P := Try.prog) (w := w) B T o.type E i 1 hE.under hi v l.length (l.map f) hown
    unfold Oper.wp
    have hx' : a.eval x = .slice none 0 0 := hx
    simp [execOp, ho, resolve, invoke, builtin, hs, hx', hrun, Result.andThen]
    exact hK _ _ (h v w (by simpa using hown) (Fr.refl _ _))
theorem slice_loG (hE : El T E z by_) (A : Option Addr) (n c k : Nat) (kl : IntKind) (y : Int) (hy : y = (k : Int)) (hk : k ≤ n) (hn : n ≤ c) :
    ∃ A' c', (∀ W, (Instr.slice T (.slice A n c) (some (.int kl y)) none none).run Try.prog W = .ok (.slice A' (n - k) c') W) ∧
      (∀ {α : Type} (f : α → Value) W (l : List α), l.length = n → Vs f W (.slice A n c) l → Vs f W (.slice A' (n - k) c') (l.drop k)) ∧ (Value.slice A' (n - k) c').ownBlock = (Value.slice A n c).ownBlock := by
  subst hy
  refine ⟨if c = k then A else A.map (·.add k), c - k, fun W => ?_, ?_, ?_⟩
  · rw [run_slice_any W T A n c (by rw [hE.elem]; exact hE.under)]
    have hb : (Instr.sliceBounds true n c (some (.int kl (k : Int))) none none).run Try.prog W = .ok (k, n, c) W := by
      simp [Instr.sliceBounds, run_sliceBound, hk, hn]
    rw [hb]
    simp only [Result.andThen_ok, hE.sz]
    simp [sliced]
  · rintro α f W l hl ⟨A0, c0, he, h1, h2, h3⟩
    simp only [Value.slice.injEq] at he
    obtain ⟨rfl, hl', rfl⟩ := he
    refine ⟨if c = k then A else A.map (·.add k), c - k, by rw [List.length_drop, hl], by rw [List.length_drop]; omega, fun e => ?_, fun a ha j hj => ?_⟩
    · split at e
      · have := h2 e; omega
      · have := h2 (by simpa using e); omega
    · rw [List.length_drop] at hj
      rw [if_neg (by omega)] at ha
      cases A with
      | none => cases ha
      | some b =>
        obtain rfl : b.add k = a := by simpa using ha
        rw [add_add, h3 b rfl (k + j) (by omega)]
        simp
  · split
    · cases A <;> rfl
    · cases A <;> simp [Value.ownBlock, add_block]
theorem slice_lhG (hE : El T E z by_) (A : Option Addr) (n c k m : Nat) (kl kh : IntKind) (y x : Int) (hy : y = (k : Int)) (hx : x = (m : Int)) (hk : k ≤ m) (hm : m ≤ n) (hn : n ≤ c) :
    ∃ A' c', (∀ W, (Instr.slice T (.slice A n c) (some (.int kl y)) (some (.int kh x)) none).run Try.prog W = .ok (.slice A' (m - k) c') W) ∧
      (∀ {α : Type} (f : α → Value) W (l : List α), l.length = n → Vs f W (.slice A n c) l → Vs f W (.slice A' (m - k) c') ((l.drop k).take (m - k))) ∧ (Value.slice A' (m - k) c').ownBlock = (Value.slice A n c).ownBlock := by
  subst hy hx
  refine ⟨if c = k then A else A.map (·.add k), c - k, fun W => ?_, ?_, ?_⟩
  · rw [run_slice_any W T A n c (by rw [hE.elem]; exact hE.under)]
    have hb : (Instr.sliceBounds true n c (some (.int kl (k : Int))) (some (.int kh (m : Int))) none).run Try.prog W = .ok (k, m, c) W := by
      simp [Instr.sliceBounds, run_sliceBound, hk, show m ≤ c by omega]
    rw [hb]
    simp only [Result.andThen_ok, hE.sz]
    simp [sliced]
  · rintro α f W l hl ⟨A0, c0, he, h1, h2, h3⟩
    simp only [Value.slice.injEq] at he
    obtain ⟨rfl, hl', rfl⟩ := he
    refine ⟨if c = k then A else A.map (·.add k), c - k, by rw [List.length_take, List.length_drop, hl]; congr 1; omega, by rw [List.length_take, List.length_drop]; omega, fun e => ?_, fun a ha j hj => ?_⟩
    · split at e
      · have := h2 e; omega
      · have := h2 (by simpa using e); omega
    · rw [List.length_take, List.length_drop] at hj
      rw [if_neg (by omega)] at ha
      cases A with
      | none => cases ha
      | some b =>
        obtain rfl : b.add k = a := by simpa using ha
        rw [add_add, h3 b rfl (k + j) (by omega)]
        simp
  · split
    · cases A <;> rfl
    · cases A <;> simp [Value.ownBlock, add_block]
end
theorem iv_oneC (n : Int) : (iv n).oneCell' = true := rfl
theorem el_u8 : El 23 5 (.int .u8 0) 1 := ⟨Try.underlying23, by kernel_rfl, rfl, by decide, by kernel_rfl, fun _ => by kernel_rfl⟩
theorem el_int : El 31 3 (.int .i64 0) 8 := ⟨Try.underlying31, by kernel_rfl, rfl, by decide, by kernel_rfl, fun _ => by kernel_rfl⟩
theorem Bs.vs {w : World} {v : Value} {l : List UInt8} (h : Bs w v l) : Vs bv w v l := h
theorem Vs.bs {w : World} {v : Value} {l : List UInt8} (h : Vs bv w v l) : Bs w v l := h
theorem Ow.own {w : World} {B : Nat} {v : Value} {l : List UInt8} (h : Ow bv 5 w B v l) : Own w B v l := h
end Go.Proofs.Ytpepapadbmkjiaa

namespace Go.Proofs.Ytpepapadbmkjiaa
def rd (i acc : Nat) : List UInt8 → Option (Nat × List UInt8)
  | [] => none
  | c :: r => if (i = 9 ∧ 1 < c.toNat) ∨ (0 < i ∧ c.toNat = 0) then none else if c.toNat < 128 then some (acc + c.toNat * 128 ^ i, r) else rd (i + 1) (acc + (c.toNat - 128) * 128 ^ i) r
end Go.Proofs.Ytpepapadbmkjiaa

namespace Go.Proofs.Ytpepapadbmkjiaa
open Go.RowKit
def sv (l : List UInt8) : Value := .string ⟨l.toArray⟩
end Go.Proofs.Ytpepapadbmkjiaa

namespace Go.Proofs.Ytpepapadbmkjiaa
open Go.RowKit
theorem add_none (a : Addr) : a.add 0 = a := by
  obtain ⟨B, o, e⟩ := a
  cases e <;> rfl
end Go.Proofs.Ytpepapadbmkjiaa

namespace Go.Proofs.Ytpepapadbmkjiaa
open Go.RowKit
theorem Own.shape {w : World} {B : Nat} {v : Value} {l : List UInt8} (h : Own w B v l) : ∃ A c, v = .slice A l.length c := h.bs.shape
end Go.Proofs.Ytpepapadbmkjiaa

namespace Go.Proofs.Ytpepapadbmkjiaa
open Go.RowKit
abbrev ptr (g : Nat) : Value := .pointer (some ⟨g, 0, none⟩)
def rest (l : List UInt8) : List UInt8 := match rd 0 0 l with | none => [] | some (_, r) => r
end Go.Proofs.Ytpepapadbmkjiaa

namespace Go.Proofs.Ytpepapadbmkjiaa
abbrev Tx := List UInt8
end Go.Proofs.Ytpepapadbmkjiaa

namespace Go.Proofs.Ytpepapadbmkjiaa
open Go.RowKit
def nmB24 (c : UInt8) : Bool := (decide (97 ≤ c.toNat ∧ c.toNat ≤ 122)) || (decide (48 ≤ c.toNat ∧ c.toNat ≤ 57)) || decide (c.toNat = 47) || decide (c.toNat = 46)
def nm24 (s : List UInt8) : Bool := s.all nmB24 && decide (1 ≤ s.length ∧ s.length ≤ 24)
end Go.Proofs.Ytpepapadbmkjiaa

namespace Go.Proofs.Ytpepapadbmkjiaa
def w6 (n : Int) : Int := (n + 9223372036854775808) % 18446744073709551616 - 9223372036854775808
end Go.Proofs.Ytpepapadbmkjiaa

namespace Go.Proofs.Ytpepapadbmkjiaa
open Go.RowKit
structure Wst where
  ks : List Tx
  ob : Tx → List UInt8
  fl : List Int
  fuse : Int
  dead : Bool
  steps : Int
  asked : Int
def newS : Wst := ⟨[], fun _ => [], [], -1, false, 0, 0⟩
def stepS (s : Wst) : Int × Wst := if s.dead = true then (8, s) else (0, { s with steps := w6 (s.steps + 1), fuse := if 0 < s.fuse then s.fuse - 1 else s.fuse, dead := decide (s.fuse = 1) })
def nextF (l : List Int) : Int := match l with | [] => 0 | f :: _ => if f = 1 ∨ f = 2 then f else 0
def faultS (s : Wst) : Wst := { s with asked := w6 (s.asked + 1), fl := s.fl.drop 1 }
def laidS (s : Wst) (n : Tx) (b : List UInt8) : Wst := { s with ks := n :: s.ks, ob := fun x => if x = n then b else s.ob x }
def goneS (s : Wst) (n : Tx) : Wst := { s with ks := s.ks.filter fun x => !decide (x = n) }
def reqS (s : Wst) (ok : Bool) (act : Wst → Int × Wst) : Int × Wst :=
  if ok = false then (1, s) else
  if s.dead = true then (8, s) else
  if nextF s.fl = 1 then (11, faultS (stepS s).2) else
  let r := act (faultS (stepS s).2)
  (if nextF s.fl = 2 then 11 else r.1, r.2)
def putS (s : Wst) (n : Tx) (b : List UInt8) (fresh : Bool) : Int × Wst :=
  reqS s (nm24 n && decide (b.length ≤ 1048576)) fun t => if fresh = true ∧ n ∈ t.ks then (6, t) else (0, laidS t n b)
def getN (s : Wst) (n : Tx) (o k : Int) : Int :=
  if nm24 n = false ∨ o < 0 ∨ k < -1 then 1 else if s.dead = true then 8 else if nextF s.fl ≠ 0 then 11 else
  if n ∈ s.ks then (if (s.ob n).length < o ∨ (s.ob n).length - o < k then 1 else 0) else 5
def getB (s : Wst) (n : Tx) (o k : Int) : List UInt8 :=
  if getN s n o k = 0 then ((s.ob n).drop o.toNat).take (if k = -1 then (s.ob n).length else k.toNat) else []
def getS (s : Wst) (n : Tx) (o k : Int) : Wst :=
  if nm24 n = false ∨ o < 0 ∨ k < -1 then s else if s.dead = true then s else faultS (stepS s).2
def failS (s : Wst) (l : List Int) : Wst := { s with fl := l }
end Go.Proofs.Ytpepapadbmkjiaa

namespace Go.Proofs.Ytpepapadbmkjiaa
open Go.RowKit Go.Maps
def rawR (v : Value) : Option (DataW Value × List MemPlace) := some (.held v, [])
theorem rawR_inv {v : Value} {d : DataW Value} {ps : List MemPlace} (h : rawR v = some (d, ps)) : d = .held v := by
  unfold rawR at h; simp at h; exact h.1.symm
section
variable {α : Type} {k : TypeId} {f : α → Value} {lit : α → Lit} {ok : α → Prop} {z : Value}
structure KeyG {α : Type} (k : TypeId) (f : α → Value) (lit : α → Lit) (ok : α → Prop) : Prop where
  law : Keyed Try.prog k
  of : ∀ x, ok x → keyOf Try.prog k (f x) = some (lit x)
  inj : ∀ x y, f x = f y → x = y
theorem KeyG.lits (h : KeyG k f lit ok) {x y : α} (hx : ok x) (hy : ok y) (e : lit x = lit y) : x = y :=
  h.inj _ _ (h.law.inj (h.of x hx) (by rw [e]; exact h.of y hy))
theorem KeyG.isLit (h : KeyG k f lit ok) {x : α} (hx : ok x) : WideAt.IsKeyLit (lit x) := h.law.key (h.of x hx)
def MapG (k : TypeId) (lit : α → Lit) (ok : α → Prop) (z : Value) (w : World) (b n : Nat) (ks : List α) (g : α → Value) : Prop :=
  ∃ D : DataW Value, w.ownsMap Try.prog k rawR b n D ∧ (∀ l, has D l = true ↔ ∃ x ∈ ks, l = lit x) ∧ (∀ x ∈ ks, ok x) ∧ ∀ x, ok x → D.atKey (lit x) (.held z) = .held (g x)
theorem MapG.lt {w : World} {b n : Nat} {ks : List α} {g : α → Value} (h : MapG k lit ok z w b n ks g) : b < w.heap.size := by
  obtain ⟨D, h1, _⟩ := h; exact h1.lt
theorem MapG.fr {S : Nat → Prop} {w w' : World} {b n : Nat} {ks : List α} {g : α → Value} (h : MapG k lit ok z w b n ks g) (hf : Fr S w w') (hn : ¬ S b) : MapG k lit ok z w' b n ks g := by
  obtain ⟨D, h1, h2⟩ := h
  have hlt := h1.lt
  obtain ⟨es, clock, hb, F, hs, hD⟩ := h1
  exact ⟨D, ⟨es, clock, (hf.block b hlt hn).trans hb, F, hs, hD⟩, h2⟩
theorem MapG.non {w w' : World} {b n : Nat} {ks : List α} {g : α → Value} (h : MapG k lit ok z w b n ks g) (hf : Fr Non w w') : MapG k lit ok z w' b n ks g := h.fr hf fun e => e
theorem MapG.congr {w : World} {b n : Nat} {ks ks' : List α} {g g' : α → Value} (h : MapG k lit ok z w b n ks g) (hk : ∀ x, x ∈ ks' ↔ x ∈ ks) (hg : ∀ x, ok x → g' x = g x) : MapG k lit ok z w b n ks' g' := by
  obtain ⟨D, h1, h2, h3, h4⟩ := h
  refine ⟨D, h1, fun l => ?_, fun x hx => h3 x ((hk x).1 hx), fun x hx => by rw [hg x hx]; exact h4 x hx⟩
  rw [h2 l]
  exact ⟨fun ⟨x, hx, e⟩ => ⟨x, (hk x).2 hx, e⟩, fun ⟨x, hx, e⟩ => ⟨x, (hk x).1 hx, e⟩⟩
theorem MapG.made (k : TypeId) (lit : α → Lit) (ok : α → Prop) (z : Value) (w : World) : MapG k lit ok z (w.alloc (.map #[] 0)) w.heap.size 0 [] (fun _ => z) :=
  ⟨.map [], World.ownsMap_made w _ _ _, fun l => by simp [has], fun x hx => by simp at hx, fun x _ => by simp [DataW.atKey]⟩
theorem MapG.frozen {w : World} {b n : Nat} {ks : List α} {g : α → Value} (h : MapG k lit ok z w b n ks g) : ∃ es clock, w.heap[b]? = some (.map es clock) := by
  obtain ⟨D, ⟨es, clock, hb, _⟩, _⟩ := h; exact ⟨es, clock, hb⟩
structure MapT (t k e : TypeId) (z : Value) : Prop where
  un : Try.prog.underlying t = some (.map k e)
  zero : ∀ w, (zeroValue e).run Try.prog w = .ok z w
theorem MapG.look {t e : TypeId} (T : MapT t k e z) (K : KeyG k f lit ok) {w : World} {b n : Nat} {ks : List α} {g : α → Value} (h : MapG k lit ok z w b n ks g) {y : α} (hy : ok y) : (Instr.lookup t (.map (some b)) (f y) false).run Try.prog w = .ok (g y) w := by
  obtain ⟨D, h1, h2, h3, h4⟩ := h
  obtain ⟨v, ps, hr, hv⟩ := h1.lookup K.law T.un (T.zero w) (zd := .held z) (zp := []) rfl (K.of y hy)
  have := rawR_inv hv
  rw [h4 y hy] at this
  injection this with e
  rw [e]; exact hr
theorem MapG.look2 [DecidableEq α] {t e : TypeId} (T : MapT t k e z) (K : KeyG k f lit ok) {w : World} {b n : Nat} {ks : List α} {g : α → Value} (h : MapG k lit ok z w b n ks g) {y : α} (hy : ok y) : (Instr.lookup t (.map (some b)) (f y) true).run Try.prog w = .ok (.tuple #[g y, .bool (decide (y ∈ ks))]) w := by
  obtain ⟨D, h1, h2, h3, h4⟩ := h
  obtain ⟨v, ps, hr, hv⟩ := h1.look_ok K.law T.un (T.zero w) (zd := .held z) (zp := []) rfl (K.of y hy)
  have := rawR_inv hv
  rw [h4 y hy] at this
  injection this with e
  have hb : has D (lit y) = decide (y ∈ ks) := by
    rw [Bool.eq_iff_iff, h2, decide_eq_true_eq]
    exact ⟨fun ⟨x, hx, e⟩ => by rw [K.lits hy (h3 x hx) e]; exact hx, fun h => ⟨y, h, rfl⟩⟩
  rw [e, ← hb]; exact hr
theorem MapG.put [DecidableEq α] (K : KeyG k f lit ok) {w w' : World} {b n : Nat} {ks : List α} {g : α → Value} {D : DataW Value} (h1 : w.ownsMap Try.prog k rawR b n D) (h2 : ∀ l, has D l = true ↔ ∃ x ∈ ks, l = lit x) (h3 : ∀ x ∈ ks, ok x) (h4 : ∀ x, ok x → D.atKey (lit x) (.held z) = .held (g x))
    {y : α} (hy : ok y) {u : Value} (h : w'.ownsMap Try.prog k rawR b (n + 1) (D.put (lit y) (.held u))) : MapG k lit ok z w' b (n + 1) (y :: ks) (fun x => if x = y then u else g x) := by
  have hm := h1.isMap
  refine ⟨_, h, fun l => ?_, fun x hx => ?_, fun x hx => ?_⟩
  · by_cases he : l = lit y
    · subst he
      rw [has_put_same hm (K.isLit hy)]
      exact ⟨fun _ => ⟨y, List.mem_cons_self .., rfl⟩, fun _ => rfl⟩
    · rw [has_put_other he, h2]
      constructor
      · rintro ⟨x, hx, e⟩; exact ⟨x, List.mem_cons_of_mem _ hx, e⟩
      · rintro ⟨x, hx, e⟩
        rcases List.mem_cons.1 hx with rfl | hx
        · exact absurd e he
        · exact ⟨x, hx, e⟩
  · rcases List.mem_cons.1 hx with rfl | hx
    · exact hy
    · exact h3 x hx
  · by_cases he : x = y
    · subst he
      rw [atKey_put_same hm (K.isLit hy)]; dsimp only; rw [if_pos rfl]
    · rw [atKey_put_other (fun e => he (K.lits hx hy e))]; dsimp only; rw [if_neg he]
      exact h4 x hx
theorem wp_putG [DecidableEq α] {t e : TypeId} (T : MapT t k e z) (K : KeyG k f lit ok) (w : World) {o : Oper} {a : Act} {C : Act → World → Prop} {Q : Exit → Act → World → Prop} (m x v : Operand) (hop : o.op = Op.mapUpdate t m x v)
    (b n : Nat) (ks : List α) (g : α → Value) (hm : a.eval m = .map (some b)) (hown : MapG k lit ok z w b n ks g) (hn : n < 1000000000) (y : α) (hy : ok y) (u : Value) (hx : a.eval x = f y) (hv : a.eval v = u)
    (hK : ∀ w', MapG k lit ok z w' b (n + 1) (y :: ks) (fun c => if c = y then u else g c) → Fr (One b) w w' → C (a.put o.dst undef) w') : o.wp Try.prog a w C Q := by
  obtain ⟨D, h1, h2, h3, h4⟩ := hown
  obtain ⟨w', hrun, hw', hg'⟩ := h1.update K.law T.un (by unfold maxLen; omega) (K.of y hy) (val := u) (d := .held u) (ps := []) rfl
  have := hK w' (MapG.put K h1 h2 h3 h4 hy hw') ((Fr.of_grown hg').mono fun k _ e => by simpa [One, eq_comm] using e)
  unfold Oper.wp
  simp [execOp, hop, hm, hx, hv, hrun, Result.andThen]
  exact this
end
end Go.Proofs.Ytpepapadbmkjiaa

namespace Go.Proofs.Ytpepapadbmkjiaa
open Go.RowKit Go.Maps
def litTx (x : Tx) : Lit := .string x
def okTx (x : Tx) : Prop := x.length ≤ 9223372036854775807
theorem keyOf_tx (x : Tx) (h : okTx x) : keyOf Try.prog 9 (sv x) = some (litTx x) := by
  unfold okTx at h
  have := Go.WideMaps.keyOf_string_mk (P := Try.prog) Try.underlying9 (s := ⟨x.toArray⟩) (by simpa [ByteArray.size, maxLen] using h)
  simpa [sv, litTx] using this
theorem sv_inj (x y : Tx) (h : sv x = sv y) : x = y := by
  simpa [sv] using h
theorem keyTx : KeyG 9 sv litTx okTx := ⟨string_keyed Try.underlying9, keyOf_tx, sv_inj⟩
theorem mapT_bs : MapT 42 9 23 (.slice none 0 0) := ⟨Try.underlying42, fun w => Try.zeroValue23 w⟩
end Go.Proofs.Ytpepapadbmkjiaa

namespace Go.Proofs.Ytpepapadbmkjiaa
open Go.RowKit
def pwC (m : Nat) (fv : Value) (f s a : Int) : Array Value := #[.map (some m), fv, .int .i64 f, .int .i64 s, .int .i64 a]
abbrev PwB (w : World) (g m : Nat) (fv : Value) (f s a : Int) : Prop := Blk w g 44 (pwC m fv f s a)
def PwF (w : World) (g m : Nat) (fv : Value) (f s a : Int) : Prop :=
  w.cell? ⟨g, 0, none⟩ = some (.map (some m)) ∧ w.cell? ⟨g, 1, none⟩ = some fv ∧ w.cell? ⟨g, 2, none⟩ = some (.int .i64 f) ∧ w.cell? ⟨g, 3, none⟩ = some (.int .i64 s) ∧ w.cell? ⟨g, 4, none⟩ = some (.int .i64 a) ∧
  w.frozen? ⟨g, 0, none⟩ = false ∧ w.frozen? ⟨g, 1, none⟩ = false ∧ w.frozen? ⟨g, 2, none⟩ = false ∧ w.frozen? ⟨g, 3, none⟩ = false ∧ w.frozen? ⟨g, 4, none⟩ = false
theorem PwB.facts {w : World} {g m : Nat} {fv : Value} {f s a : Int} (h : PwB w g m fv f s a) : PwF w g m fv f s a :=
  ⟨h.cell 0, h.cell 1, h.cell 2, h.cell 3, h.cell 4, h.frozen 0, h.frozen 1, h.frozen 2, h.frozen 3, h.frozen 4⟩
def FuR (f q : Int) : Prop := (f = q ∨ (f < 0 ∧ q = -1)) ∧ -9223372036854775808 ≤ f ∧ f ≤ 9223372036854775807
structure PWx (av : Nat → Prop) (n : Nat) (w : World) (g : Nat) (s : Wst) (m : Nat) (fv : Value) (f : Int) (h : Tx → Value) : Prop where
  blk : PwB w g m fv f s.steps s.asked
  map : MapG 9 litTx okTx (.slice none 0 0) w m n s.ks h
  fl : Vs iv w fv s.fl
  ob : ∀ x ∈ s.ks, Bs w (h x) (s.ob x) ∧ ∀ q, (h x).ownBlock = some q → q < w.heap.size ∧ q ≠ g ∧ q ≠ m ∧ ¬ av q
  gm : g ≠ m
  ag : ¬ av g
  am : ¬ av m
  af : ∀ q, fv.ownBlock = some q → q < w.heap.size ∧ q ≠ g ∧ q ≠ m ∧ ¬ av q
  fuse : FuR f s.fuse
  dd : s.dead = decide (s.fuse = 0)
  fll : ∀ x ∈ s.fl, -9223372036854775808 ≤ x ∧ x ≤ 9223372036854775807
  obl : ∀ x ∈ s.ks, (s.ob x).length ≤ 1048576
def PW (av : Nat → Prop) (n : Nat) (w : World) (g : Nat) (s : Wst) : Prop := ∃ m fv f h, PWx av n w g s m fv f h
theorem PWx.dead {av : Nat → Prop} {n : Nat} {w : World} {g : Nat} {s : Wst} {m : Nat} {fv : Value} {f : Int} {h : Tx → Value} (p : PWx av n w g s m fv f h) : (f == 0) = s.dead := by
  rw [p.dd]
  obtain ⟨h1, -⟩ := p.fuse
  rcases h1 with h1 | ⟨h1, h2⟩
  · rw [h1]; rfl
  · rw [h2]
    have : (f == 0) = false := by rw [beq_eq_false_iff_ne]; omega
    rw [this]; rfl
theorem PWx.lt {av : Nat → Prop} {n : Nat} {w : World} {g : Nat} {s : Wst} {m : Nat} {fv : Value} {f : Int} {h : Tx → Value} (p : PWx av n w g s m fv f h) : g < w.heap.size := p.blk.lt
theorem PW.ng {av : Nat → Prop} {n : Nat} {w : World} {g : Nat} {s : Wst} (p : PW av n w g s) : ¬ av g := by
  obtain ⟨m, fv, f, h, p⟩ := p
  exact p.ag
theorem PWx.keep {av S : Nat → Prop} {n : Nat} {w w' : World} {g : Nat} {s : Wst} {m : Nat} {fv : Value} {f : Int} {h : Tx → Value} (p : PWx av n w g s m fv f h) (hf : Fr S w w') (hS : ∀ k, S k → av k ∨ w.heap.size ≤ k) : PWx av n w' g s m fv f h := by
  have no : ∀ k, k < w.heap.size → ¬ av k → ¬ S k := fun k h1 h2 h3 => by
    rcases hS k h3 with h | h
    · exact h2 h
    · omega
  have hsz := hf.size
  exact ⟨p.blk.fr hf (no g p.blk.lt p.ag), p.map.fr hf (no m p.map.lt p.am), p.fl.fr hf fun q hq => no q (p.af q hq).1 (p.af q hq).2.2.2,
    fun x hx => ⟨Vs.fr (p.ob x hx).1 hf fun q hq => no q ((p.ob x hx).2 q hq).1 ((p.ob x hx).2 q hq).2.2.2, fun q hq => ⟨by have := ((p.ob x hx).2 q hq).1; omega, ((p.ob x hx).2 q hq).2⟩⟩,
    p.gm, p.ag, p.am, fun q hq => ⟨by have := (p.af q hq).1; omega, (p.af q hq).2⟩, p.fuse, p.dd, p.fll, p.obl⟩
theorem PW.keep {av S : Nat → Prop} {n : Nat} {w w' : World} {g : Nat} {s : Wst} (p : PW av n w g s) (hf : Fr S w w') (hS : ∀ k, S k → av k ∨ w.heap.size ≤ k) : PW av n w' g s := by
  obtain ⟨m, fv, f, h, p⟩ := p
  exact ⟨m, fv, f, h, p.keep hf hS⟩
theorem PWx.avoid {av av' : Nat → Prop} {n : Nat} {w : World} {g : Nat} {s : Wst} {m : Nat} {fv : Value} {f : Int} {h : Tx → Value} (p : PWx av n w g s m fv f h) (ha : ∀ k, av' k → av k ∨ w.heap.size ≤ k) : PWx av' n w g s m fv f h := by
  have no : ∀ k, k < w.heap.size → ¬ av k → ¬ av' k := fun k h1 h2 h3 => by
    rcases ha k h3 with h | h
    · exact h2 h
    · omega
  exact ⟨p.blk, p.map, p.fl, fun x hx => ⟨(p.ob x hx).1, fun q hq => by obtain ⟨h1, h2, h3, h4⟩ := (p.ob x hx).2 q hq; exact ⟨h1, h2, h3, no q h1 h4⟩⟩, p.gm, no g p.blk.lt p.ag, no m p.map.lt p.am,
    fun q hq => by obtain ⟨h1, h2, h3, h4⟩ := p.af q hq; exact ⟨h1, h2, h3, no q h1 h4⟩, p.fuse, p.dd, p.fll, p.obl⟩
theorem PW.avoid {av av' : Nat → Prop} {n : Nat} {w : World} {g : Nat} {s : Wst} (p : PW av n w g s) (ha : ∀ k, av' k → av k ∨ w.heap.size ≤ k) : PW av' n w g s := by
  obtain ⟨m, fv, f, h, p⟩ := p
  exact ⟨m, fv, f, h, p.avoid ha⟩
theorem PWx.set {av : Nat → Prop} {n : Nat} {w : World} {g : Nat} {s s' : Wst} {m : Nat} {fv : Value} {f f' : Int} {h : Tx → Value} (p : PWx av n w g s m fv f h) (i : Nat) (u : Value)
    (hc : (pwC m fv f s.steps s.asked).setIfInBounds i u = pwC m fv f' s'.steps s'.asked) (h1 : s'.ks = s.ks) (h2 : s'.ob = s.ob) (h3 : s'.fl = s.fl) (hf : FuR f' s'.fuse) (hd : s'.dead = decide (s'.fuse = 0)) : PWx av n (w.setCell ⟨g, i, none⟩ u) g s' m fv f' h := by
  have F : Fr (One g) w (w.setCell ⟨g, i, none⟩ u) := (Fr.refl _ w).set1 i u
  have hsz := F.size
  refine ⟨by have := p.blk.set i u; rw [hc] at this; exact this, by rw [h1]; exact p.map.fr F (fun e => p.gm e.symm), by rw [h3]; exact p.fl.fr F fun q hq => (p.af q hq).2.1, fun x hx => ?_, p.gm, p.ag, p.am, fun q hq => ⟨by have := (p.af q hq).1; omega, (p.af q hq).2⟩, hf, hd, by rw [h3]; exact p.fll, by rw [h1, h2]; exact p.obl⟩
  rw [h1] at hx
  rw [h2]
  exact ⟨Vs.fr (p.ob x hx).1 F fun q hq => ((p.ob x hx).2 q hq).2.1, fun q hq => ⟨by have := ((p.ob x hx).2 q hq).1; omega, ((p.ob x hx).2 q hq).2⟩⟩
theorem PWx.setF {av : Nat → Prop} {n : Nat} {w : World} {g : Nat} {s : Wst} {m : Nat} {fv : Value} {f : Int} {h : Tx → Value} (p : PWx av n w g s m fv f h) (u : Value) (l : List Int) (hu : Vs iv w u l) (ho : ∀ q, u.ownBlock = some q → q < w.heap.size ∧ q ≠ g ∧ q ≠ m ∧ ¬ av q) (hl : ∀ x ∈ l, -9223372036854775808 ≤ x ∧ x ≤ 9223372036854775807) :
    PWx av n (w.setCell ⟨g, 1, none⟩ u) g { s with fl := l } m u f h := by
  have F : Fr (One g) w (w.setCell ⟨g, 1, none⟩ u) := (Fr.refl _ w).set1 1 u
  have hsz := F.size
  refine ⟨p.blk.set 1 u, p.map.fr F (fun e => p.gm e.symm), hu.fr F fun q hq => (ho q hq).2.1, fun x hx => ?_, p.gm, p.ag, p.am, fun q hq => ⟨by have := (ho q hq).1; omega, (ho q hq).2⟩, p.fuse, p.dd, hl, p.obl⟩
  exact ⟨Vs.fr (p.ob x hx).1 F fun q hq => ((p.ob x hx).2 q hq).2.1, fun q hq => ⟨by have := ((p.ob x hx).2 q hq).1; omega, ((p.ob x hx).2 q hq).2⟩⟩
theorem PWx.lay {av : Nat → Prop} {n : Nat} {w w' : World} {g : Nat} {s : Wst} {m : Nat} {fv : Value} {f : Int} {h : Tx → Value} (p : PWx av n w g s m fv f h) (x : Tx) (u : Value) (b : List UInt8) (hbm : b.length ≤ 1048576) (hu : Bs w u b) (ho : ∀ q, u.ownBlock = some q → q < w.heap.size ∧ q ≠ g ∧ q ≠ m ∧ ¬ av q)
    (M : MapG 9 litTx okTx (.slice none 0 0) w' m (n + 1) (x :: s.ks) (fun c => if c = x then u else h c)) (F : Fr (One m) w w') : PWx av (n + 1) w' g (laidS s x b) m fv f (fun c => if c = x then u else h c) := by
  have hsz := F.size
  refine ⟨p.blk.fr F p.gm, M, p.fl.fr F fun q hq => (p.af q hq).2.2.1, fun y hy => ?_, p.gm, p.ag, p.am, fun q hq => ⟨by have := (p.af q hq).1; omega, (p.af q hq).2⟩, p.fuse, p.dd, p.fll, fun y hy => ?_⟩
  · by_cases hyx : y = x
    · subst hyx
      simp only [laidS, if_true]
      exact ⟨Vs.fr hu F fun q hq => (ho q hq).2.2.1, fun q hq => ⟨by have := (ho q hq).1; omega, (ho q hq).2⟩⟩
    · have hy' : y ∈ s.ks := by
        rcases List.mem_cons.1 hy with h | h
        · exact absurd h hyx
        · exact h
      simp only [laidS, if_neg hyx]
      exact ⟨Vs.fr (p.ob y hy').1 F fun q hq => ((p.ob y hy').2 q hq).2.2.1, fun q hq => ⟨by have := ((p.ob y hy').2 q hq).1; omega, ((p.ob y hy').2 q hq).2⟩⟩
  · by_cases hyx : y = x
    · subst hyx; simpa [laidS] using hbm
    · have hy' : y ∈ s.ks := by
        rcases List.mem_cons.1 hy with h | h
        · exact absurd h hyx
        · exact h
      simpa [laidS, hyx] using p.obl y hy'
theorem PWx.gone {av : Nat → Prop} {n : Nat} {w w' : World} {g : Nat} {s : Wst} {m : Nat} {fv : Value} {f : Int} {h : Tx → Value} (p : PWx av n w g s m fv f h) (x : Tx)
    (M : MapG 9 litTx okTx (.slice none 0 0) w' m n (s.ks.filter fun c => !decide (c = x)) (fun c => if c = x then .slice none 0 0 else h c)) (F : Fr (One m) w w') : PWx av n w' g (goneS s x) m fv f (fun c => if c = x then .slice none 0 0 else h c) := by
  have hsz := F.size
  have hk : ∀ y ∈ s.ks.filter (fun c => !decide (c = x)), y ∈ s.ks ∧ y ≠ x := fun y hy => by
    obtain ⟨h1, h2⟩ := List.mem_filter.1 hy
    exact ⟨h1, by simpa using h2⟩
  refine ⟨p.blk.fr F p.gm, M, p.fl.fr F fun q hq => (p.af q hq).2.2.1, fun y hy => ?_, p.gm, p.ag, p.am, fun q hq => ⟨by have := (p.af q hq).1; omega, (p.af q hq).2⟩, p.fuse, p.dd, p.fll, fun y hy => p.obl y (hk y hy).1⟩
  obtain ⟨hy', hne⟩ := hk y hy
  simp only [if_neg hne]
  exact ⟨Vs.fr (p.ob y hy').1 F fun q hq => ((p.ob y hy').2 q hq).2.2.1, fun q hq => ⟨by have := ((p.ob y hy').2 q hq).1; omega, ((p.ob y hy').2 q hq).2⟩⟩
end Go.Proofs.Ytpepapadbmkjiaa

namespace Go.Proofs.Ytpepapadbmkjiaa
open Go.RowKit
theorem w6_wrap64 (n : Int) : wrap64 n = w6 n := by unfold wrap64 w6; rfl
end Go.Proofs.Ytpepapadbmkjiaa

namespace Go.Proofs.Ytpepapadbmkjiaa
open Go.RowKit
theorem pwnew_any (av : Nat → Prop) (w : World) (hav : ∀ k, av k → k < w.heap.size) : Calls Try.prog 6 #[] w fun e w' => ∃ g, e = .returned (ptr g) ∧ w.heap.size ≤ g ∧ PW av 0 w' g newS ∧ Fr Non w w' := by
  obtain ⟨m, hm⟩ : ∃ m, w.heap.size = m := ⟨_, rfl⟩
  obtain ⟨w1, hw1⟩ : ∃ w1, w.alloc (.map #[] 0) = w1 := ⟨_, rfl⟩
  have hs1 : w1.heap.size = m + 1 := by rw [← hw1, ← hm]; simp
  have M1 : MapG 9 litTx okTx (.slice none 0 0) w1 m 0 [] (fun _ => .slice none 0 0) := by rw [← hw1, ← hm]; exact MapG.made _ _ _ _ w
  have F1 : Fr Non w w1 := by rw [← hw1]; exact (Fr.refl _ _).alloc _
  have hB : Hid (PwB (w1.alloc (.cells (pwC m (.slice none 0 0) (-1) 0 0) 44)) (m + 1) m (.slice none 0 0) (-1) 0 0) := Lib.hid (by rw [← hs1]; exact Blk.new _ _ _)
  have F2 : Fr Non w1 (w1.alloc (.cells (pwC m (.slice none 0 0) (-1) 0 0) 44)) := (Fr.refl _ _).alloc _
  have FF := Lib.hid (F1.trans F2)
  have M2 := Lib.hid (M1.non F2)
  have HA := Lib.hid hav
  have HS := Lib.hid hm
  unfold pwC at hB FF M2
  clear M1 F1 F2 hav
  have hmk : ∀ W, (Instr.makeMap 42 none).run Try.prog W = .ok (.map (some W.heap.size)) (W.alloc (.map #[] 0)) := fun W => run_makeMap _ W
  go_enter Try.func6, Try.ntmps6
  go_wp2
  go_ret
  try rw [hw1]
  refine ⟨m + 1, ?_, by have := HS.out; omega, ⟨m, .slice none 0 0, -1, fun _ => .slice none 0 0, hB.out, M2.out, Vs.nil_ _, fun x hx => (by cases hx), by omega, fun h => by have := HA.out _ h; have := HS.out; omega, fun h => by have := HA.out _ h; have := HS.out; omega, fun q hq => (by cases hq), ⟨Or.inl rfl, by decide⟩, rfl, fun x hx => (by cases hx), fun x hx => (by cases hx)⟩, FF.out⟩
  first | rfl | (show Ending.returned _ = Ending.returned (ptr (m + 1)); rw [← hs1])
theorem pwmade_any {av : Nat → Prop} {n : Nat} {w : World} {g : Nat} {s : Wst} (p : PW av n w g s) : Calls Try.prog 22 #[ptr g] w fun e w' => e = .returned (.bool true) ∧ w = w' := by
  obtain ⟨m, fv, f, h, p⟩ := p
  obtain ⟨c0, c1, c2, c3, c4, z0, z1, z2, z3, z4⟩ := p.blk.facts
  have hl := p.lt
  clear p
  have hmn : ∀ W, (binOp .neq 42 (.map (some m)) (.map none)).run Try.prog W = .ok (.bool true) W := fun W => run_neq_map_nil (P := Try.prog) W 42 9 23 (some m) Try.underlying42
  go_enter Try.func22, Try.ntmps22
  go_wp2
  go_ret
  exact ⟨rfl, rfl⟩
theorem pwdead_any {av : Nat → Prop} {n : Nat} {w : World} {g : Nat} {s : Wst} (p : PW av n w g s) : Calls Try.prog 23 #[ptr g] w fun e w' => e = .returned (.bool s.dead) ∧ w = w' := by
  have HM := Lib.hid (pwmade_any p)
  obtain ⟨m, fv, f, h, p⟩ := p
  obtain ⟨c0, c1, c2, c3, c4, z0, z1, z2, z3, z4⟩ := p.blk.facts
  have hl := p.lt
  have hd := p.dead
  generalize s.dead = d at hd ⊢
  clear p
  go_enter Try.func23, Try.ntmps23
  go_wp2_with fail
  refine HM.out.mono ?_
  rintro e w0 ⟨rfl, rfl⟩
  go_wp2
  go_ret
  exact ⟨rfl, rfl⟩
theorem pwsteps_any {av : Nat → Prop} {n : Nat} {w : World} {g : Nat} {s : Wst} (p : PW av n w g s) : Calls Try.prog 24 #[ptr g] w fun e w' => e = .returned (.int .i64 s.steps) ∧ w = w' := by
  have HM := Lib.hid (pwmade_any p)
  obtain ⟨m, fv, f, h, p⟩ := p
  obtain ⟨c0, c1, c2, c3, c4, z0, z1, z2, z3, z4⟩ := p.blk.facts
  have hl := p.lt
  clear p
  go_enter Try.func24, Try.ntmps24
  go_wp2_with fail
  refine HM.out.mono ?_
  rintro e w0 ⟨rfl, rfl⟩
  go_wp2
  go_ret
  exact ⟨rfl, rfl⟩
set_option maxHeartbeats 4000000 in
theorem pwstep_any {av : Nat → Prop} {n : Nat} {w : World} {g : Nat} {s : Wst} (p : PW av n w g s) : Calls Try.prog 21 #[ptr g] w fun e w' => e = .returned (.int .i64 (stepS s).1) ∧ PW av n w' g (stepS s).2 ∧ Fr (One g) w w' := by
  have HM := Lib.hid (pwmade_any p)
  have HD := Lib.hid (pwdead_any p)
  have HP := Lib.hid p
  obtain ⟨m, fv, f, h, p⟩ := p
  obtain ⟨c0, c1, c2, c3, c4, z0, z1, z2, z3, z4⟩ := p.blk.facts
  have hl := p.lt
  by_cases hd : s.dead = true
  · have HE : Hid (stepS s = (8, s)) := Lib.hid (by unfold stepS; rw [if_pos hd])
    rw [HE.out]
    rw [hd] at HD
    clear p hd
    go_enter Try.func21, Try.ntmps21
    go_wp2_with fail
    refine HM.out.mono ?_
    rintro e w0 ⟨rfl, rfl⟩
    go_wp2_with fail
    refine HD.out.mono ?_
    rintro e w0 ⟨rfl, rfl⟩
    go_wp2
    go_ret
    exact ⟨rfl, HP.out, Fr.refl _ _⟩
  · have hd' : s.dead = false := by simpa using hd
    rw [hd'] at HD
    obtain ⟨hfu, hb⟩ := p.fuse
    have hf0 : ¬ s.fuse = 0 := fun e => by have := p.dd; rw [e, hd'] at this; cases this
    obtain ⟨S1, hS1⟩ : ∃ S, stepS s = (0, S) := ⟨_, by unfold stepS; rw [if_neg hd]⟩
    have hS : S1 = { s with steps := w6 (s.steps + 1), fuse := if 0 < s.fuse then s.fuse - 1 else s.fuse, dead := decide (s.fuse = 1) } := by
      have := hS1; unfold stepS at this; rw [if_neg hd] at this; exact (Prod.mk.inj this).2.symm
    rw [hS1]
    have P5 : PWx av n (w.setCell ⟨g, 3, none⟩ (.int .i64 (w6 (s.steps + 1)))) g { s with steps := w6 (s.steps + 1) } m fv f h := p.set 3 _ rfl rfl rfl rfl p.fuse p.dd
    by_cases h0 : 0 < f
    · have hff : f = s.fuse := by omega
      subst hff
      have d0 : decide (0 < s.fuse) = true := decide_eq_true h0
      have hw : wrap64 (s.fuse - 1) = s.fuse - 1 := by unfold wrap64; omega
      have P3 : PWx av n ((w.setCell ⟨g, 3, none⟩ (.int .i64 (w6 (s.steps + 1)))).setCell ⟨g, 2, none⟩ (.int .i64 (s.fuse - 1))) g S1 m fv (s.fuse - 1) h := P5.set 2 _ (by rw [hS]; rfl) (by rw [hS]) (by rw [hS]) (by rw [hS]) (by rw [hS]; simp only [h0, if_true]; exact ⟨Or.inl rfl, by omega⟩) (by rw [hS]; simp only [h0, if_true]; by_cases h1 : s.fuse = 1 <;> simp [h1]; omega)
      have HQ := Lib.hid P3
      have F := Lib.hid (((Fr.refl (One g) w).set1 3 (.int .i64 (w6 (s.steps + 1)))).set1 2 (.int .i64 (s.fuse - 1)))
      rw [← w6_wrap64] at HQ F
      clear P3 P5 p h0 hS hS1 hb hd hd' hfu hf0
      go_enter Try.func21, Try.ntmps21
      go_wp2_with fail
      refine HM.out.mono ?_
      rintro e w0 ⟨rfl, rfl⟩
      go_wp2_with fail
      refine HD.out.mono ?_
      rintro e w0 ⟨rfl, rfl⟩
      go_wp2
      go_ret
      exact ⟨rfl, ⟨m, fv, _, h, HQ.out⟩, F.out⟩
    · have d0 : decide (0 < f) = false := decide_eq_false h0
      have HQ : Hid (PWx av n (w.setCell ⟨g, 3, none⟩ (.int .i64 (w6 (s.steps + 1)))) g S1 m fv f h) := Lib.hid (by
        rw [hS]
        have h1 : ¬ s.fuse = 1 := by omega
        have h2 : ¬ 0 < s.fuse := by omega
        simp only [h2, if_false, h1, decide_false]; rw [← hd']; exact P5)
      have F := Lib.hid ((Fr.refl (One g) w).set1 3 (.int .i64 (w6 (s.steps + 1))))
      rw [← w6_wrap64] at HQ F
      clear P5 p h0 hS hS1 hb hd hd' hfu hf0
      go_enter Try.func21, Try.ntmps21
      go_wp2_with fail
      refine HM.out.mono ?_
      rintro e w0 ⟨rfl, rfl⟩
      go_wp2_with fail
      refine HD.out.mono ?_
      rintro e w0 ⟨rfl, rfl⟩
      go_wp2
      go_ret
      exact ⟨rfl, ⟨m, fv, _, h, HQ.out⟩, F.out⟩
end Go.Proofs.Ytpepapadbmkjiaa

namespace Go.Proofs.Ytpepapadbmkjiaa
open Go.RowKit
def askS (s : Wst) : Wst := { s with asked := w6 (s.asked + 1) }
def popS (s : Wst) : Wst := { s with fl := s.fl.drop 1 }
theorem popS_nil {s : Wst} (h : s.fl = []) : popS s = s := by
  obtain ⟨a, b, c, d, e, f, g⟩ := s
  dsimp only at h
  subst h
  rfl
set_option maxHeartbeats 4000000 in
theorem pwfault_any {av : Nat → Prop} {n : Nat} {w : World} {g : Nat} {s : Wst} (p : PW av n w g s) : Calls Try.prog 49 #[ptr g] w fun e w' => e = .returned (.int .i64 (s.fl.headD 0)) ∧ PW av n w' g (popS s) ∧ Fr (One g) w w' := by
  obtain ⟨m, fv, f, h, p⟩ := p
  obtain ⟨c0, c1, c2, c3, c4, z0, z1, z2, z3, z4⟩ := p.blk.facts
  have hl := p.lt
  obtain ⟨A, c, rfl⟩ := p.fl.shape
  obtain ⟨fl, hfl⟩ : ∃ l, s.fl = l := ⟨_, rfl⟩
  rw [hfl] at c1 ⊢
  have hfs : Hid (popS s = { s with fl := fl.drop 1 }) := Lib.hid (by unfold popS; rw [hfl])
  cases fl with
  | nil =>
    have HP : Hid (PW av n w g (popS s)) := Lib.hid ⟨m, _, f, h, by rw [popS_nil hfl]; exact p⟩
    clear p hfl hfs
    go_enter Try.func49, Try.ntmps49
    go_wp2
    go_ret
    exact ⟨rfl, HP.out, Fr.refl _ _⟩
  | cons a r =>
    have hown := p.af
    have hfl6 := p.fl
    rw [hfl] at hown hfl6
    obtain ⟨b, ha, -, hlc, hel⟩ := hfl6.addr (show 0 < (a :: r).length by simp)
    have q0 : w.cell? b = some (.int .i64 a) := by have := hel 0 (by simp); rwa [add_none] at this
    obtain ⟨A', c', hr1, hv1, ho1⟩ := slice_loG el_int A (a :: r).length c 1 .i64 1 rfl (by simp) hlc
    have hv2 := hv1 iv _ (a :: r) rfl hfl6
    have P2 := p.setF (.slice A' ((a :: r).length - 1) c') ((a :: r).drop 1) hv2 (fun q hq => by rw [ho1] at hq; exact hown q hq) (fun x hx => p.fll x (by rw [hfl]; exact List.drop_subset _ _ hx))
    have HP : Hid (PW av n (w.setCell ⟨g, 1, none⟩ (.slice A' ((a :: r).length - 1) c')) g (popS s)) := Lib.hid ⟨m, _, f, h, by rw [hfs.out]; exact P2⟩
    have HF := Lib.hid ((Fr.refl (One g) w).set1 1 (.slice A' ((a :: r).length - 1) c'))
    have hd : ((r.length : Int) + 1 == 0) = false := by rw [beq_eq_false_iff_ne]; omega
    simp only [List.length_cons, Nat.add_sub_cancel] at HP HF c1 hr1
    clear p hfl hfs P2 hv1 hv2 hfl6 hown hel ho1 hlc
    subst ha
    go_enter Try.func49, Try.ntmps49
    go_wp2
    go_ret
    exact ⟨rfl, HP.out, HF.out⟩
set_option maxHeartbeats 400000 in
theorem cloneI_any (v : Value) (l : List Int) (w : World) (h : Vs iv w v l) (hl : l.length ≤ 1000000000) :
    Calls Try.prog 41 #[v] w fun e w' => ∃ u, e = .returned u ∧ Ow iv 3 w' w.heap.size u l ∧ Fr Non w w' := by
  have HB := Lib.hid h
  have hq := fun (W : World) (a : Option Addr) (n c : Nat) => Lib.run_eql_slice_nil (P := Try.prog) W 31 3 a n c 0 0 Try.underlying31
  obtain ⟨A, c, rfl, hlc, hn, _⟩ := h
  cases A with
  | none =>
    have hc : c = 0 := hn rfl
    subst hc
    have hl0 : l = [] := List.eq_nil_of_length_eq_zero (by omega)
    subst hl0
    go_enter Try.func41, Try.ntmps41
    go_wp2
    go_ret
    exact ⟨_, rfl, ow_nil _ _, Fr.refl _ _⟩
  | some a =>
    clear hn
    go_enter Try.func41, Try.ntmps41
    go_wp2_with (at_builtin; refine wpList_appG el_int iv_oneC rfl (.tmp 5) (.tmp 6) rfl w.heap.size (.slice (some ⟨w.heap.size, 0, none⟩) 0 0) (.slice (some a) l.length c) [] l rfl (ow_lit0 _ _ _ rfl (Nat.le_refl _)) rfl (HB.out.non ((Fr.refl _ _).alloc _)) (by simp; omega) (by simp) ?_; intro v3 w3 hown hf3)
    go_ret
    refine ⟨_, rfl, by simpa using hown, ((Fr.refl Non w).alloc _).fresh hf3 (fun k hk => by simp [Value.ownBlock] at hk; omega)⟩
set_option maxHeartbeats 4000000 in
theorem pwfaults_any {av : Nat → Prop} {n : Nat} {w : World} {g : Nat} {s : Wst} (p : PW av n w g s) (hav : ∀ k, av k → k < w.heap.size) (v : Value) (l : List Int) (hv : Vs iv w v l) (hl : ∀ x ∈ l, -9223372036854775808 ≤ x ∧ x ≤ 9223372036854775807) (hll : l.length ≤ 1000000000) :
    Calls Try.prog 13 #[ptr g, v] w fun e w' => e = .returned (.tuple #[]) ∧ PW av n w' g (failS s l) ∧ Fr (fun k => ¬ av k) w w' := by
  have HM := Lib.hid (pwmade_any p)
  have HG := Lib.hid p.ng
  obtain ⟨m, fv, f, h, p⟩ := p
  have HC := Lib.hid (cloneI_any v l w hv hll)
  have HAV := Lib.hid hav
  have HP := Lib.hid p
  have HHL := Lib.hid hl
  clear p hav hl hll hv
  go_enter Try.func13, Try.ntmps13
  go_wp2_with fail
  refine HM.out.mono ?_
  rintro e w0 ⟨rfl, rfl⟩
  go_wp2_with fail
  refine HC.out.mono ?_
  rintro e w2 ⟨u, rfl, O2, F2⟩
  obtain ⟨A2, cc2, rfl⟩ := O2.vs.shape
  have HP2 := Lib.hid (HP.out.keep F2 (fun k h => h.elim))
  obtain ⟨c0, c1, c2, c3, c4, z0, z1, z2, z3, z4⟩ := HP2.out.blk.facts
  have hl2 := HP2.out.lt
  have PE := Lib.hid (HP2.out.setF _ l O2.vs (fun q hq => by
    have h1 := O2.lt q hq
    have h3 := HP.out.lt
    have h4 := HP.out.map.lt
    exact ⟨h1.2, by omega, by omega, fun h => by have := HAV.out q h; omega⟩) HHL.out)
  have FE := Lib.hid (((Fr.any F2 : Fr (One g) w w2).set1 1 (.slice A2 l.length cc2)).mono (S' := fun k => ¬ av k) (fun k _ h => by rw [show k = g from h]; exact HG.out))
  clear O2 F2
  go_wp2
  first | exact bodyPost_end (results_none rfl _ _ _) rfl ⟨rfl, ⟨m, _, f, h, PE.out⟩, FE.out⟩ | exact bodyPost_ret (results_none rfl _ _ _) rfl ⟨rfl, ⟨m, _, f, h, PE.out⟩, FE.out⟩
end Go.Proofs.Ytpepapadbmkjiaa

namespace Go.Proofs.Ytpepapadbmkjiaa
open Go.RowKit
def notS (s : Wst) (ok : Bool) : Option (Int × Wst) := if ok = false then some (1, s) else if s.dead = true then some (8, s) else if s.fl.headD 0 = 1 then some (11, faultS (stepS s).2) else none
def ReqEnd (av : Nat → Prop) (n g : Nat) (s : Wst) (ok : Bool) (w : World) (Q : Int → World → Prop) (e : Ending) (w' : World) : Prop :=
  ∃ z, e = .returned (.int .i64 z) ∧ ((∃ s', notS s ok = some (z, s') ∧ PW av n w' g s' ∧ Fr (One g) w w') ∨ (notS s ok = none ∧ ∃ r, Q r w' ∧ z = if s.fl.headD 0 = 2 then 11 else r))
theorem step_ok {s : Wst} (h : s.dead = false) : (stepS s).1 = 0 := by unfold stepS; rw [if_neg (by simp [h])]
theorem step_ks (s : Wst) : (stepS s).2.ks = s.ks ∧ (stepS s).2.fl = s.fl ∧ (stepS s).2.ob = s.ob := by unfold stepS; split <;> exact ⟨rfl, rfl, rfl⟩
set_option maxHeartbeats 4000000 in
theorem pwreq_any {av : Nat → Prop} {n : Nat} {w : World} {g : Nat} {s : Wst} (p : PW av n w g s) (ok : Bool) (F : Nat) (caps : Array Value) (Q : Int → World → Prop)
    (hcf : ∀ args W, (callFunc F args).run Try.prog W = .ok (.enter F args) W)
    (hdo : ∀ W, ok = true → Fr (One g) w W → PW av n W g (faultS (stepS s).2) → Calls Try.prog F caps W fun e w' => ∃ r, e = .returned (.int .i64 r) ∧ Q r w') :
    Calls Try.prog 29 #[ptr g, .bool ok, .func (.func F) #[] caps] w (ReqEnd av n g s ok w Q) := by
  have HM := Lib.hid (pwmade_any p)
  have HST := Lib.hid (pwstep_any p)
  have HP := Lib.hid p
  have HD := Lib.hid hdo
  clear hdo p
  cases ok
  · have HE : Hid (notS s false = some (1, s)) := Lib.hid rfl
    go_enter Try.func29, Try.ntmps29
    go_wp2_with fail
    refine HM.out.mono ?_
    rintro e w0 ⟨rfl, rfl⟩
    go_wp2
    go_ret
    exact ⟨1, rfl, Or.inl ⟨s, HE.out, HP.out, Fr.refl _ _⟩⟩
  by_cases hd : s.dead = true
  · have HE : Hid (notS s true = some (8, s)) := Lib.hid (by unfold notS; rw [if_neg (by simp), if_pos hd])
    have hs1 : stepS s = (8, s) := by unfold stepS; rw [if_pos hd]
    rw [hs1] at HST
    clear hs1 hd
    go_enter Try.func29, Try.ntmps29
    go_wp2_with fail
    refine HM.out.mono ?_
    rintro e w0 ⟨rfl, rfl⟩
    go_wp2_with fail
    refine HST.out.mono ?_
    rintro e w1 ⟨rfl, P1, F1⟩
    go_wp2
    go_ret
    exact ⟨8, rfl, Or.inl ⟨s, HE.out, P1, F1⟩⟩
  · have hd' : s.dead = false := by simpa using hd
    rw [step_ok hd'] at HST
    obtain ⟨f, hf⟩ : ∃ f, s.fl.headD 0 = f := ⟨_, rfl⟩
    obtain ⟨s1, hs1⟩ : ∃ t, (stepS s).2 = t := ⟨_, rfl⟩
    have hfl : Hid ((askS s1).fl.headD 0 = f) := Lib.hid (by rw [← hs1]; show (stepS s).2.fl.headD 0 = f; rw [(step_ks s).2.1]; exact hf)
    have hfs : Hid (faultS (stepS s).2 = popS (askS s1)) := Lib.hid (by rw [hs1]; rfl)
    have HE1 : Hid (f = 1 → ∀ W, PW av n W g (popS (askS s1)) → Fr (One g) w W → ReqEnd av n g s true w Q (.returned (.int .i64 11)) W) := Lib.hid (fun h1 W hp hf2 => ⟨11, rfl, Or.inl ⟨_, by unfold notS; rw [if_neg (by simp), if_neg hd, hf, if_pos h1], by rw [hfs.out]; exact hp, hf2⟩⟩)
    have HE2 : Hid (f ≠ 1 → ∀ W r, Q r W → ReqEnd av n g s true w Q (.returned (.int .i64 (if f = 2 then 11 else r))) W) := Lib.hid (fun h1 W r hq => ⟨_, rfl, Or.inr ⟨by unfold notS; rw [if_neg (by simp), if_neg hd, hf, if_neg h1], r, hq, by rw [hf]⟩⟩)
    rw [hs1] at HST
    clear hd hd' hf hs1
    rw [hfs.out] at HD
    go_enter Try.func29, Try.ntmps29
    go_wp2_with fail
    refine HM.out.mono ?_
    rintro e w0 ⟨rfl, rfl⟩
    go_wp2_with fail
    refine HST.out.mono ?_
    rintro e w1 ⟨rfl, P1, F1⟩
    obtain ⟨m, fv, q, h, P1⟩ := P1
    obtain ⟨c0, c1, c2, c3, c4, z0, z1, z2, z3, z4⟩ := P1.blk.facts
    have hl := P1.lt
    have P2 : Hid (PW av n (w1.setCell ⟨g, 4, none⟩ (.int .i64 (w6 (s1.asked + 1)))) g (askS s1)) := Lib.hid ⟨m, fv, q, h, P1.set 4 _ rfl rfl rfl rfl P1.fuse P1.dd⟩
    have F2 := Lib.hid (F1.set1 4 (.int .i64 (w6 (s1.asked + 1))))
    rw [← w6_wrap64] at P2 F2
    clear P1 F1 HST
    go_wp2_with fail
    clear c0 c1 c2 c3 c4 z0 z1 z2 z3 z4 hl
    generalize w1.setCell ⟨g, 4, none⟩ (.int .i64 (wrap64 (s1.asked + 1))) = w2 at *
    refine (pwfault_any P2.out).mono ?_
    rintro e w3 ⟨rfl, P3, F3⟩
    rw [hfl.out]
    replace P3 := Lib.hid P3
    replace F3 := Lib.hid (F2.out.trans F3)
    clear P2 F2
    by_cases h1 : f = 1
    · subst h1
      go_wp2
      go_ret
      exact HE1.out (by first | rfl | trivial) _ P3.out F3.out
    · have d1 : (f == 1) = false := by rw [beq_eq_false_iff_ne]; exact h1
      replace HE2 := Lib.hid (HE2.out h1)
      by_cases h2 : f = 2
      · subst h2
        clear d1 h1
        go_wp2_with fail
        refine (HD.out w3 (by first | rfl | trivial) F3.out P3.out).mono ?_
        rintro e w4 ⟨r, rfl, hQ⟩
        have HQ := Lib.hid hQ
        clear hQ
        go_wp2
        go_ret
        exact HE2.out _ r HQ.out
      · have d2 : (f == 2) = false := by rw [beq_eq_false_iff_ne]; exact h2
        have HE3 : Hid (∀ W r, Q r W → ReqEnd av n g s true w Q (.returned (.int .i64 r)) W) := Lib.hid (fun W r hq => by have := HE2.out W r hq; rwa [if_neg h2] at this)
        clear HE2
        clear h1 h2
        go_wp2_with fail
        refine (HD.out w3 (by first | rfl | trivial) F3.out P3.out).mono ?_
        rintro e w4 ⟨r, rfl, hQ⟩
        have HQ := Lib.hid hQ
        clear hQ
        go_wp2
        go_ret
        exact HE3.out _ r HQ.out
end Go.Proofs.Ytpepapadbmkjiaa

namespace Go.Proofs.Ytpepapadbmkjiaa
open Go.RowKit
set_option maxHeartbeats 400000 in
theorem clone_any (v : Value) (l : List UInt8) (w : World) (h : Bs w v l) (hl : l.length < 140737488355328) :
    Calls Try.prog 32 #[v] w fun e w' => ∃ u, e = .returned u ∧ Own w' w.heap.size u l ∧ Fr Non w w' := by
  have HB := Lib.hid h
  have hq := fun (W : World) (a : Option Addr) (n c : Nat) => Lib.run_eql_slice_nil (P := Try.prog) W 23 5 a n c 0 0 Try.underlying23
  obtain ⟨A, c, rfl, hlc, hn, _⟩ := h
  cases A with
  | none =>
    have hc : c = 0 := hn rfl
    subst hc
    have hl0 : l = [] := List.eq_nil_of_length_eq_zero (by omega)
    subst hl0
    go_enter Try.func32, Try.ntmps32
    go_wp2
    go_ret
    exact ⟨_, rfl, own_nil _ _, Fr.refl _ _⟩
  | some a =>
    clear hn
    go_enter Try.func32, Try.ntmps32
    go_wp2_with (at_builtin; refine wpList_app rfl (.tmp 5) (.tmp 6) rfl w.heap.size (.slice (some ⟨w.heap.size, 0, none⟩) 0 0) (.slice (some a) l.length c) [] l rfl (own_lit0 _ _ _ rfl (Nat.le_refl _)) rfl (HB.out.non ((Fr.refl _ _).alloc _)) (by simpa using hl) (by simp) ?_; intro v3 w3 hown hf3)
    go_ret
    refine ⟨_, rfl, by simpa using hown, ((Fr.refl Non w).alloc _).fresh hf3 (fun k hk => by simp [Value.ownBlock] at hk; omega)⟩
end Go.Proofs.Ytpepapadbmkjiaa

namespace Go.Proofs.Ytpepapadbmkjiaa
open Go.RowKit
def DoEnd (av : Nat → Prop) (N g : Nat) (w : World) (r : Int × Wst) (e : Ending) (w' : World) : Prop := e = .returned (.int .i64 r.1) ∧ (∃ n', n' ≤ N ∧ PW av n' w' g r.2) ∧ Fr (fun k => ¬ av k) w w'
def actP (x : Tx) (b : List UInt8) (fresh : Bool) (t : Wst) : Int × Wst := if fresh = true ∧ x ∈ t.ks then (6, t) else (0, laidS t x b)
theorem actP_put (x : Tx) (b : List UInt8) (t : Wst) : actP x b false t = (0, laidS t x b) := if_neg (fun e => by cases e.1)
set_option maxHeartbeats 4000000 in
theorem pwdoput_any {av : Nat → Prop} {n : Nat} {w : World} {g : Nat} {s : Wst} (p : PW av n w g s) (hav : ∀ k, av k → k < w.heap.size) (hn : n < 1000000) (x : Tx) (hx : x.length ≤ 1000000000) (v : Value) (b : List UInt8) (hv : Bs w v b) (hbl : b.length ≤ 1048576) (B0 B1 B2 : Nat) (a0 : av B0) (a1 : av B1) (a2 : av B2) (h0 : w.cell? ⟨B0, 0, none⟩ = some (ptr g)) (h1 : w.cell? ⟨B1, 0, none⟩ = some (.string ⟨x.toArray⟩)) (h2 : w.cell? ⟨B2, 0, none⟩ = some v) :
    Calls Try.prog 31 #[ptr B2, ptr B0, ptr B1] w (DoEnd av (n + 1) g w (actP x b false s)) := by
  rw [actP_put]
  have HP0 := Lib.hid p
  obtain ⟨m, fv, f, vals, p⟩ := p
  have c0 : w.cell? ⟨g, 0, none⟩ = some (.map (some m)) := p.blk.cell 0
  have hlg := p.lt
  have hm0 : B0 ≠ m := fun e => p.am (by rw [← e]; exact a0)
  have hm1 : B1 ≠ m := fun e => p.am (by rw [← e]; exact a1)
  have hm2 : B2 ≠ m := fun e => p.am (by rw [← e]; exact a2)
  have l0 : B0 < w.heap.size := World.block_lt_of_cell? w _ h0
  have l1 : B1 < w.heap.size := World.block_lt_of_cell? w _ h1
  have l2 : B2 < w.heap.size := World.block_lt_of_cell? w _ h2
  have HOK : Hid (okTx x) := Lib.hid (by unfold okTx; omega)
  have HP := Lib.hid p
  have HAV := Lib.hid hav
  have HV := Lib.hid hv
  have HBL := Lib.hid hbl
  obtain ⟨Ab, cb, rfl⟩ := Vs.shape (f := bv) hv
  clear hv p hav hbl
  go_enter Try.func31, Try.ntmps31
  go_wp2
  obtain ⟨V, hV⟩ : ∃ V, V = w.drew := ⟨_, rfl⟩
  refine wp_region_held_drew (S := (fun W' => W'.cell? ⟨B0, 0, none⟩ = some (ptr g) ∧ W'.cell? ⟨B1, 0, none⟩ = some (.string ⟨x.toArray⟩) ∧ W'.cell? ⟨B2, 0, none⟩ = some (.slice Ab b.length cb) ∧ W'.cell? ⟨g, 0, none⟩ = some (.map (some m)))) (by kernel_rfl) (by exact ⟨h0, h1, h2, c0⟩) (fun hHeld => ?_)
  rw [← hV] at hHeld ⊢
  have FV : Fr Non w V := by rw [hV]; exact (Fr.refl _ _).drew
  clear hV
  have hgV : g < V.heap.size := by have := FV.size; omega
  have k0 : B0 < V.heap.size := by have := FV.size; omega
  have k1 : B1 < V.heap.size := by have := FV.size; omega
  have k2 : B2 < V.heap.size := by have := FV.size; omega
  replace h0 := hHeld.1
  replace h1 := hHeld.2.1
  replace h2 := hHeld.2.2.1
  replace c0 := hHeld.2.2.2
  refine wpAnyH_take (i := 0) (oi := ⟨some 4, _, _, _, _, none⟩) (v := ?v1) rfl (by kernel_rfl) (by kernel_rfl) (by kernel_rfl) (fun _ _ _ h => h) (Or.inl ⟨by rfl, ?hy1⟩) (by assumption) ?rest1
  case hy1 => (intro wS hSw; (try dsimp only at hSw); go_simp; (try with_reducible rfl))
  (try simp only [Act.put, List.setIfInBounds_toArray, List.set_cons_zero, List.set_cons_succ])
  refine wpAnyH_take (i := 1) (oi := ⟨some 5, _, _, _, _, none⟩) (v := ?v2) rfl (by kernel_rfl) (by kernel_rfl) (by kernel_rfl) (fun _ _ _ h => h) (Or.inl ⟨by rfl, ?hy2⟩) (by assumption) ?rest2
  case hy2 => (intro wS hSw; (try dsimp only at hSw); go_simp; (try with_reducible rfl))
  (try simp only [Act.put, List.setIfInBounds_toArray, List.set_cons_zero, List.set_cons_succ])
  refine wpAnyH_take (i := 2) (oi := ⟨some 6, _, _, _, _, none⟩) (v := ?v3) rfl (by kernel_rfl) (by kernel_rfl) (by kernel_rfl) (fun _ _ _ h => h) (Or.inl ⟨by rfl, ?hy3⟩) (by assumption) ?rest3
  case hy3 => (intro wS hSw; (try dsimp only at hSw); go_simp; (try with_reducible rfl))
  (try simp only [Act.put, List.setIfInBounds_toArray, List.set_cons_zero, List.set_cons_succ])
  refine wpAnyH_take (i := 3) (oi := ⟨some 7, _, _, _, _, none⟩) (v := ?v4) rfl (by kernel_rfl) (by kernel_rfl) (by kernel_rfl) (fun _ _ _ h => h) (Or.inl ⟨by rfl, ?hy4⟩) (by assumption) ?rest4
  case hy4 => (intro wS hSw; (try dsimp only at hSw); go_simp; (try with_reducible rfl))
  (try simp only [Act.put, List.setIfInBounds_toArray, List.set_cons_zero, List.set_cons_succ])
  refine wpAnyH_take (i := 4) (oi := ⟨some 8, _, _, _, _, none⟩) (v := ?v5) rfl (by kernel_rfl) (by kernel_rfl) (by kernel_rfl) (fun _ _ _ h => h) (Or.inl ⟨by rfl, ?hy5⟩) (by assumption) ?rest5
  case hy5 => (intro wS hSw; (try dsimp only at hSw); go_simp; (try with_reducible rfl))
  (try simp only [Act.put, List.setIfInBounds_toArray, List.set_cons_zero, List.set_cons_succ])
  refine wpAnyH_take (i := 5) (oi := ⟨some 9, _, _, _, _, none⟩) (v := ?v6) rfl (by kernel_rfl) (by kernel_rfl) (by kernel_rfl) (fun _ _ _ h => h) (Or.inl ⟨by rfl, ?hy6⟩) (by assumption) ?rest6
  case hy6 => (intro wS hSw; (try dsimp only at hSw); go_simp; (try with_reducible rfl))
  (try simp only [Act.put, List.setIfInBounds_toArray, List.set_cons_zero, List.set_cons_succ])
  refine wpAnyH_ready (rs := [6]) (by kernel_rfl) (by simp) ?_
  refine AllReadyH.cons (o := ⟨some 10, _, _, _, _, none⟩) rfl (fun K hK => ?_) AllReadyH.nil
  go_simp
  go_at_call 32
  refine (clone_any (.slice Ab b.length cb) b V (Vs.non HV.out FV) (by have := HBL.out; omega)).mono ?_
  rintro e W5 ⟨u, rfl, O5, F5⟩
  obtain ⟨Au, cu, rfl⟩ := O5.bs.shape
  have P5 := (HP.out.keep FV (fun k h => h.elim)).keep F5 (fun k h => h.elim)
  have j0 : W5.cell? ⟨B0, 0, none⟩ = some (ptr g) := (F5.cell (p := ⟨B0, 0, none⟩) k0 (fun e => e)).trans h0
  have j1 : W5.cell? ⟨B1, 0, none⟩ = some (.string ⟨x.toArray⟩) := (F5.cell (p := ⟨B1, 0, none⟩) k1 (fun e => e)).trans h1
  have j2 : W5.cell? ⟨B2, 0, none⟩ = some (.slice Ab b.length cb) := (F5.cell (p := ⟨B2, 0, none⟩) k2 (fun e => e)).trans h2
  have jc : W5.cell? ⟨g, 0, none⟩ = some (.map (some m)) := (F5.cell (p := ⟨g, 0, none⟩) hgV (fun e => e)).trans c0
  have hs5 := F5.size
  go_wp2_with fail
  refine hK.out _ _ (by exact ⟨j0, j1, j2, jc⟩) (fun hHeld => ?_)
  clear hK K
  (try simp only [Act.put, List.setIfInBounds_toArray, List.set_cons_zero, List.set_cons_succ])
  refine wpAnyH_ready (rs := [7]) (by kernel_rfl) (by simp) ?_
  refine AllReadyH.cons (o := ⟨none, _, _, _, _, none⟩) rfl (fun K hK => ?_) AllReadyH.nil
  refine wp_putG mapT_bs keyTx W5 (.tmp 7) (.tmp 8) (.tmp 10) rfl m n s.ks vals rfl P5.map (by omega) x HOK.out (.slice Au b.length cu) rfl rfl ?_
  intro W6 M6 F6
  refine hK.out _ _ (by exact ⟨(F6.cell (p := ⟨B0, 0, none⟩) (by show B0 < _; omega) (fun e => hm0 e)).trans j0, (F6.cell (p := ⟨B1, 0, none⟩) (by show B1 < _; omega) (fun e => hm1 e)).trans j1, (F6.cell (p := ⟨B2, 0, none⟩) (by show B2 < _; omega) (fun e => hm2 e)).trans j2, (F6.cell (p := ⟨g, 0, none⟩) (by show g < _; omega) (fun e => HP.out.gm e)).trans jc⟩) (fun hHeld => ?_)
  clear hK K
  (try simp only [Act.put, List.setIfInBounds_toArray, List.set_cons_zero, List.set_cons_succ])
  refine wpAnyH_done (by kernel_rfl) ?_ _
  have PE := Lib.hid (P5.lay x (.slice Au b.length cu) b HBL.out O5.bs (fun q hq => by
    have h1 := O5.lt q hq
    have h3 := FV.size
    have h4 := HP.out.lt
    have h5 := HP.out.map.lt
    exact ⟨h1.2, by omega, by omega, fun h => by have := HAV.out q h; omega⟩) M6 F6)
  have FE := Lib.hid (((Fr.any FV : Fr (fun k => ¬ av k) w V).trans (Fr.any F5)).trans (F6.mono (fun k _ h => by rw [show k = m from h]; exact HP.out.am)))
  clear hHeld P5 M6 F6 O5 F5 FV j0 j1 j2 jc
  go_wp2
  go_ret
  exact ⟨rfl, ⟨n + 1, Nat.le_refl _, ⟨m, fv, f, _, PE.out⟩⟩, FE.out⟩
end Go.Proofs.Ytpepapadbmkjiaa

namespace Go.Proofs.Ytpepapadbmkjiaa
open Go.RowKit
theorem nmB24_of {c : UInt8} {n : Int} (hn : n = c.toNat) (h : (97 ≤ n ∧ n ≤ 122) ∨ (48 ≤ n ∧ n ≤ 57) ∨ n = 47 ∨ n = 46) : nmB24 c = true := by
  simp only [nmB24, Bool.or_eq_true, decide_eq_true_eq]
  omega
theorem nmB24_no {c : UInt8} {n : Int} (hn : n = c.toNat) (h : ¬((97 ≤ n ∧ n ≤ 122) ∨ (48 ≤ n ∧ n ≤ 57) ∨ n = 47 ∨ n = 46)) : nmB24 c = false := by
  rw [Bool.eq_false_iff]
  intro h'
  simp only [nmB24, Bool.or_eq_true, decide_eq_true_eq] at h'
  omega
theorem nm24_next {s : List UInt8} {k : Nat} (hlt : k < s.length) (HA : (s.take k).all nmB24 = true) (h : nmB24 s[k] = true) : (s.take (k + 1)).all nmB24 = true := by
  rw [List.take_succ_eq_append_getElem hlt, List.all_append, HA]
  simp [h]
theorem nm24_not {s : List UInt8} {k : Nat} (hlt : k < s.length) (h : nmB24 s[k] = false) : nm24 s = false := by
  have : s.all nmB24 = false := by
    rw [Bool.eq_false_iff]
    intro h'
    rw [List.all_eq_true] at h'
    rw [h' _ (List.getElem_mem hlt)] at h
    cases h
  simp [nm24, this]
set_option maxHeartbeats 4000000 in
theorem dwname_any (s : List UInt8) (w : World) (hs : s.length ≤ 1000000000) : Calls Try.prog 28 #[.string ⟨s.toArray⟩] w fun e w' => e = .returned (.bool (nm24 s)) ∧ w = w' := by
  obtain ⟨r, hr⟩ : ∃ r, nm24 s = r := ⟨_, rfl⟩
  rw [hr]
  replace hr := Lib.hid hr
  go_enter Try.func28, Try.ntmps28
  go_wp2
  go_loopw [3] (fun i wr => ∃ (k : Nat), k ≤ s.length ∧ i = .int .i64 k ∧ Hid ((s.take k).all nmB24 = true) ∧ wr = w) (fun i _ => s.length - (intOf i).toNat)
  case atStart => exact ⟨0, Nat.zero_le _, rfl, Lib.hid rfl, rfl⟩
  case round =>
    obtain ⟨k, hk, rfl, HA, rfl⟩ := hrel
    by_cases hlt : k < s.length
    · have hb : s.toArray[k]? = some s[k] := by simp [hlt]
      have HT : Hid (∀ n : Int, n = ((({ data := s.toArray } : ByteArray)[k]'(by exact hlt)).toNat : Int) → ((97 ≤ n ∧ n ≤ 122) ∨ (48 ≤ n ∧ n ≤ 57) ∨ n = 47 ∨ n = 46) → (s.take (k + 1)).all nmB24 = true) := Lib.hid (fun n hn h => nm24_next hlt HA.out (nmB24_of (c := s[k]) hn h))
      have HF : Hid (∀ n : Int, n = ((({ data := s.toArray } : ByteArray)[k]'(by exact hlt)).toNat : Int) → ¬((97 ≤ n ∧ n ≤ 122) ∨ (48 ≤ n ∧ n ≤ 57) ∨ n = 47 ∨ n = 46) → false = r) := Lib.hid (fun n hn h => by rw [← hr.out]; exact (nm24_not hlt (nmB24_no (c := s[k]) hn h)).symm)
      go_wp2
      all_goals
        first
          | (go_ret
             refine ⟨ret_boolE (HF.out _ rfl ?_), rfl⟩
             try simp only [bne_eq_false_iff_eq, bne_iff_ne, ne_eq, beq_eq_false_iff_ne, beq_iff_eq] at *
             omega)
          | (refine ⟨⟨k + 1, by omega, by first | rfl | (push_cast; rfl), Lib.hid (HT.out _ rfl ?_), trivial⟩, ?_⟩
             · try simp only [bne_eq_false_iff_eq] at *
               omega
             · show s.length - ((k : Int) + 1).toNat < s.length - (k : Int).toNat
               omega)
    · have hk' : k = s.length := by omega
      subst hk'
      rw [List.take_length] at HA
      have HE : Hid ((decide (1 ≤ s.length) && decide (s.length ≤ 24)) = r) := Lib.hid (by rw [← hr.out]; simp [nm24, HA.out])
      by_cases h1 : 1 ≤ s.length
      · by_cases h2 : s.length ≤ 24
        · have HE' : Hid (true = r) := Lib.hid (by rw [← HE.out]; simp [h1, h2])
          go_wp2
          go_ret
          exact ⟨ret_boolE ((by simp; omega : decide ((s.length : Int) ≤ 24) = true).trans HE'.out), rfl⟩
        · have HE' : Hid (false = r) := Lib.hid (by rw [← HE.out]; simp [h2])
          go_wp2
          go_ret
          exact ⟨ret_boolE ((by simp; omega : decide ((s.length : Int) ≤ 24) = false).trans HE'.out), rfl⟩
      · have HE' : Hid (false = r) := Lib.hid (by rw [← HE.out]; simp [h1])
        go_wp2
        go_ret
        exact ⟨ret_boolE HE'.out, rfl⟩
end Go.Proofs.Ytpepapadbmkjiaa

namespace Go.Proofs.Ytpepapadbmkjiaa
open Go.RowKit
def stB (n : Int) : Prop := (97 ≤ n ∧ n ≤ 122) ∨ (48 ≤ n ∧ n ≤ 57) ∨ n = 47 ∨ n = 46
def StEnd (n : Int) (e : Ending) : Prop := ∃ q : Bool, e = .returned (.bool q) ∧ (q = true ↔ stB n)
set_option maxHeartbeats 2000000 in
theorem pwstands_any (n : Int) (w : World) : Calls Try.prog 48 #[.int .u8 n] w fun e w' => StEnd n e ∧ w = w' := by
  obtain ⟨p1, h1⟩ : ∃ q : Bool, decide ((97 : Int) ≤ n) = q := ⟨_, rfl⟩
  obtain ⟨p2, h2⟩ : ∃ q : Bool, decide (n ≤ 122) = q := ⟨_, rfl⟩
  obtain ⟨p3, h3⟩ : ∃ q : Bool, decide ((48 : Int) ≤ n) = q := ⟨_, rfl⟩
  obtain ⟨p4, h4⟩ : ∃ q : Bool, decide (n ≤ 57) = q := ⟨_, rfl⟩
  obtain ⟨p5, h5⟩ : ∃ q : Bool, (n == 47) = q := ⟨_, rfl⟩
  obtain ⟨p6, h6⟩ : ∃ q : Bool, (n == 46) = q := ⟨_, rfl⟩
  obtain ⟨r, hr⟩ : ∃ r : Bool, (((p1 && p2) || (p3 && p4) || p5 || p6) = r) := ⟨_, rfl⟩
  have HE : Hid (StEnd n (.returned (.bool r))) := Lib.hid ⟨r, rfl, by
    rw [← hr, ← h1, ← h2, ← h3, ← h4, ← h5, ← h6]
    simp [stB]
    omega⟩
  cases p1 <;> cases p2 <;> cases p3 <;> cases p4 <;> cases p5 <;> cases p6 <;>
    (simp only [Bool.and_true, Bool.and_false, Bool.or_true, Bool.or_false, Bool.true_and, Bool.false_and, Bool.true_or, Bool.false_or] at hr
     subst hr
     go_enter Try.func48, Try.ntmps48
     go_wp2
     go_ret
     exact ⟨HE.out, rfl⟩)
theorem txt_some {s : List UInt8} (h : 1 ≤ s.length) : s.isEmpty = false := by
  cases s
  · simp at h
  · rfl
set_option maxHeartbeats 4000000 in
theorem pwname_any (s : List UInt8) (w : World) (hs : s.length ≤ 1000000000) : Calls Try.prog 27 #[.string ⟨s.toArray⟩] w fun e w' => e = .returned (.bool (nm24 s)) ∧ w = w' := by
  by_cases h1 : 1 ≤ s.length ∧ s.length ≤ 24
  · have d1 := txt_some h1.1
    have d2 : decide ((24 : Int) < (s.length : Int)) = false := decide_eq_false (by omega)
    obtain ⟨r, hr⟩ : ∃ r, nm24 s = r := ⟨_, rfl⟩
    rw [hr]
    have HE : Hid (s.all nmB24 = r) := Lib.hid (by rw [← hr]; simp [nm24, h1])
    replace hr := Lib.hid hr
    clear h1
    go_enter Try.func27, Try.ntmps27
    go_wp2
    go_loopw [13] (fun i wr => ∃ (k : Nat), k ≤ s.length ∧ i = .int .i64 k ∧ Hid ((s.take k).all nmB24 = true) ∧ wr = w) (fun i _ => s.length - (intOf i).toNat)
    case atStart => exact ⟨0, Nat.zero_le _, rfl, Lib.hid rfl, rfl⟩
    case round =>
      obtain ⟨k, hk, rfl, HA, rfl⟩ := hrel
      by_cases hlt : k < s.length
      · have hb : s.toArray[k]? = some s[k] := by simp [hlt]
        have HT : Hid (∀ n : Int, n = ((({ data := s.toArray } : ByteArray)[k]'(by exact hlt)).toNat : Int) → stB n → (s.take (k + 1)).all nmB24 = true) := Lib.hid (fun n hn h => nm24_next hlt HA.out (nmB24_of (c := s[k]) hn h))
        have HF : Hid (∀ n : Int, n = ((({ data := s.toArray } : ByteArray)[k]'(by exact hlt)).toNat : Int) → ¬stB n → false = r) := Lib.hid (fun n hn h => by rw [← hr.out]; exact (nm24_not hlt (nmB24_no (c := s[k]) hn h)).symm)
        go_wp2_with fail
        refine (pwstands_any _ wr).mono ?_
        rintro e w1 ⟨⟨q, rfl, hq⟩, rfl⟩
        cases q
        · have HF' : Hid (false = r) := Lib.hid (HF.out _ rfl (fun h => by have := hq.2 h; cases this))
          clear hq HF HT
          go_wp2
          go_ret
          exact ⟨ret_boolE HF'.out, rfl⟩
        · have HT' := Lib.hid (HT.out _ rfl (hq.1 rfl))
          clear hq HF HT
          go_wp2
          refine ⟨⟨k + 1, by omega, by first | rfl | (push_cast; rfl), HT', trivial⟩, ?_⟩
          show s.length - ((k : Int) + 1).toNat < s.length - (k : Int).toNat
          omega
      · have hk' : k = s.length := by omega
        subst hk'
        rw [List.take_length] at HA
        have HE' : Hid (true = r) := Lib.hid (by rw [← HE.out, HA.out])
        go_wp2
        go_ret
        exact ⟨ret_boolE HE'.out, rfl⟩
  · have HE : Hid (false = nm24 s) := Lib.hid (by simp only [nm24, decide_eq_false h1, Bool.and_false])
    by_cases h0 : 1 ≤ s.length
    · have d1 := txt_some h0
      have d2 : decide ((24 : Int) < (s.length : Int)) = true := decide_eq_true (by omega)
      clear h0 h1
      go_enter Try.func27, Try.ntmps27
      go_wp2
      go_ret
      exact ⟨ret_boolE HE.out, rfl⟩
    · obtain rfl : s = [] := List.eq_nil_of_length_eq_zero (by omega)
      clear h0 h1
      go_enter Try.func27, Try.ntmps27
      go_wp2
      go_ret
      exact ⟨ret_boolE HE.out, rfl⟩
theorem pwmayput_any (x : Tx) (v : Value) (b : List UInt8) (w : World) (hx : x.length ≤ 1000000000) (hv : Bs w v b) : Calls Try.prog 30 #[.string ⟨x.toArray⟩, v] w fun e w' => e = .returned (.bool (nm24 x && decide (b.length ≤ 1048576))) ∧ w = w' := by
  have HN := Lib.hid (pwname_any x w hx)
  obtain ⟨A, c, rfl⟩ := hv.shape
  clear hv
  have d1 : decide ((b.length : Int) ≤ 1048576) = decide (b.length ≤ 1048576) := by simp; omega
  generalize decide (b.length ≤ 1048576) = q at d1 ⊢
  cases hnm : nm24 x
  · rw [hnm] at HN
    go_enter Try.func30, Try.ntmps30
    go_wp2_with fail
    refine HN.out.mono ?_
    rintro e w0 ⟨rfl, rfl⟩
    go_wp2
    go_ret
    exact ⟨rfl, rfl⟩
  · rw [hnm] at HN
    go_enter Try.func30, Try.ntmps30
    go_wp2_with fail
    refine HN.out.mono ?_
    rintro e w0 ⟨rfl, rfl⟩
    go_wp2
    go_ret
    cases q <;> exact ⟨rfl, rfl⟩
end Go.Proofs.Ytpepapadbmkjiaa

namespace Go.Proofs.Ytpepapadbmkjiaa
open Go.RowKit Go.Maps
theorem reqS_not {s : Wst} {ok : Bool} {act : Wst → Int × Wst} {r : Int × Wst} (h : notS s ok = some r) : reqS s ok act = r := by
  unfold notS at h
  unfold reqS
  by_cases h1 : ok = false
  · rw [if_pos h1] at h; cases h; rw [if_pos h1]
  · rw [if_neg h1] at h; rw [if_neg h1]
    by_cases h2 : s.dead = true
    · rw [if_pos h2] at h; cases h; rw [if_pos h2]
    · rw [if_neg h2] at h; rw [if_neg h2]
      by_cases h3 : s.fl.headD 0 = 1
      · rw [if_pos h3] at h; cases h
        have : nextF s.fl = 1 := by
          unfold nextF
          cases e : s.fl with
          | nil => rw [e] at h3; simp at h3
          | cons a r => rw [e] at h3; simp at h3; simp [h3]
        rw [if_pos this]
      · rw [if_neg h3] at h; cases h
theorem reqS_do {s : Wst} {ok : Bool} {act : Wst → Int × Wst} (h : notS s ok = none) : reqS s ok act = (if s.fl.headD 0 = 2 then 11 else (act (faultS (stepS s).2)).1, (act (faultS (stepS s).2)).2) := by
  unfold notS at h
  unfold reqS
  by_cases h1 : ok = false
  · rw [if_pos h1] at h; cases h
  · rw [if_neg h1] at h; rw [if_neg h1]
    by_cases h2 : s.dead = true
    · rw [if_pos h2] at h; cases h
    · rw [if_neg h2] at h; rw [if_neg h2]
      by_cases h3 : s.fl.headD 0 = 1
      · rw [if_pos h3] at h; cases h
      · have h4 : nextF s.fl ≠ 1 := by
          unfold nextF
          cases e : s.fl with
          | nil => simp
          | cons a r => rw [e] at h3; simp at h3; simp [h3]; split <;> omega
        have h5 : (nextF s.fl = 2) = (s.fl.headD 0 = 2) := by
          unfold nextF
          cases e : s.fl with
          | nil => simp
          | cons a r => rw [e] at h3; simp at h3; by_cases ha : a = 2 <;> simp [h3, ha]
        rw [if_neg h4]; simp only [h5]
theorem pwact_any {av : Nat → Prop} {n N : Nat} {w : World} {g : Nat} {s : Wst} (p : PW av n w g s) (hN : n ≤ N) (ok : Bool) (F : Nat) (caps : Array Value) (act : Wst → Int × Wst)
    (hcf : ∀ args W, (callFunc F args).run Try.prog W = .ok (.enter F args) W)
    (hdo : ∀ W t, ok = true → t = faultS (stepS s).2 → Fr (One g) w W → PW av n W g t → Calls Try.prog F caps W (DoEnd av N g W (act t))) :
    Calls Try.prog 29 #[ptr g, .bool ok, .func (.func F) #[] caps] w (DoEnd av N g w (reqS s ok act)) := by
  have hng := p.ng
  have HG : ∀ {W W' : World}, Fr (One g) W W' → Fr (fun k => ¬ av k) W W' := fun hf => hf.mono (fun k _ h => by rw [show k = g from h]; exact hng)
  refine (pwreq_any p ok F caps (fun r w' => r = (act (faultS (stepS s).2)).1 ∧ (∃ n', n' ≤ N ∧ PW av n' w' g (act (faultS (stepS s).2)).2) ∧ Fr (fun k => ¬ av k) w w') hcf (fun W ho hf hp => ?_)).mono ?_
  · refine (hdo W _ ho rfl hf hp).mono ?_
    rintro e w' ⟨rfl, hp', hf'⟩
    exact ⟨_, rfl, rfl, hp', (HG hf).trans hf'⟩
  · rintro e w' ⟨z, rfl, ⟨s', hn, hp', hf'⟩ | ⟨hn, r, ⟨rfl, hp', hf'⟩, rfl⟩⟩
    · rw [reqS_not hn]
      exact ⟨rfl, ⟨n, hN, hp'⟩, HG hf'⟩
    · rw [reqS_do hn]
      exact ⟨rfl, hp', hf'⟩
theorem hokb {x : Tx} {b : List UInt8} (h : (nm24 x && decide (b.length ≤ 1048576)) = true) : b.length ≤ 1048576 := by
  rw [Bool.and_eq_true] at h
  exact of_decide_eq_true h.2
def avR (av : Nat → Prop) (b c : Nat) (k : Nat) : Prop := av k ∨ (b ≤ k ∧ k < c)
theorem makeFunc_run : ∀ (fn : Fn) (first cap : Array Value) (w : World), (Instr.makeFunc fn first cap).run Try.prog w = .ok (.func fn first cap) w := fun _ _ _ _ => rfl
set_option maxHeartbeats 4000000 in
theorem pwput_any {av : Nat → Prop} {n : Nat} {w : World} {g : Nat} {s : Wst} (p : PW av n w g s) (hav : ∀ k, av k → k < w.heap.size) (hn : n < 1000000) (x : Tx) (hx : x.length ≤ 1000000000) (v : Value) (b : List UInt8) (hv : ∀ W', Fr (fun k => ¬ av k) w W' → Bs W' v b) (hbl : b.length ≤ 1000000000) :
    Calls Try.prog 8 #[ptr g, .string ⟨x.toArray⟩, v] w fun e w' => e = .returned (.int .i64 (putS s x b false).1) ∧ (∃ n', n' ≤ n + 1 ∧ PW av n' w' g (putS s x b false).2) ∧ Fr (fun k => ¬ av k) w w' := by
  have HG := Lib.hid p.ng
  obtain ⟨Ab, cb, rfl⟩ := Vs.shape (f := bv) (hv w (Fr.refl _ _))
  obtain ⟨bx, hbx⟩ : ∃ b, w.heap.size = b := ⟨_, rfl⟩
  obtain ⟨W, hW⟩ : ∃ W, W = (((w.alloc (.cells #[ptr g] 25)).alloc (.cells #[.string ⟨x.toArray⟩] 9)).alloc (.cells #[.slice Ab b.length cb] 23)) := ⟨_, rfl⟩
  obtain ⟨Y0, hY0⟩ : ∃ Y, Y = w.alloc (.cells #[ptr g] 25) := ⟨_, rfl⟩
  have G0 : Fr Non w Y0 := by rw [hY0]; exact (Fr.refl _ _).alloc _
  have s0 : Y0.heap.size = bx + 1 := by rw [hY0]; simp; omega
  have b0 : Blk Y0 bx 25 #[ptr g] := by rw [hY0, ← hbx]; exact Blk.new _ _ _
  obtain ⟨Y1, hY1⟩ : ∃ Y, Y = Y0.alloc (.cells #[.string ⟨x.toArray⟩] 9) := ⟨_, rfl⟩
  have G1 : Fr Non Y0 Y1 := by rw [hY1]; exact (Fr.refl _ _).alloc _
  have s1 : Y1.heap.size = bx + 2 := by rw [hY1]; simp; omega
  have b1 : Blk Y1 (bx + 1) 9 #[.string ⟨x.toArray⟩] := by rw [hY1, ← s0]; exact Blk.new _ _ _
  obtain ⟨Y2, hY2⟩ : ∃ Y, Y = Y1.alloc (.cells #[.slice Ab b.length cb] 23) := ⟨_, rfl⟩
  have G2 : Fr Non Y1 Y2 := by rw [hY2]; exact (Fr.refl _ _).alloc _
  have s2 : Y2.heap.size = bx + 3 := by rw [hY2]; simp; omega
  have b2 : Blk Y2 (bx + 2) 23 #[.slice Ab b.length cb] := by rw [hY2, ← s1]; exact Blk.new _ _ _
  have hWY : W = Y2 := by rw [hW, hY2, hY1, hY0]
  subst hWY
  have FW : Fr Non w W := (G0.trans G1).trans G2
  have h0 : W.cell? ⟨bx, 0, none⟩ = some (ptr g) := ((b0.fr G1 (fun e => e)).fr G2 (fun e => e)).cell 0
  have h1 : W.cell? ⟨bx + 1, 0, none⟩ = some (.string ⟨x.toArray⟩) := (b1.fr G2 (fun e => e)).cell 0
  have h2 : W.cell? ⟨bx + 2, 0, none⟩ = some (.slice Ab b.length cb) := b2.cell 0
  have hz : W.heap.size = bx + 3 := s2
  have PW0 := Lib.hid ((p.avoid (av' := avR av bx (bx + 3)) (fun k h => h.imp id (fun h => by omega))).keep FW (fun k h => h.elim))
  have HAV : Hid (∀ k, avR av bx (bx + 3) k → k < W.heap.size) := Lib.hid (fun k h => h.elim (fun h => by have := hav k h; omega) (fun h => by omega))
  have HFW : Hid (Fr (fun k => ¬ av k) w W) := Lib.hid (Fr.any FW)
  have HSUB : Hid (∀ {X X' : World}, Fr (fun k => ¬ avR av bx (bx + 3) k) X X' → Fr (fun k => ¬ av k) X X') := Lib.hid (fun hf => hf.mono (fun k _ h hk => h (Or.inl hk)))
  have a0 : avR av bx (bx + 3) (bx) := Or.inr ⟨by omega, by omega⟩
  have a1 : avR av bx (bx + 3) (bx + 1) := Or.inr ⟨by omega, by omega⟩
  have a2 : avR av bx (bx + 3) (bx + 2) := Or.inr ⟨by omega, by omega⟩
  have HV := Lib.hid hv
  have HBL := Lib.hid hbl
  have hmf := makeFunc_run
  clear hY0 G0 s0 b0 hY1 G1 s1 b1 hY2 G2 s2 b2 FW p hav hv
  go_enter Try.func8, Try.ntmps8
  go_wp2
  try rw [hbx]
  try rw [← hW]
  clear hW hbx
  obtain ⟨V, hV⟩ : ∃ V, V = W.drew := ⟨_, rfl⟩
  refine wp_region_held_drew (S := (fun W' => W'.cell? ⟨bx, 0, none⟩ = some (ptr g) ∧ W'.cell? ⟨bx + 1, 0, none⟩ = some (.string ⟨x.toArray⟩) ∧ W'.cell? ⟨bx + 2, 0, none⟩ = some (.slice Ab b.length cb))) (by kernel_rfl) (by exact ⟨h0, h1, h2⟩) (fun hHeld => ?_)
  rw [← hV] at hHeld ⊢
  have FV : Fr Non W V := by rw [hV]; exact (Fr.refl _ _).drew
  clear hV
  have hvz : V.heap.size = bx + 3 ∨ bx + 3 ≤ V.heap.size := Or.inr (by have := FV.size; omega)
  have PV := Lib.hid (PW0.out.keep FV (fun k h => h.elim))
  have HFV : Hid (Fr (fun k => ¬ av k) w V) := Lib.hid (HFW.out.trans (Fr.any FV))
  have hsV : bx + 3 ≤ V.heap.size := by have := FV.size; omega
  have HAVV : Hid (∀ k, avR av bx (bx + 3) k → k < V.heap.size) := Lib.hid (fun k h => by have := HAV.out k h; have := FV.size; omega)
  clear FV hvz
  replace h0 := hHeld.1
  replace h1 := hHeld.2.1
  replace h2 := hHeld.2.2
  refine wpAnyH_take (i := 0) (oi := ⟨some 7, _, _, _, _, none⟩) (v := ?v18) rfl (by kernel_rfl) (by kernel_rfl) (by kernel_rfl) (fun _ _ _ h => h) (Or.inl ⟨by rfl, ?hy18⟩) (by assumption) ?rest18
  case hy18 => (intro wS hSw; (try dsimp only at hSw); go_simp; (try with_reducible rfl))
  (try simp only [Act.put, List.setIfInBounds_toArray, List.set_cons_zero, List.set_cons_succ])
  refine wpAnyH_take (i := 1) (oi := ⟨some 8, _, _, _, _, none⟩) (v := ?v19) rfl (by kernel_rfl) (by kernel_rfl) (by kernel_rfl) (fun _ _ _ h => h) (Or.inl ⟨by rfl, ?hy19⟩) (by assumption) ?rest19
  case hy19 => (intro wS hSw; (try dsimp only at hSw); go_simp; (try with_reducible rfl))
  (try simp only [Act.put, List.setIfInBounds_toArray, List.set_cons_zero, List.set_cons_succ])
  refine wpAnyH_take (i := 2) (oi := ⟨some 9, _, _, _, _, none⟩) (v := ?v20) rfl (by kernel_rfl) (by kernel_rfl) (by kernel_rfl) (fun _ _ _ h => h) (Or.inl ⟨by rfl, ?hy20⟩) (by assumption) ?rest20
  case hy20 => (intro wS hSw; (try dsimp only at hSw); go_simp; (try with_reducible rfl))
  (try simp only [Act.put, List.setIfInBounds_toArray, List.set_cons_zero, List.set_cons_succ])
  refine wpAnyH_take (i := 4) (oi := ⟨some 11, _, _, _, _, none⟩) (v := ?v21) rfl (by kernel_rfl) (by kernel_rfl) (by kernel_rfl) (fun _ _ _ h => h) (Or.inl ⟨by rfl, ?hy21⟩) (by assumption) ?rest21
  case hy21 => (intro wS hSw; (try dsimp only at hSw); go_simp; (try with_reducible rfl))
  (try simp only [Act.put, List.setIfInBounds_toArray, List.set_cons_zero, List.set_cons_succ])
  refine wpAnyH_ready (rs := [3]) (by kernel_rfl) (by simp) ?_
  refine AllReadyH.cons (o := ⟨some 10, _, _, _, _, none⟩) rfl (fun K hK => ?_) AllReadyH.nil
  go_simp
  go_at_call 30
  refine (pwmayput_any x (.slice Ab b.length cb) b V hx (HV.out V HFV.out)).mono ?_
  rintro e w0 ⟨rfl, rfl⟩
  go_wp2_with fail
  refine hK.out _ _ (by exact ⟨h0, h1, h2⟩) (fun hHeld => ?_)
  clear hK K
  (try simp only [Act.put, List.setIfInBounds_toArray, List.set_cons_zero, List.set_cons_succ])
  refine wpAnyH_ready (rs := [5]) (by kernel_rfl) (by simp) ?_
  refine AllReadyH.cons (o := ⟨some 12, _, _, _, _, none⟩) rfl (fun K hK => ?_) AllReadyH.nil
  go_simp
  go_at_call 29
  refine (pwact_any (N := n + 1) PV.out (by omega) _ 31 #[ptr (bx + 2), ptr bx, ptr (bx + 1)] (actP x b false) Try.call31 (fun W' t hok ht hf hp => ?_)).mono ?_
  · have hsW := hf.size
    have HGV : ∀ k, avR av bx (bx + 3) k → k ≠ g := fun k hk e => PV.out.ng (by rw [← e]; exact hk)
    exact pwdoput_any hp (fun k h => by have := HAVV.out k h; omega) hn x hx (.slice Ab b.length cb) b (HV.out _ (HFV.out.trans (HSUB.out (hf.mono (fun k _ h hk => HGV k hk h))))) (hokb hok) bx (bx + 1) (bx + 2) a0 a1 a2 ((hf.cell (p := ⟨bx, 0, none⟩) (by show _ < V.heap.size; dsimp only; omega) (HGV _ a0)).trans h0) ((hf.cell (p := ⟨bx + 1, 0, none⟩) (by show _ < V.heap.size; dsimp only; omega) (HGV _ a1)).trans h1) ((hf.cell (p := ⟨bx + 2, 0, none⟩) (by show _ < V.heap.size; dsimp only; omega) (HGV _ a2)).trans h2)
  rintro e W5 ⟨rfl, ⟨n5, hn5, P5⟩, F5⟩
  have j0 : W5.cell? ⟨bx, 0, none⟩ = some (ptr g) := (F5.cell (p := ⟨bx, 0, none⟩) (by show _ < V.heap.size; dsimp only; omega) (fun h => h a0)).trans h0
  have j1 : W5.cell? ⟨bx + 1, 0, none⟩ = some (.string ⟨x.toArray⟩) := (F5.cell (p := ⟨bx + 1, 0, none⟩) (by show _ < V.heap.size; dsimp only; omega) (fun h => h a1)).trans h1
  have j2 : W5.cell? ⟨bx + 2, 0, none⟩ = some (.slice Ab b.length cb) := (F5.cell (p := ⟨bx + 2, 0, none⟩) (by show _ < V.heap.size; dsimp only; omega) (fun h => h a2)).trans h2
  go_wp2_with fail
  refine hK.out _ _ (by exact ⟨j0, j1, j2⟩) (fun hHeld => ?_)
  clear hK K
  (try simp only [Act.put, List.setIfInBounds_toArray, List.set_cons_zero, List.set_cons_succ])
  refine wpAnyH_take (i := 6) (oi := ⟨some 6, _, _, _, _, none⟩) (v := ?v22) rfl (by kernel_rfl) (by kernel_rfl) (by kernel_rfl) (fun _ _ _ h => h) (Or.inl ⟨by rfl, ?hy22⟩) (by assumption) ?rest22
  case hy22 => (intro wS hSw; (try dsimp only at hSw); go_simp; (try with_reducible rfl))
  (try simp only [Act.put, List.setIfInBounds_toArray, List.set_cons_zero, List.set_cons_succ])
  refine wpAnyH_done (by kernel_rfl) ?_ _
  have PE := Lib.hid (P5.avoid (av' := av) (fun k h => Or.inl (Or.inl h)))
  have FE := Lib.hid (HFV.out.trans (HSUB.out F5))
  clear hHeld P5 F5 j0 j1 j2
  go_wp2
  go_ret
  exact ⟨rfl, ⟨n5, hn5, PE.out⟩, FE.out⟩
end Go.Proofs.Ytpepapadbmkjiaa

namespace Go.Proofs.Ytpepapadbmkjiaa
open Go.RowKit
def farS (s : Wst) (x : Tx) (o k : Int) : Prop := ((s.ob x).length : Int) < o ∨ ((s.ob x).length : Int) - o < k
instance (s : Wst) (x : Tx) (o k : Int) : Decidable (farS s x o k) := by unfold farS; infer_instance
def partS (s : Wst) (x : Tx) (o k : Int) : Int × List UInt8 :=
  if x ∈ s.ks then if farS s x o k then (1, []) else (0, ((s.ob x).drop o.toNat).take (if k = -1 then (s.ob x).length else k.toNat)) else (5, [])
theorem part_none {s : Wst} {x : Tx} {o k : Int} (h : ¬ x ∈ s.ks) : partS s x o k = (5, []) := if_neg h
theorem part_far {s : Wst} {x : Tx} {o k : Int} (h : x ∈ s.ks) (hf : farS s x o k) : partS s x o k = (1, []) := by unfold partS; rw [if_pos h, if_pos hf]
theorem part_did {s : Wst} {x : Tx} {o k : Int} (h : x ∈ s.ks) (hf : ¬ farS s x o k) : partS s x o k = (0, ((s.ob x).drop o.toNat).take (if k = -1 then (s.ob x).length else k.toNat)) := by unfold partS; rw [if_pos h, if_neg hf]
def PartEnd (w : World) (r : Int × List UInt8) (e : Ending) (w' : World) : Prop := ∃ u, e = .returned (.tuple #[u, .int .i64 r.1]) ∧ Own w' w.heap.size u r.2 ∧ Fr Non w w'
theorem PartEnd.not (w : World) (z : Int) : PartEnd w (z, []) (.returned (.tuple #[.slice none 0 0, .int .i64 z])) w := ⟨_, rfl, own_nil _ _, Fr.refl _ _⟩
set_option maxHeartbeats 4000000 in
theorem pwpart_any {av : Nat → Prop} {n : Nat} {w : World} {g : Nat} {s : Wst} (p : PW av n w g s) (x : Tx) (hx : x.length ≤ 1000000000) (o k : Int) (ho : 0 ≤ o ∧ o ≤ 9223372036854775807) (hk : -1 ≤ k ∧ k ≤ 9223372036854775807) :
    Calls Try.prog 43 #[ptr g, .string ⟨x.toArray⟩, .int .i64 o, .int .i64 k] w (PartEnd w (partS s x o k)) := by
  have HOK : Hid (okTx x) := Lib.hid (by unfold okTx; omega)
  obtain ⟨m, fv, f, vals, p⟩ := p
  have c0 : w.cell? ⟨g, 0, none⟩ = some (.map (some m)) := p.blk.cell 0
  have hlg := p.lt
  obtain ⟨q, hlk, hq⟩ : ∃ q : Bool, (Instr.lookup 42 (.map (some m)) (.string ⟨x.toArray⟩) true).run Try.prog w = .ok (.tuple #[vals x, .bool q]) w ∧ (q = true ↔ x ∈ s.ks) := ⟨_, p.map.look2 mapT_bs keyTx (y := x) HOK.out, by simp⟩
  have HP := Lib.hid p
  cases q
  · rw [part_none (fun h => by have := hq.2 h; cases this)]
    have HE := Lib.hid (PartEnd.not w 5)
    clear p hq
    go_enter Try.func43, Try.ntmps43
    go_wp2
    go_ret2
    exact HE.out
  · have hin := hq.1 rfl
    obtain ⟨HBs, hown⟩ := p.ob x hin
    have hol := p.obl x hin
    obtain ⟨b, hb⟩ : ∃ b, s.ob x = b := ⟨_, rfl⟩
    have hfar : farS s x o k ↔ ((b.length : Int) < o ∨ (b.length : Int) - o < k) := by unfold farS; rw [hb]
    rw [hb] at HBs hol
    obtain ⟨A, c, hv⟩ := Vs.shape (f := bv) HBs
    rw [hv] at hlk HBs hown
    have hbc : b.length ≤ c := by
      obtain ⟨A', c', he, h, -⟩ := HBs
      simp only [Value.slice.injEq] at he
      omega
    replace HBs := Lib.hid HBs
    by_cases h1 : (b.length : Int) < o
    · rw [part_far hin (hfar.2 (Or.inl h1))]
      have HE := Lib.hid (PartEnd.not w 1)
      have e1 : decide ((b.length : Int) < o) = true := decide_eq_true h1
      clear p hq hin hv hfar h1 hown hb
      go_enter Try.func43, Try.ntmps43
      go_wp2
      go_ret2
      exact HE.out
    · have e1 : decide ((b.length : Int) < o) = false := decide_eq_false h1
      have hw : wrap64 ((b.length : Int) - o) = (b.length : Int) - o := by unfold wrap64; omega
      by_cases h2 : (b.length : Int) - o < k
      · rw [part_far hin (hfar.2 (Or.inr h2))]
        have HE := Lib.hid (PartEnd.not w 1)
        have e2 : decide ((b.length : Int) - o < k) = true := decide_eq_true h2
        clear p hq hin hv hfar h1 h2 hown hb
        go_enter Try.func43, Try.ntmps43
        go_wp2
        go_ret2
        exact HE.out
      · rw [part_did hin (fun h => (hfar.1 h).elim h1 h2)]
        rw [hb]
        have e2 : decide ((b.length : Int) - o < k) = false := decide_eq_false h2
        obtain ⟨i, hi⟩ := Int.eq_ofNat_of_zero_le ho.1
        subst hi
        have hib : i ≤ b.length := by omega
        by_cases h3 : k = -1
        · subst h3
          have HR : Hid ((b.drop (i : Int).toNat).take (if (-1 : Int) = -1 then b.length else (-1 : Int).toNat) = (b.drop i).take (b.length - i)) := Lib.hid (by
            rw [if_pos rfl]
            simp [List.take_of_length_le])
          rw [HR.out]
          obtain ⟨A', c', hr1, hv1, ho1⟩ := slice_lhG el_u8 A b.length c i b.length .i64 .i64 (i : Int) ((i : Int) + ((b.length : Int) - (i : Int))) rfl (by omega) hib (Nat.le_refl _) hbc
          have HV := Lib.hid (hv1 bv w b rfl HBs.out)
          have hbl := hol
          clear p hq hin hv hfar h1 h2 hown hb hv1
          go_enter Try.func43, Try.ntmps43
          go_wp2_with fail
          refine (clone_any _ _ w HV.out (by simp; omega)).mono ?_
          rintro e w5 ⟨u, rfl, O5, F5⟩
          have HE : Hid (PartEnd w (0, (b.drop i).take (b.length - i)) (.returned (.tuple #[u, .int .i64 0])) w5) := Lib.hid ⟨u, rfl, O5, F5⟩
          clear O5 F5
          go_wp2
          go_ret2
          exact HE.out
        · obtain ⟨j, hj⟩ := Int.eq_ofNat_of_zero_le (show (0 : Int) ≤ k by omega)
          subst hj
          have HR : Hid ((b.drop (i : Int).toNat).take (if (j : Int) = -1 then b.length else (j : Int).toNat) = (b.drop i).take j) := Lib.hid (by
            rw [if_neg h3]; rfl)
          rw [HR.out]
          have e3 : ((j : Int) == -1) = false := by rw [beq_eq_false_iff_ne]; exact h3
          have hw2 : wrap64 ((i : Int) + (j : Int)) = (i : Int) + (j : Int) := by unfold wrap64; omega
          obtain ⟨A', c', hr1, hv1, ho1⟩ := slice_lhG el_u8 A b.length c i (i + j) .i64 .i64 (i : Int) ((i : Int) + (j : Int)) rfl (by omega) (by omega) (by omega) hbc
          have hv2 := hv1 bv w b rfl HBs.out
          have hij : i + j - i = j := by omega
          rw [hij] at hv2
          simp only [hij] at hr1
          have HV := Lib.hid hv2
          have hbl := hol
          clear hv2 hij ho1 p hq hin hv hfar h1 h2 h3 hown hb hv1
          go_enter Try.func43, Try.ntmps43
          go_wp2_with fail
          refine (clone_any _ _ w HV.out (by simp; omega)).mono ?_
          rintro e w5 ⟨u, rfl, O5, F5⟩
          have HE : Hid (PartEnd w (0, (b.drop i).take j) (.returned (.tuple #[u, .int .i64 0])) w5) := Lib.hid ⟨u, rfl, O5, F5⟩
          clear O5 F5
          go_wp2
          go_ret2
          exact HE.out
end Go.Proofs.Ytpepapadbmkjiaa
