/-
  Joined: Slices of structs of k one-celled fields, of any type: what one reads as (Ns), a row of the call's own (No), and the steps over them: made, stored into, append of one, append of many, opened. · Layer 12: a column as a value; slices of columns; two compared. · Names: which texts may be one; nothing of the program. · Columns: which there may be, where one is, which rows; their bytes, and what is read of bytes; nothing of the program. · Columns' bytes, and what is read of bytes; nothing of the program. · Layer 11: which zones there may be, both programs'. · Layer 9: a cell's bytes, both programs'. · Layer 11: a zone's bytes, both programs'. · Layer 11: the closure that notes a cell in a zone. · Layer 11: the zone of a list's cells, the program's. · Layer 9: a cell read, both programs'. · Layer 11: a zone read, the program's. · Layer 9: a cell read by the document's own source. · Layer 11: a zone read, the document's. · Layer 9: a cell's bytes are read as it. A region that draws, walked by hand: what all steps keep, made stronger midway.
-/
import Derived.Deep.RegionHeld3
import Derived.StillTail
import Derived.Test.YtheefloegbkflaaGreatDoorZ1
import Derived.Test.YtheefloegbkflaaGreatDoorZ3
import Derived.BigFrame
import Derived.Laws.StructEq
import Derived.Laws.Rows
import Derived.Laws.ResultCell
import Derived.Test.YtheefloegbkflaaGreatDoorZ2
import Derived.Test.YtheefloegbkflaaGreatDoorZ6
import Derived.WalkMore

namespace Go.Proofs.YtheefloegbkflaaGreatDoor
set_option linter.unusedVariables false
set_option linter.unusedSimpArgs false
set_option maxRecDepth 100000
open Go.ChangeShapes Go.WideShapes Go.ChangeAt Go.RowKit

/-- f: an element's cells, k of them -/
structure Fd {α : Type} (f : α → List Value) (k : Nat) : Prop where
  len : ∀ x, (f x).length = k
  one : ∀ x, ∀ u ∈ f x, u.oneCell' = true
  pos : 0 < k
  small : k ≤ 64

section
variable {α : Type} {f : α → List Value} {k : Nat}

theorem catN_len (h : Fd f k) (l : List α) : (l.flatMap f).length = l.length * k := by
  induction l with
  | nil => simp
  | cons c l ih => rw [List.flatMap_cons, List.length_append, ih, h.len, List.length_cons, Nat.succ_mul, Nat.add_comm]
theorem catN_at (h : Fd f k) (l : List α) (j i : Nat) (hj : j < l.length) (hi : i < k) : (l.flatMap f)[j * k + i]? = (f l[j])[i]? := by
  induction l generalizing j with
  | nil => cases hj
  | cons c l ih =>
    rw [List.flatMap_cons]
    cases j with
    | zero => rw [List.getElem?_append_left (by rw [h.len]; omega)]; simp
    | succ j =>
      rw [Nat.succ_mul, List.getElem?_append_right (by rw [h.len]; omega)]
      rw [show j * k + k + i - (f c).length = j * k + i by rw [h.len]; omega]
      exact ih j (by simpa using hj)
theorem catN_one (h : Fd f k) (l : List α) : ∀ u ∈ l.flatMap f, u.oneCell' = true := by
  intro u hu
  obtain ⟨c, _, hc⟩ := List.mem_flatMap.1 hu
  exact h.one c u hc
theorem catN_set (h : Fd f k) (l : List α) (j i : Nat) (u : Value) (x y : α) (hj : l[j]? = some y) (hi : i < k) (hx : f x = (f y).set i u) : (l.set j x).flatMap f = (l.flatMap f).set (j * k + i) u := by
  induction l generalizing j with
  | nil => simp at hj
  | cons d l ih =>
    cases j with
    | zero =>
      obtain rfl : d = y := by simpa using hj
      rw [List.set_cons_zero, List.flatMap_cons, List.flatMap_cons, hx, List.set_append_left _ _ (by rw [h.len]; omega)]
      simp
    | succ j =>
      rw [List.set_cons_succ, List.flatMap_cons, List.flatMap_cons, ih j (by simpa using hj), Nat.succ_mul]
      rw [List.set_append_right _ _ (by rw [h.len]; omega), show j * k + k + i - (f d).length = j * k + i by rw [h.len]; omega]

/-- cells, one behind the other, that hold us -/
def AtN (w : World) (a : Addr) (us : List Value) : Prop := ∀ (i : Nat) (u : Value), us[i]? = some u → w.cell? (a.add i) = some u
theorem AtN.keep {w w' : World} {a : Addr} {us : List Value} (h : AtN w a us) (hk : a.block < w.heap.size → w'.heap[a.block]? = w.heap[a.block]?) : AtN w' a us := by
  intro i u hu
  have h1 := h i u hu
  have hb := World.block_lt_of_cell? w _ h1
  rw [add_block] at hb
  rw [← h1]
  exact World.cell?_of_block (by rw [add_block]; exact hk hb)
theorem AtN.non {w w' : World} {a : Addr} {us : List Value} (h : AtN w a us) (hf : Fr Non w w') : AtN w' a us := h.keep fun hb => hf.block _ hb (fun e => e)

/-- the slice v reads as the list l, each element's cells being f of it -/
def Ns (f : α → List Value) (k : Nat) (w : World) (v : Value) (l : List α) : Prop :=
  ∃ A c, v = .slice A l.length c ∧ l.length ≤ c ∧ (A = none → c = 0) ∧ ∀ a, A = some a → ∀ j (h : j < l.length), AtN w (a.add (j * k)) (f l[j])
/-- a row of the call's own, from block B on, of elements of type E -/
def No (f : α → List Value) (k : Nat) (E : TypeId) (w : World) (B : Nat) (v : Value) (l : List α) : Prop := w.ownsRow B E k v l.length (l.flatMap f)

theorem Ns.nil_ (w : World) : Ns f k w (.slice none 0 0) [] := ⟨none, 0, rfl, Nat.le_refl _, fun _ => rfl, fun _ h => by cases h⟩
theorem Ns.keep {w w' : World} {v : Value} {l : List α} (h : Ns f k w v l) (hk : ∀ b, v.ownBlock = some b → b < w.heap.size → w'.heap[b]? = w.heap[b]?) : Ns f k w' v l := by
  obtain ⟨A, c, rfl, h1, h2, h3⟩ := h
  refine ⟨A, c, rfl, h1, h2, fun a ha j hj => ?_⟩
  subst ha
  refine (h3 a rfl j hj).keep fun hb => ?_
  rw [add_block] at hb ⊢
  exact hk _ rfl hb
theorem Ns.fr {S : Nat → Prop} {w w' : World} {v : Value} {l : List α} (h : Ns f k w v l) (hf : Fr S w w') (hn : ∀ b, v.ownBlock = some b → ¬ S b) : Ns f k w' v l :=
  h.keep fun b hb hlt => hf.block b hlt (hn b hb)
theorem Ns.non {w w' : World} {v : Value} {l : List α} (h : Ns f k w v l) (hf : Fr Non w w') : Ns f k w' v l := h.fr hf fun _ _ e => e
theorem Ns.drew {w : World} {v : Value} {l : List α} (h : Ns f k w v l) : Ns f k w.drew v l := h.keep fun _ _ _ => rfl
theorem Ns.drewN {w : World} {v : Value} {l : List α} (h : Ns f k w v l) (n : Nat) : Ns f k (w.drewN n) v l := h.keep fun _ _ _ => rfl
theorem Ns.shape {w : World} {v : Value} {l : List α} (h : Ns f k w v l) : ∃ A c, v = .slice A l.length c := by
  obtain ⟨A, c, rfl, _⟩ := h; exact ⟨A, c, rfl⟩
theorem Ns.addr {w : World} {A : Option Addr} {n c : Nat} {l : List α} (h : Ns f k w (.slice A n c) l) (hl : 0 < n) : ∃ a, A = some a ∧ n = l.length ∧ n ≤ c ∧ ∀ j (h : j < l.length), AtN w (a.add (j * k)) (f l[j]) := by
  obtain ⟨A0, c0, he, h1, h2, h3⟩ := h
  simp only [Value.slice.injEq] at he
  obtain ⟨rfl, rfl, rfl⟩ := he
  cases A with
  | none => have := h2 rfl; omega
  | some a => exact ⟨a, rfl, rfl, h1, h3 a rfl⟩
/-- the element at j -/
theorem Ns.at_ {w : World} {A : Option Addr} {n c : Nat} {l : List α} (h : Ns f k w (.slice A n c) l) (j : Nat) (x : α) (hx : l[j]? = some x) : ∃ a, A = some a ∧ AtN w (a.add (j * k)) (f x) := by
  obtain ⟨hj, rfl⟩ := List.getElem?_eq_some_iff.1 hx
  obtain ⟨A0, c0, he, h1, h2, h3⟩ := h
  simp only [Value.slice.injEq] at he
  obtain ⟨rfl, rfl, rfl⟩ := he
  cases A with
  | none => have := h2 rfl; omega
  | some a => exact ⟨a, rfl, h3 a rfl j hj⟩

variable {E : TypeId}
theorem no_nil (w : World) (B : Nat) : No f k E w B (.slice none 0 0) [] := ⟨by simp, .inl ⟨rfl, rfl⟩⟩
theorem No.lt {w : World} {B : Nat} {v : Value} {l : List α} (h : No f k E w B v l) : ∀ b, v.ownBlock = some b → B ≤ b ∧ b < w.heap.size := World.ownsRow.lt h
theorem No.ns (hF : Fd f k) {w : World} {B : Nat} {v : Value} {l : List α} (h : No f k E w B v l) : Ns f k w v l := by
  rcases h.2 with ⟨rfl, h0⟩ | ⟨g, cap, cur, rfl, _, _, hle, _, _, _⟩
  · have hl : l = [] := List.eq_nil_of_length_eq_zero h0
    subst hl; exact Ns.nil_ w
  · refine ⟨_, cap, rfl, hle, (fun h => by cases h), fun a ha j hj i u hu => ?_⟩
    cases ha
    have hi : i < k := by rw [← hF.len l[j]]; exact (List.getElem?_eq_some_iff.1 hu).1
    rw [add_add]
    exact World.ownsRow.cells h (g := g) rfl (j * k + i) _ ((catN_at hF l j i hj hi).trans hu)
theorem No.keep {w w' : World} {B : Nat} {v : Value} {l : List α} (h : No f k E w B v l) (hk : ∀ b, v.ownBlock = some b → w'.heap[b]? = w.heap[b]?) : No f k E w' B v l := by
  refine ⟨h.1, ?_⟩
  rcases h.2 with h2 | ⟨g, cap, cur, hv, hb, hg, r⟩
  · exact .inl h2
  · exact .inr ⟨g, cap, cur, hv, hb, by rw [hk g (by rw [hv]; rfl)]; exact hg, r⟩
theorem No.fr {S : Nat → Prop} {w w' : World} {B : Nat} {v : Value} {l : List α} (h : No f k E w B v l) (hf : Fr S w w') (hn : ∀ b, v.ownBlock = some b → ¬ S b) : No f k E w' B v l :=
  h.keep fun b hb => hf.block b (h.lt b hb).2 (hn b hb)
theorem No.non {w w' : World} {B : Nat} {v : Value} {l : List α} (h : No f k E w B v l) (hf : Fr Non w w') : No f k E w' B v l := h.fr hf fun _ _ e => e
theorem No.alloc {w : World} {B : Nat} {v : Value} {l : List α} (h : No f k E w B v l) (o : Obj) : No f k E (w.alloc o) B v l := h.non ((Fr.refl _ _).alloc o)
theorem No.drew {w : World} {B : Nat} {v : Value} {l : List α} (h : No f k E w B v l) : No f k E w.drew B v l := h
theorem No.mono {w : World} {B B' : Nat} {v : Value} {l : List α} (h : No f k E w B v l) (hB : B' ≤ B) : No f k E w B' v l := by
  refine ⟨h.1, ?_⟩
  rcases h.2 with h2 | ⟨g, cap, cur, hv, hb, r⟩
  · exact .inl h2
  · exact .inr ⟨g, cap, cur, hv, by omega, r⟩
theorem No.kind {w : World} {B : Nat} {v : Value} {l : List α} (h : No f k E w B v l) : ∀ b, v.ownBlock = some b → ∃ cur, w.heap[b]? = some (.cells cur E (0, 0)) := by
  intro b hk
  rcases h.2 with ⟨rfl, _⟩ | ⟨g, cap, cur, rfl, _, hg, _⟩
  · cases hk
  · obtain rfl : g = b := by simpa [Value.ownBlock] using hk
    exact ⟨cur, hg⟩
theorem No.row {w : World} {B : Nat} {v : Value} {l : List α} (h : No f k E w B v l) (hn : 0 < l.length) : ∃ g cap, v = .slice (some ⟨g, 0, none⟩) l.length cap ∧ B ≤ g ∧ g < w.heap.size ∧ l.length ≤ cap ∧ cap ≤ maxLen := by
  rcases h.2 with ⟨rfl, h0⟩ | ⟨g, cap, cur, rfl, hb, hg, hle, hm, _⟩
  · omega
  · exact ⟨g, cap, rfl, hb, (Array.getElem?_eq_some_iff.1 hg).1, hle, hm⟩
/-- what a walk asks of a row's element at j -/
theorem No.el (hF : Fd f k) {w : World} {B g n cap : Nat} {l : List α} (h : No f k E w B (.slice (some ⟨g, 0, none⟩) n cap) l) (hn : n = l.length) (j i : Nat) (x : α) (u : Value) (hx : l[j]? = some x) (hu : (f x)[i]? = some u) : w.cell? ⟨g, j * k + i, none⟩ = some u := by
  subst hn
  obtain ⟨hj, rfl⟩ := List.getElem?_eq_some_iff.1 hx
  have hi : i < k := by rw [← hF.len l[j]]; exact (List.getElem?_eq_some_iff.1 hu).1
  have hjk : (j + 1) * k ≤ l.length * k := Nat.mul_le_mul_right k hj
  rw [Nat.succ_mul] at hjk
  rw [World.ownsRow.cellAt h (j * k + i) (by omega), catN_at hF l j i hj hi]
  exact hu
theorem No.frozen {w : World} {B g n cap : Nat} {l : List α} (h : No f k E w B (.slice (some ⟨g, 0, none⟩) n cap) l) (hn : n = l.length) (j : Nat) : w.frozen? ⟨g, j, none⟩ = false := by
  subst hn; exact World.ownsRow.frozenAt h j
/-- one value stored -/
theorem No.put (hF : Fd f k) {w : World} {B g n cap : Nat} {l : List α} (h : No f k E w B (.slice (some ⟨g, 0, none⟩) n cap) l) (hn : n = l.length) (j i : Nat) (x y : α) (u : Value) (hy : l[j]? = some y) (hi : i < k) (hx : f x = (f y).set i u) :
    No f k E (w.setCell ⟨g, j * k + i, none⟩ u) B (.slice (some ⟨g, 0, none⟩) n cap) (l.set j x) := by
  subst hn
  unfold No
  rw [List.length_set, catN_set hF l j i u x y hy hi hx]
  exact (World.ownsRow.stored h (j * k + i) u).1
theorem no_lit (hF : Fd f k) (w : World) (B g : Nat) (l : List α) (cs : Array Value) (hcs : cs.toList = l.flatMap f) (hg : g = w.heap.size) (hB : B ≤ g) (hm : l.length ≤ 1000000) : No f k E (w.alloc (.cells cs E)) B (.slice (some ⟨g, 0, none⟩) l.length l.length) l := by
  subst hg
  have h := World.ownsRow_lit (e := E) (size := k) w cs l.length hB (by unfold maxLen; omega) (by rw [← Array.length_toList, hcs, catN_len hF])
  rw [hcs] at h
  exact h
/-- T: slices of E, whose elements have k cells; z: E's value of noughts -/
structure Eln (T E : TypeId) (z : Value) (k by_ : Nat) : Prop where
  under : Tryz.prog.underlying T = some (.slice E)
  info : (Tryz.prog.info? E).map (fun i => (i.zero, i.size, i.bytes)) = some (some z, k, by_)
  cells : z.cells.size = k
  small : by_ ≤ 512
variable {T : TypeId} {z : Value} {by_ : Nat}
/-- append of a slice's elements: the operation alone -/
theorem wp_appN (hF : Fd f k) (hE : Eln T E z k by_) {w : World} {o : Oper} {a : Act} {K : Act → World → Prop} {Q : Exit → Act → World → Prop} (s x : Operand)
    (ho : o.op = .call { callee := .builtin .append, args := #[s, x], argTypes := #[T, T] })
    (B : Nat) (v y : Value) (l m : List α) (hs : a.eval s = v) (hown : No f k E w B v l) (hx : a.eval x = y) (hy : Ns f k w y m)
    (hl : l.length + m.length < 68719476736) (hB : B ≤ w.heap.size)
    (h : ∀ v' w', No f k E w' B v' (l ++ m) → Fr (fun b => v.ownBlock = some b) w w' → K (a.put o.dst v') w') : o.wp Tryz.prog a w K Q := by
  obtain ⟨ii, hi, hz0, hz1, hz2⟩ := info_parts hE.info
  have hs' := hE.small
  have hk' := hF.small
  have hbl : (l.length + m.length) * by_ ≤ 35184372088832 := by
    have := Nat.mul_le_mul (show l.length + m.length ≤ 68719476736 by omega) hs'
    omega
  have hbk : (l.length + m.length) * k ≤ 4398046511104 := by
    have := Nat.mul_le_mul (show l.length + m.length ≤ 68719476736 by omega) hk'
    omega
  obtain ⟨A, c, rfl, hmc, hn, hcells⟩ := hy
  cases A with
  | some ad =>
    refine wp_append_own w s x T ho B E ii z k by_ hE.under hi hz0 hz1 hz2 hE.cells hF.pos v l.length (l.flatMap f) hs hown ad m.length c (m.flatMap f) hx (catN_len hF m) ?_ (catN_one hF m) (by unfold maxLen; omega) (by omega) hB ?_
    · intro j u hu
      have hp := hF.pos
      have hj : j < m.length * k := by rw [← catN_len hF]; exact (List.getElem?_eq_some_iff.1 hu).1
      have hd : j / k < m.length := Nat.div_lt_of_lt_mul (by rw [Nat.mul_comm]; exact hj)
      have hat := catN_at hF m (j / k) (j % k) hd (Nat.mod_lt _ hp)
      have ej : j / k * k + j % k = j := by rw [Nat.mul_comm]; exact Nat.div_add_mod j k
      rw [ej, hu] at hat
      have h3 := hcells ad rfl (j / k) hd (j % k) u hat.symm
      rw [add_add, ej] at h3
      exact h3
    · intro v' w' h1 h2 _
      refine h v' w' ?_ (Fr.of_grown h2)
      unfold No
      rw [List.flatMap_append, List.length_append]
      exact h1
  | none =>
    have hm : m = [] := List.eq_nil_of_length_eq_zero (by have := hn rfl; omega)
    subst hm
    have hc : c = 0 := hn rfl
    subst hc
    have hrun := run_append_owned_none (P := Tryz.prog) (w := w) B T o.type E ii k hE.under hi v l.length (l.flatMap f) hown
    unfold Oper.wp
    have hx' : a.eval x = .slice none 0 0 := hx
    simp [execOp, ho, resolve, invoke, builtin, hs, hx', hrun, Result.andThen]
    exact h v w (by simpa using hown) (Fr.refl _ _)
/-- append of one element, which was stored in a new block first -/
theorem wpList_pushN (hF : Fd f k) (hE : Eln T E z k by_) {w0 : World} {ops : Array Oper} {rest : List Oper} {o : Oper} {a : Act} {Q : Exit → Act → World → Prop} (hgd : o.guard = none) (s x : Operand)
    (ho : o.op = .call { callee := .builtin .append, args := #[s, x], argTypes := #[T, T] })
    (B : Nat) (v : Value) (l : List α) (hs : a.eval s = v) (hown : No f k E w0 B v l) (y : α) (cs : Array Value) (hcs : cs.toList = f y) (g : Nat) (hx : a.eval x = .slice (some ⟨g, 0, none⟩) 1 1) (hg : g = w0.heap.size)
    (hl : l.length < 68719476735) (hB : B ≤ w0.heap.size)
    (h : ∀ v' w', No f k E w' B v' (l ++ [y]) → Fr (fun b => v.ownBlock = some b) w0 w' → wpList Tryz.prog ops Q rest (a.put o.dst v') w') :
    wpList Tryz.prog ops Q (o :: rest) a (w0.alloc (.cells cs E)) := by
  subst hg
  have hlit : No f k E (w0.alloc (.cells cs E)) 0 (.slice (some ⟨w0.heap.size, 0, none⟩) 1 1) [y] := no_lit hF w0 0 _ [y] cs (by simpa using hcs) rfl (Nat.zero_le _) (by simp)
  refine wpList_plain hgd fun _ hK => wp_appN hF hE s x ho B v _ l [y] hs (hown.alloc _) hx (hlit.ns hF) (by simp; omega) (by simp; omega) fun v' w' h1 h2 => hK _ _ (h v' w' h1 (((Fr.refl _ _).alloc _).join h2 fun _ _ e => e))

/-- an argument opened -/
theorem ns_in (hF : Fd f k) {T E : TypeId} (hT : Tryz.prog.underlying T = some (.slice E)) (hc : Tryz.prog.cellsOf E = k) {H : Type} {enc : TypeId × Value → H} {W : World} {base : Nat} {v : Value} {d : DataW H} {p : List MemPlace}
    (pr : α → Prop) (each : ∀ n cs y, cs.length = k → DataW.trod enc Tryz.prog W 0 (fun _ => true) true n E cs = some y → ∃ x, cs = f x ∧ pr x)
    (hv : Value.okWide Tryz.prog W .any base T v) (h : DataW.Trod enc Tryz.prog W 0 (fun _ => true) true T v d p) : ∃ l, Ns f k W v l ∧ l.length ≤ 9223372036854775807 ∧ (∀ x ∈ l, pr x) ∧ ∀ b, v.ownBlock = some b → b < W.heap.size := by
  have hlt : ∀ b, v.ownBlock = some b → b < W.heap.size := by
    rcases slice_in hT hv with rfl | ⟨b, o, n, c, rfl, _, hb⟩
    · intro k hk; cases hk
    · intro k hk
      obtain rfl : b = k := by simpa [Value.ownBlock] using hk
      exact hb
  obtain ⟨A, n, c, rfl⟩ := okWide_slice hT hv
  obtain ⟨fuel, hf⟩ := h
  rcases Go.Deep.open_slice hT hf with ⟨hcs, _⟩ | ⟨a, len, cap, m, q, D, Pl, hcs, _, hl, hm, hmm, _, hr⟩
  · simp [Value.cells] at hcs
    obtain ⟨rfl, rfl, rfl⟩ := hcs
    exact ⟨[], Ns.nil_ W, by simp, by simp, hlt⟩
  · simp [Value.cells] at hcs
    obtain ⟨rfl, rfl, rfl⟩ := hcs
    have hnm : n ≤ m := by rw [hmm]; simp; exact hl
    obtain ⟨l, hll, hls⟩ := choose_listG (fun i (x : α) => AtN W (a.add (i * k)) (f x) ∧ pr x) n (by
      intro i hi
      obtain ⟨cs', h1, h2⟩ := hr i (by omega)
      rw [hc] at h1
      obtain ⟨_, hlen, hcell⟩ := World.cells?_some h1
      obtain ⟨x, rfl, hp⟩ := each _ _ _ hlen h2
      refine ⟨x, fun j u hu => ?_, hp⟩
      rw [hcell j (by rw [← hF.len x]; exact (List.getElem?_eq_some_iff.1 hu).1)]
      exact hu)
    subst hll
    refine ⟨l, ⟨some a, c, rfl, hl, (fun h => by cases h), fun b hb j hj => ?_⟩, by unfold maxLen at hm; omega, fun x hx => ?_, hlt⟩
    · cases hb
      exact (hls j hj).1
    · obtain ⟨j, hj, rfl⟩ := List.mem_iff_getElem.1 hx
      exact (hls j hj).2
end
end Go.Proofs.YtheefloegbkflaaGreatDoor


namespace Go.Proofs.YtheefloegbkflaaGreatDoor
set_option linter.unusedVariables false
set_option linter.unusedSimpArgs false
set_option maxRecDepth 100000
open Go.RowKit

/-- a column: its name, its type, whether its cells may be null -/
structure Co where
  name : List UInt8
  ty : Int
  nl : Bool
  deriving DecidableEq
def coL (c : Co) : List Value := [.string ⟨c.name.toArray⟩, .int .i64 c.ty, .bool c.nl]
def coC (c : Co) : Array Value := #[.string ⟨c.name.toArray⟩, .int .i64 c.ty, .bool c.nl]
def coV (c : Co) : Value := .agg (coC c)
def noCo : Co := ⟨[], 0, false⟩
theorem fd_co : Fd coL 3 := ⟨fun _ => rfl, fun x u hu => by simp [coL] at hu; rcases hu with rfl | rfl | rfl <;> rfl, by omega, by omega⟩
abbrev Ks (w : World) (v : Value) (l : List Co) : Prop := Ns coL 3 w v l
/-- as a walk spells them -/
theorem co_lit {w : World} {a : Addr} {c : Co} (h : AtN w a (coL c)) : w.cell? a = some (.string ⟨c.name.toArray⟩) ∧ w.cell? { block := a.block, off := a.off + 1 } = some (.int .i64 c.ty) ∧ w.cell? { block := a.block, off := a.off + 2 } = some (.bool c.nl) :=
  ⟨h 0 _ rfl, h 1 _ rfl, h 2 _ rfl⟩
/-- the column c lies in block g -/
abbrev CoB (w : World) (g : Nat) (c : Co) : Prop := Blk w g 69 #[.string ⟨c.name.toArray⟩, .int .i64 c.ty, .bool c.nl]
theorem co_new (w : World) (c : Co) : CoB (w.alloc (.cells #[.string ⟨c.name.toArray⟩, .int .i64 c.ty, .bool c.nl] 69)) w.heap.size c := Blk.new _ _ _
end Go.Proofs.YtheefloegbkflaaGreatDoor


namespace Go.Proofs.YtheefloegbkflaaGreatDoor
set_option linter.unusedVariables false
set_option linter.unusedSimpArgs false
set_option maxRecDepth 100000
open Go.RowKit

/-- a letter, a digit -/
def ltrI (r : Int) : Bool := decide (97 ≤ r) && decide (r ≤ 122)
def dgtI (r : Int) : Bool := decide (48 ≤ r) && decide (r ≤ 57)
/-- may r stand at j? -/
def okI (j : Nat) (r : Int) : Bool := ltrI r || (decide (j ≠ 0) && (dgtI r || decide (r = 95)))
/-- the words of queries -/
def wordsL : List (List UInt8) := [[97, 110, 100], [111, 114], [110, 111, 116], [105, 115], [110, 117, 108, 108], [108, 105, 107, 101], [116, 114, 117, 101], [102, 97, 108, 115, 101], [115, 101, 108, 101, 99, 116], [102, 114, 111, 109], [119, 104, 101, 114, 101], [103, 114, 111, 117, 112], [98, 121], [97, 108, 108], [99, 111, 117, 110, 116], [104, 97, 115], [115, 117, 109], [109, 105, 110], [109, 97, 120]]
def nmOk (l : List UInt8) : Prop := ∀ j (h : j < l.length), okI j (l[j]).toNat = true
instance (l : List UInt8) : Decidable (nmOk l) := inferInstanceAs (Decidable (∀ j (h : j < l.length), okI j (l[j]).toNat = true))
/-- may l be a name? -/
def nameB (l : List UInt8) : Bool := decide (1 ≤ l.length ∧ l.length ≤ 12 ∧ l ∉ wordsL ∧ nmOk l)

theorem name_yes {l : List UInt8} (h1 : 1 ≤ l.length) (h2 : l.length ≤ 12) (h3 : l ∉ wordsL) (h4 : nmOk l) : nameB l = true := decide_eq_true ⟨h1, h2, h3, h4⟩
theorem name_long {l : List UInt8} (h : 12 < l.length) : nameB l = false := decide_eq_false fun h' => by omega
theorem name_word {l : List UInt8} (h : l ∈ wordsL) : nameB l = false := decide_eq_false fun h' => h'.2.2.1 h
theorem name_bad {l : List UInt8} {j : Nat} (h : j < l.length) (hb : okI j (l[j]).toNat = false) : nameB l = false := decide_eq_false fun h' => by
  have := h'.2.2.2 j h; rw [hb] at this; cases this
theorem okI_high {j : Nat} {r : Int} (h : 128 ≤ r) : okI j r = false := by
  unfold okI ltrI dgtI
  rw [decide_eq_false (show ¬ r ≤ 122 by omega), decide_eq_false (show ¬ r ≤ 57 by omega), decide_eq_false (show ¬ r = 95 by omega)]
  simp
end Go.Proofs.YtheefloegbkflaaGreatDoor


namespace Go.Proofs.YtheefloegbkflaaGreatDoor
set_option linter.unusedVariables false
set_option linter.unusedSimpArgs false
set_option maxRecDepth 100000
open Go.RowKit

/-- no table may have c -/
def badC (c : Co) : Bool := !(nameB c.name && isTy c.ty)
def namesC (l : List Co) : List Tx := l.map Co.name
/-- what is wrong with l: 0, nothing; 1, 4 -/
def chkC (l : List Co) : Int := if l.length = 0 ∨ l.any badC = true ∨ ¬ (namesC l).Nodup then 1 else if 6 < l.length then 4 else 0
theorem chk_any {l : List Co} (hb : l.any badC = true) : chkC l = 1 := if_pos (.inr (.inl hb))
theorem chk_dup {l : List Co} (h : ¬ (namesC l).Nodup) : chkC l = 1 := if_pos (.inr (.inr h))
theorem chk_none {l : List Co} (h : l.length = 0) : chkC l = 1 := if_pos (.inl h)
theorem chk_many {l : List Co} (h0 : ¬ l.length = 0) (h1 : l.any badC = false) (h2 : (namesC l).Nodup) (h3 : 6 < l.length) : chkC l = 4 := by
  unfold chkC; rw [if_neg (by rintro (h | h | h); exact h0 h; rw [h1] at h; cases h; exact h h2), if_pos h3]
theorem chk_ok {l : List Co} (h0 : ¬ l.length = 0) (h1 : l.any badC = false) (h2 : (namesC l).Nodup) (h3 : ¬ 6 < l.length) : chkC l = 0 := by
  unfold chkC; rw [if_neg (by rintro (h | h | h); exact h0 h; rw [h1] at h; cases h; exact h h2), if_neg h3]
theorem chk_is {l : List Co} (h : chkC l = 0) : ¬ l.length = 0 ∧ l.any badC = false ∧ (namesC l).Nodup ∧ l.length ≤ 6 := by
  unfold chkC at h
  split at h
  · cases h
  · rename_i h1
    split at h
    · cases h
    · refine ⟨fun e => h1 (.inl e), ?_, ?_, by omega⟩
      · cases hb : l.any badC
        · rfl
        · exact absurd (.inr (.inl hb)) h1
      · exact Classical.byContradiction fun e => h1 (.inr (.inr e))
theorem any_more {l : List Co} {k : Nat} (h : k < l.length) (h1 : (l.take k).any badC = false) (h2 : badC l[k] = false) : (l.take (k + 1)).any badC = false := by
  rw [List.take_succ_eq_append_getElem h, List.any_append, h1]; simp [h2]

/-- may row be one of a table with these columns? -/
def rowB (l : List Co) (row : List Cl) : Bool := decide (l.length = row.length ∧ ∀ j (h : j < l.length) (h2 : j < row.length), mayC l[j].ty l[j].nl row[j] = true)
theorem row_len {l : List Co} {row : List Cl} (h : ¬ l.length = row.length) : rowB l row = false := decide_eq_false fun h' => h h'.1
theorem row_bad {l : List Co} {row : List Cl} {j : Nat} (h : j < l.length) (h2 : j < row.length) (hb : mayC l[j].ty l[j].nl row[j] = false) : rowB l row = false := decide_eq_false fun h' => by
  have := h'.2 j h h2; rw [hb] at this; cases this
theorem row_yes {l : List Co} {row : List Cl} (h : l.length = row.length) (h2 : ∀ j (h : j < l.length) (h2 : j < row.length), mayC l[j].ty l[j].nl row[j] = true) : rowB l row = true := decide_eq_true ⟨h, h2⟩
theorem row_more {l : List Co} {row : List Cl} {k : Nat} (h : k < l.length) (h2 : k < row.length) (ha : ∀ j (h : j < l.length) (h2 : j < row.length), j < k → mayC l[j].ty l[j].nl row[j] = true) (hb : mayC l[k].ty l[k].nl row[k] = true) :
    ∀ j (h : j < l.length) (h2 : j < row.length), j < k + 1 → mayC l[j].ty l[j].nl row[j] = true := by
  intro j hj hj2 hlt
  by_cases e : j = k
  · subst e; exact hb
  · exact ha j hj hj2 (by omega)
end Go.Proofs.YtheefloegbkflaaGreatDoor


namespace Go.Proofs.YtheefloegbkflaaGreatDoor
set_option linter.unusedVariables false
set_option linter.unusedSimpArgs false
set_option maxRecDepth 100000
open Go.RowKit

/-- what a column is, beside its name, as a number -/
def numK (c : Co) : Nat := 2 * c.ty.toNat + (if c.nl then 1 else 0)
/-- columns that may be, each -/
structure CoOk (c : Co) : Prop where
  lo : 1 ≤ c.ty
  hi : c.ty ≤ 3
  len : c.name.length ≤ 12
theorem isTy_bd {ty : Int} (h : isTy ty = true) : 1 ≤ ty ∧ ty ≤ 3 := by simp [isTy] at h; omega
theorem badC_ok {c : Co} (h : badC c = false) : CoOk c := by
  unfold badC at h
  have h1 : nameB c.name = true ∧ isTy c.ty = true := by revert h; cases nameB c.name <;> cases isTy c.ty <;> simp
  obtain ⟨b1, b2⟩ := isTy_bd h1.2
  exact ⟨b1, b2, (of_decide_eq_true h1.1).2.1⟩
theorem chk_each {l : List Co} (h : chkC l = 0) : ∀ c ∈ l, CoOk c := by
  intro c hc
  have h1 := (chk_is h).2.1
  refine badC_ok ?_
  cases hb : badC c
  · rfl
  · rw [List.any_eq_true.2 ⟨c, hc, hb⟩] at h1; cases h1
theorem CoOk.num {c : Co} (h : CoOk c) : numK c ≤ 7 := by
  obtain ⟨h1, h2, _⟩ := h
  unfold numK; split <;> omega
/-! ### What is read -/
theorem mostK_le (l : List UInt8) {m : Int} (hm : 0 ≤ m) : (mostV l m : Int) ≤ m := by
  unfold mostV
  split
  · rename_i h; exact (of_decide_eq_true h).2
  · exact hm
theorem most_nil (m : Int) : mostV [] m = 0 ∧ mostR [] m = [] ∧ mostB [] m = true := by
  unfold mostV mostR mostB
  split <;> exact ⟨rfl, rfl, rfl⟩
/-! ### What is put is taken -/
end Go.Proofs.YtheefloegbkflaaGreatDoor


namespace Go.Proofs.YtheefloegbkflaaGreatDoor
set_option linter.unusedVariables false
set_option linter.unusedSimpArgs false
set_option maxRecDepth 100000
open Go.RowKit

theorem ceq_no (c : Cl) (w : World) : Calls Tryz.prog 113 #[clV c, .agg #[.bool false, .int .i64 0, .string ⟨#[]⟩]] w fun e w' => e = .returned (.bool (ceq c noCl)) ∧ Fr Non w w' := csame_any c noCl w
/-- which zones, of a type's -/
theorem mayZ_is (ty : Int) (z : Zn) : mayZ ty z = (cntZ z && (isTy ty && (if bndZ z then mayC ty false z.low && (mayC ty false z.high && decide (ordC z.low z.high ≤ 0)) else ceq z.low noCl && ceq z.high noCl))) := by
  unfold mayZ
  cases cntZ z <;> cases isTy ty <;> cases bndZ z <;> simp [Bool.and_assoc]
set_option maxHeartbeats 1000000 in
theorem zmay_any (ty : Int) (z : Zn) (w : World) : Calls Tryz.prog 59 #[.int .i64 ty, znV z] w fun e w' => e = .returned (.bool (mayZ ty z)) ∧ Fr Non w w' := by
  have h0 : ZnB (w.alloc (.cells (znC z) 56)) w.heap.size z := Blk.new _ _ _
  have F0 : Fr Non w _ := (Fr.refl Non w).alloc (.cells (znC z) 56)
  have C1 := fun W => cnt_zn z W
  have T1 := fun W => ist_zn ty W
  have B1 := fun W => bnd_any z W
  have S1 := fun W => ceq_no z.low W
  have S2 := fun W => ceq_no z.high W
  have M1 := fun W => may_any ty false z.low W
  have M2 := fun W => may_any ty false z.high W
  have O1 := fun W => order_any z.low z.high W
  have HR := Lib.hid (mayZ_is ty z)
  unfold ZnB at h0
  unfold znV clV at *
  have h0 : Hid (ZnB _ w.heap.size z) := Lib.hid h0
  unfold znC clC at *
  have F0 := Lib.hid F0
  generalize cntZ z = c at *
  generalize isTy ty = t at *
  generalize bndZ z = b at *
  generalize ceq z.low noCl = e1 at *
  generalize ceq z.high noCl = e2 at *
  generalize mayC ty false z.low = m1 at *
  generalize mayC ty false z.high = m2 at *
  generalize ordC z.low z.high = x at *
  go_enter Tryz.func59, Tryz.ntmps59
  go_wp2_with fail
  refine (C1 _).mono ?_
  rintro e w1 ⟨rfl, f1⟩
  have h1 := h0.out.fr f1 (fun e => e)
  have F1 := Lib.hid (F0.out.trans f1)
  obtain ⟨a0, a1, a2, a3, a4, a5, a6, a7⟩ := znB_cells h1
  have h1 := Lib.hid h1
  clear f1
  clear C1
  cases c
  · clear T1 B1 S1 S2 M1 M2 O1
    go_wp2
    go_ret
    exact ⟨ret_boolE (by rw [HR.out]; rfl), F1.out⟩
  · skip
    go_wp2_with fail
    refine (T1 _).mono ?_
    rintro e w2 ⟨rfl, f2⟩
    have h2 := h1.out.fr f2 (fun e => e)
    have F2 := Lib.hid (F1.out.trans f2)
    clear a0 a1 a2 a3 a4 a5 a6 a7
    obtain ⟨a0, a1, a2, a3, a4, a5, a6, a7⟩ := znB_cells h2
    have h2 := Lib.hid h2
    clear f2
    clear T1
    cases t
    · clear B1 S1 S2 M1 M2 O1
      go_wp2
      go_ret
      exact ⟨ret_boolE (by rw [HR.out]; rfl), F2.out⟩
    · skip
      go_wp2_with fail
      refine (B1 _).mono ?_
      rintro e w3 ⟨rfl, f3⟩
      have h3 := h2.out.fr f3 (fun e => e)
      have F3 := Lib.hid (F2.out.trans f3)
      clear a0 a1 a2 a3 a4 a5 a6 a7
      obtain ⟨a0, a1, a2, a3, a4, a5, a6, a7⟩ := znB_cells h3
      have h3 := Lib.hid h3
      clear f3
      clear B1
      cases b
      · clear M1 M2 O1
        go_wp2_with fail
        refine (S1 _).mono ?_
        rintro e w4 ⟨rfl, f4⟩
        have h4 := h3.out.fr f4 (fun e => e)
        have F4 := Lib.hid (F3.out.trans f4)
        clear a0 a1 a2 a3 a4 a5 a6 a7
        obtain ⟨a0, a1, a2, a3, a4, a5, a6, a7⟩ := znB_cells h4
        have h4 := Lib.hid h4
        clear f4
        clear S1
        cases e1
        · clear S2
          go_wp2
          go_ret
          exact ⟨ret_boolE (by rw [HR.out]; rfl), F4.out⟩
        · skip
          go_wp2_with fail
          refine (S2 _).mono ?_
          rintro e w5 ⟨rfl, f5⟩
          have h5 := h4.out.fr f5 (fun e => e)
          have F5 := Lib.hid (F4.out.trans f5)
          clear a0 a1 a2 a3 a4 a5 a6 a7
          obtain ⟨a0, a1, a2, a3, a4, a5, a6, a7⟩ := znB_cells h5
          have h5 := Lib.hid h5
          clear f5
          go_wp2
          go_ret
          exact ⟨ret_boolE (by rw [HR.out]; rfl), F5.out⟩
      · clear S1 S2
        go_wp2_with fail
        refine (M1 _).mono ?_
        rintro e w4 ⟨rfl, f4⟩
        have h4 := h3.out.fr f4 (fun e => e)
        have F4 := Lib.hid (F3.out.trans f4)
        clear a0 a1 a2 a3 a4 a5 a6 a7
        obtain ⟨a0, a1, a2, a3, a4, a5, a6, a7⟩ := znB_cells h4
        have h4 := Lib.hid h4
        clear f4
        clear M1
        cases m1
        · clear M2 O1
          go_wp2
          go_ret
          exact ⟨ret_boolE (by rw [HR.out]; rfl), F4.out⟩
        · skip
          go_wp2_with fail
          refine (M2 _).mono ?_
          rintro e w5 ⟨rfl, f5⟩
          have h5 := h4.out.fr f5 (fun e => e)
          have F5 := Lib.hid (F4.out.trans f5)
          clear a0 a1 a2 a3 a4 a5 a6 a7
          obtain ⟨a0, a1, a2, a3, a4, a5, a6, a7⟩ := znB_cells h5
          have h5 := Lib.hid h5
          clear f5
          clear M2
          cases m2
          · clear O1
            go_wp2
            go_ret
            exact ⟨ret_boolE (by rw [HR.out]; rfl), F5.out⟩
          · skip
            go_wp2_with fail
            refine (O1 _).mono ?_
            rintro e w6 ⟨rfl, f6⟩
            have h6 := h5.out.fr f6 (fun e => e)
            have F6 := Lib.hid (F5.out.trans f6)
            clear a0 a1 a2 a3 a4 a5 a6 a7
            obtain ⟨a0, a1, a2, a3, a4, a5, a6, a7⟩ := znB_cells h6
            have h6 := Lib.hid h6
            clear f6
            go_wp2
            go_ret
            exact ⟨ret_boolE (by rw [HR.out]; rfl), F6.out⟩

end Go.Proofs.YtheefloegbkflaaGreatDoor


namespace Go.Proofs.YtheefloegbkflaaGreatDoor
set_option linter.unusedVariables false
set_option linter.unusedSimpArgs false
set_option maxRecDepth 100000
open Go.RowKit

/-- a cell's bytes -/
def cellB (ty : Int) (c : Cl) : List UInt8 := if c.null then [0] else if ty = 1 ∨ ty = 2 then [1] ++ Lib.uvarint (zig c.num) else if ty = 3 then [1] ++ textB c.txt else [1]
theorem cellB_null {ty : Int} {c : Cl} (h : c.null = true) : cellB ty c = [0] := by unfold cellB; rw [if_pos h]
theorem cellB_num {ty : Int} {c : Cl} (h : c.null = false) (ht : ty = 1 ∨ ty = 2) : cellB ty c = [1] ++ Lib.uvarint (zig c.num) := by unfold cellB; rw [h, if_neg (by simp), if_pos ht]
theorem cellB_txt {c : Cl} (h : c.null = false) : cellB 3 c = [1] ++ textB c.txt := by unfold cellB; rw [h, if_neg (by simp), if_neg (by omega), if_pos rfl]
theorem cellB_no {ty : Int} {c : Cl} (h : c.null = false) (h1 : ¬ ty = 1) (h2 : ¬ ty = 2) (h3 : ¬ ty = 3) : cellB ty c = [1] := by unfold cellB; rw [h, if_neg (by simp), if_neg (by omega), if_neg h3]

theorem textB_lt {t : Tx} (h : t.length < 1048576) : (textB t).length < 1048586 := by
  have := Lib.uvarint_length64 (show t.length < 18446744073709551616 by omega)
  unfold textB; rw [List.length_append]; omega

theorem own_one (w : World) (B : Nat) (z : Int) (b : UInt8) (hz : z = b.toNat) (hB : B ≤ w.heap.size) : Own (w.alloc (.cells #[.int .u8 z] 5)) B (.slice (some ⟨w.heap.size, 0, none⟩) 1 1) [b] := by
  subst hz
  exact (ow_lit w B w.heap.size [b] _ rfl rfl hB (by unfold maxLen; simp)).own

/-- a cell that there can be -/
structure ClOk (c : Cl) : Prop where
  lo : -9223372036854775808 ≤ c.num
  hi : c.num ≤ 9223372036854775807
  len : c.txt.length < 1048576

set_option maxHeartbeats 1000000 in
theorem cput_any (ty : Int) (c : Cl) (w : World) (hc : ClOk c) : Calls Tryz.prog 61 #[.int .i64 ty, clV c] w fun e w' => ∃ v, e = .returned v ∧ Own w' w.heap.size v (cellB ty c) ∧ Fr Non w w' := by
  obtain ⟨n, i, t⟩ := c
  obtain ⟨hlo, hhi, hlen⟩ := hc
  have H1 := Lib.hid hlo
  have H2 := Lib.hid hhi
  have H3 := Lib.hid hlen
  clear hlo hhi hlen
  unfold clV clC
  have hfa : Fr Non w (w.alloc (.cells #[.bool n, .int .i64 i, .string ⟨t.toArray⟩] 54)) := (Fr.refl _ _).alloc _
  cases n
  · have hl := own_one (w.alloc (.cells #[.bool false, .int .i64 i, .string ⟨t.toArray⟩] 54)) w.heap.size 1 1 rfl (by simp)
    have hfb := hfa.alloc (.cells #[.int .u8 1] 5)
    have hsz : (w.alloc (.cells #[.bool false, .int .i64 i, .string ⟨t.toArray⟩] 54)).heap.size = w.heap.size + 1 := by simp
    rw [hsz] at hl
    have HL := Lib.hid hl
    clear hl hsz
    by_cases h1 : ty = 1 ∨ ty = 2
    · have HE := Lib.hid (cellB_num (ty := ty) (c := ⟨false, i, t⟩) rfl h1)
      rcases h1 with h | h
      all_goals
        subst h
        go_enter Tryz.func61, Tryz.ntmps61
        go_wp2_with fail
        refine (vint_any i _ H1.out H2.out).mono ?_
        rintro e w1 ⟨v1, rfl, hown1, hf1⟩
        have hb1 := hfb.trans hf1
        have hs1 := hb1.size
        have hlz := Lib.uvarint_length64 (zig_lt H1.out H2.out)
        go_wp2_with (at_builtin; refine wpList_app rfl (.tmp 14) (.tmp 17) rfl w.heap.size _ v1 [1] (Lib.uvarint (zig i)) rfl (HL.out.non hf1) rfl hown1.bs (by simp; omega) hs1 ?_; intro v2 w2 hown2 hf2)
        go_ret
        exact ⟨v2, rfl, by rw [HE.out]; exact hown2, hb1.fresh hf2 (fun k hk => ((HL.out.non hf1).lt k hk).1)⟩
    · by_cases h3 : ty = 3
      · subst h3
        have HE := Lib.hid (cellB_txt (c := ⟨false, i, t⟩) rfl)
        clear h1
        go_enter Tryz.func61, Tryz.ntmps61
        go_wp2_with fail
        refine (vtext_any t _ H3.out).mono ?_
        rintro e w1 ⟨v1, rfl, hown1, hf1⟩
        have hb1 := hfb.trans hf1
        have hs1 := hb1.size
        have hlz := textB_lt H3.out
        go_wp2_with (at_builtin; refine wpList_app rfl (.tmp 21) (.tmp 24) rfl w.heap.size _ v1 [1] (textB t) rfl (HL.out.non hf1) rfl hown1.bs (by simp; omega) hs1 ?_; intro v2 w2 hown2 hf2)
        go_ret
        exact ⟨v2, rfl, by rw [HE.out]; exact hown2, hb1.fresh hf2 (fun k hk => ((HL.out.non hf1).lt k hk).1)⟩
      · have h1' : ¬ ty = 1 := fun e => h1 (.inl e)
        have h2' : ¬ ty = 2 := fun e => h1 (.inr e)
        have HE := Lib.hid (cellB_no (ty := ty) (c := ⟨false, i, t⟩) rfl h1' h2' h3)
        clear h1
        go_enter Tryz.func61, Tryz.ntmps61
        go_wp2
        go_ret
        exact ⟨_, rfl, by rw [HE.out]; exact HL.out, hfb⟩
  · have hl := own_one (w.alloc (.cells #[.bool true, .int .i64 i, .string ⟨t.toArray⟩] 54)) w.heap.size 0 0 rfl (by simp)
    have hfb := hfa.alloc (.cells #[.int .u8 0] 5)
    have hsz : (w.alloc (.cells #[.bool true, .int .i64 i, .string ⟨t.toArray⟩] 54)).heap.size = w.heap.size + 1 := by simp
    rw [hsz] at hl
    have HL := Lib.hid hl
    clear hl hsz
    go_enter Tryz.func61, Tryz.ntmps61
    go_wp2
    go_ret
    exact ⟨_, rfl, by rw [cellB_null rfl]; exact HL.out, hfb⟩

end Go.Proofs.YtheefloegbkflaaGreatDoor


namespace Go.Proofs.YtheefloegbkflaaGreatDoor
set_option linter.unusedVariables false
set_option linter.unusedSimpArgs false
set_option maxRecDepth 100000
open Go.RowKit

/-- a zone's bytes -/
def zoneB (ty : Int) (z : Zn) : List UInt8 :=
  if mayZ ty z = true then (Lib.uvarint z.rows.toNat ++ Lib.uvarint z.nulls.toNat) ++ (if bndZ z = true then cellB ty z.low ++ cellB ty z.high else []) else []
theorem zoneB_no {ty : Int} {z : Zn} (h : mayZ ty z = false) : zoneB ty z = [] := by unfold zoneB; rw [h]; rfl
theorem zoneB_none {ty : Int} {z : Zn} (h : mayZ ty z = true) (hb : bndZ z = false) : zoneB ty z = Lib.uvarint z.rows.toNat ++ Lib.uvarint z.nulls.toNat := by unfold zoneB; rw [h, hb]; simp
theorem zoneB_some {ty : Int} {z : Zn} (h : mayZ ty z = true) (hb : bndZ z = true) : zoneB ty z = ((Lib.uvarint z.rows.toNat ++ Lib.uvarint z.nulls.toNat) ++ cellB ty z.low) ++ cellB ty z.high := by unfold zoneB; rw [h, hb]; simp
theorem mayZ_cnt {ty : Int} {z : Zn} (h : mayZ ty z = true) : 0 ≤ z.nulls ∧ z.nulls ≤ z.rows ∧ z.rows ≤ 4096 := by
  rw [mayZ_is] at h
  have : cntZ z = true := by revert h; cases cntZ z <;> simp
  exact of_decide_eq_true this
theorem cellB_lt {ty : Int} {c : Cl} (h : ClOk c) : (cellB ty c).length < 2097152 := by
  have h1 := Lib.uvarint_length64 (zig_lt h.lo h.hi)
  have h2 := textB_lt h.len
  unfold cellB
  split
  · simp
  · split
    · simp; omega
    · split
      · simp; omega
      · simp

set_option maxHeartbeats 4000000 in
theorem zput_any (ty : Int) (z : Zn) (w : World) (hlo : ClOk z.low) (hhi : ClOk z.high) :
    Calls Tryz.prog 30 #[.int .i64 ty, znV z] w fun e w' => ∃ v, e = .returned v ∧ Own w' w.heap.size v (zoneB ty z) ∧ Fr Non w w' := by
  have h0 : ZnB (w.alloc (.cells (znC z) 56)) w.heap.size z := Blk.new _ _ _
  have F0 : Fr Non w _ := (Fr.refl Non w).alloc (.cells (znC z) 56)
  have M1 := fun W => zmay_any ty z W
  have B1 := fun W => bnd_any z W
  cases hm : mayZ ty z
  · have HE := Lib.hid (zoneB_no hm)
    rw [hm] at M1
    unfold znV znC at *
    clear h0 hm B1
    replace F0 := Lib.hid F0
    go_enter Tryz.func30, Tryz.ntmps30
    go_wp2_with fail
    refine (M1 _).mono ?_
    rintro e w1 ⟨rfl, f1⟩
    go_wp2
    go_ret
    exact ⟨_, rfl, by rw [HE.out]; exact own_nil _ _, F0.out.trans f1⟩
  · obtain ⟨q1, q2, q3⟩ := mayZ_cnt hm
    have HN := Lib.hid (fun hb => zoneB_none (ty := ty) (z := z) hm hb)
    have HS := Lib.hid (fun hb => zoneB_some (ty := ty) (z := z) hm hb)
    rw [hm] at M1
    clear hm
    obtain ⟨r, n, lo, hi⟩ := z
    dsimp only at q1 q2 q3 hlo hhi
    obtain ⟨n, rfl⟩ := Int.eq_ofNat_of_zero_le q1
    obtain ⟨r, rfl⟩ := Int.eq_ofNat_of_zero_le (show 0 ≤ r by omega)
    have N1 := Lib.hid (fun W => vnum_any r W (by unfold two64; omega))
    have N2 := Lib.hid (fun W => vnum_any n W (by unfold two64; omega))
    have L1 := Lib.uvarint_length64 (show r < 18446744073709551616 by omega)
    have L2 := Lib.uvarint_length64 (show n < 18446744073709551616 by omega)
    have L3 := cellB_lt (ty := ty) hlo
    have L4 := cellB_lt (ty := ty) hhi
    have e1 : IntKind.u64.wrap (r : Int) = r := IntWalk.u64_in _ ⟨by omega, by omega⟩
    have e2 : IntKind.u64.wrap (n : Int) = n := IntWalk.u64_in _ ⟨by omega, by omega⟩
    replace hlo := Lib.hid hlo
    replace hhi := Lib.hid hhi
    unfold znV znC at *
    dsimp only [Int.toNat_natCast] at HN HS
    clear q1 q2 q3
    replace F0 := Lib.hid F0
    replace h0 : Hid (ZnB _ _ _) := Lib.hid h0
    go_enter Tryz.func30, Tryz.ntmps30
    go_wp2_with fail
    refine (M1 _).mono ?_
    rintro e w1 ⟨rfl, f1⟩
    have h1 : ZnB _ _ _ := h0.out.fr f1 (fun e => e)
    have F1 := F0.out.trans f1
    clear h0 F0 f1 M1
    have HB1 := Lib.hid (show w.heap.size + 1 ≤ w1.drew.heap.size from h1.lt)
    generalize hR : w.heap.size = R at *
    go_wp2
    have hD : ZnB w1.drew R _ := h1
    have FD := F1.drew
    have c0 : w1.drew.cell? ⟨R, 0, none⟩ = some (.int .i64 r) := hD.cell 0
    have c1 : w1.drew.cell? ⟨R, 1, none⟩ = some (.int .i64 n) := hD.cell 1
    clear h1 F1
    replace hD : Hid (ZnB _ _ _) := Lib.hid hD
    replace FD := Lib.hid FD
    go_region_held3 (fun W => W.cell? ⟨R, 0, none⟩ = some (.int .i64 r) ∧ W.cell? ⟨R, 1, none⟩ = some (.int .i64 n)) (first | exact ⟨c0, c1⟩ | exact ⟨c2, c3⟩ | exact ⟨c4, c5⟩ | exact ⟨c6, c7⟩ | fail) (first | (go_at_call 26; (with_reducible refine (N1.out _).mono ?_); rintro e w2 ⟨v2, rfl, own2, f2⟩; have h2 : ZnB w2 R _ := hD.out.fr f2 (fun e => e); have F2 := FD.out.trans f2; have c2 : w2.cell? ⟨R, 0, none⟩ = some (.int .i64 r) := h2.cell 0; have c3 : w2.cell? ⟨R, 1, none⟩ = some (.int .i64 n) := h2.cell 1) | (go_at_call 26; (with_reducible refine (N2.out _).mono ?_); rintro e w3 ⟨v3, rfl, own3, f3⟩; have h3 : ZnB w3 R _ := h2.fr f3 (fun e => e); have F3 := F2.trans f3; have c4 : w3.cell? ⟨R, 0, none⟩ = some (.int .i64 r) := h3.cell 0; have c5 : w3.cell? ⟨R, 1, none⟩ = some (.int .i64 n) := h3.cell 1) | (refine step_app rfl (.tmp 13) (.tmp 17) (by rfl) (R + 1) v2 v3 (Lib.uvarint r) (Lib.uvarint n) (by rfl) ((own2.mono (HB1.out)).non f3) (by rfl) own3.bs (by omega) (Nat.le_trans HB1.out (Nat.le_trans f2.size f3.size)) ?_; intro v4 w4 own4 f4; have h4 : ZnB w4 R _ := h3.fr f4 (fun e => by have := (own2.lt R e).1; have := HB1.out; have : R + 1 ≤ w1.drew.heap.size := HB1.out; omega); have F4 := F3.fresh f4 (fun k hk => by have := (own2.lt k hk).1; have : R + 1 ≤ w1.drew.heap.size := HB1.out; omega); have c6 : w4.cell? ⟨R, 0, none⟩ = some (.int .i64 r) := h4.cell 0; have c7 : w4.cell? ⟨R, 1, none⟩ = some (.int .i64 n) := h4.cell 1))
    clear c0 c1 c2 c3 c4 c5 c6 c7 own2 own3 h2 h3 F2 F3 f2 f3 f4 hD FD N1 N2 e1 e2
    obtain ⟨a0, a1, a2, a3, a4, a5, a6, a7⟩ := znB_cells h4
    replace h4 : Hid (ZnB _ _ _) := Lib.hid h4
    replace F4 := Lib.hid F4
    replace own4 := Lib.hid own4
    go_wp2_with fail
    refine (B1 _).mono ?_
    rintro e w5 ⟨rfl, f5⟩
    have h5 : ZnB _ _ _ := h4.out.fr f5 (fun e => e)
    have F5 := F4.out.trans f5
    have own5 := own4.out.non f5
    clear h4 F4 own4 f5 a0 a1 a2 a3 a4 a5 a6 a7 B1
    cases hb : bndZ ⟨r, n, lo, hi⟩
    · replace HN := Lib.hid (HN.out hb)
      clear HS h5 HB1
      replace F5 := Lib.hid F5
      replace own5 := Lib.hid own5
      go_wp2
      go_ret
      exact ⟨v4, rfl, by rw [HN.out, hR]; exact own5.out.mono (by omega), F5.out⟩
    · replace HS := Lib.hid (HS.out hb)
      clear HN
      obtain ⟨a0, a1, a2, a3, a4, a5, a6, a7⟩ := znB_cells h5
      replace h5 : Hid (ZnB _ _ _) := Lib.hid h5
      have HB5 := F5.size
      replace F5 := Lib.hid F5
      replace own5 := Lib.hid own5
      have hs5 : Hid (R + 1 ≤ w5.heap.size) := Lib.hid h5.out.lt
      go_wp2_with fail
      refine (cput_any ty lo _ hlo.out).mono ?_
      rintro e w6 ⟨u6, rfl, ow6, f6⟩
      have h6 : ZnB _ _ _ := h5.out.fr f6 (fun e => e)
      have F6 := F5.out.trans f6
      have own6 := own5.out.non f6
      have hs6 : Hid (R + 1 ≤ w6.heap.size) := Lib.hid h6.lt
      clear h5 F5 own5 f6 hs5 a0 a1 a2 a3 a4 a5 a6 a7
      replace h6 : Hid (ZnB _ _ _) := Lib.hid h6
      replace F6 := Lib.hid F6
      go_wp2_with (at_builtin; refine wpList_app rfl (.tmp 21) (.tmp 25) rfl (R + 1) v4 u6 (Lib.uvarint r ++ Lib.uvarint n) (cellB ty lo) rfl own6 rfl ow6.bs (by rw [List.length_append]; omega) hs6.out ?_; intro v7 w7 own7 f7; have h7 : ZnB w7 R _ := h6.out.fr f7 (fun e => by have := (own6.lt R e).1; omega); have F7 := F6.out.fresh f7 (fun k hk => by have := (own6.lt k hk).1; omega); obtain ⟨a0, a1, a2, a3, a4, a5, a6, a7⟩ := znB_cells h7)
      refine (cput_any ty hi _ hhi.out).mono ?_
      rintro e w8 ⟨u8, rfl, ow8, f8⟩
      have F8 := F7.trans f8
      have own8 := own7.non f8
      have hs8 : Hid (R + 1 ≤ w8.heap.size) := Lib.hid (Nat.le_trans h7.lt f8.size)
      clear a0 a1 a2 a3 a4 a5 a6 a7 h7 F7 own7 f8 own6 ow6 h6 F6 hs6 f7
      replace F8 := Lib.hid F8
      go_wp2_with (at_builtin; refine wpList_app rfl (.tmp 27) (.tmp 31) rfl (R + 1) v7 u8 ((Lib.uvarint r ++ Lib.uvarint n) ++ cellB ty lo) (cellB ty hi) rfl own8 rfl ow8.bs (by rw [List.length_append, List.length_append]; omega) hs8.out ?_; intro v9 w9 own9 f9)
      have F9 := F8.out.fresh f9 (fun k hk => by have := (own8.lt k hk).1; omega)
      clear F8 f9 own8 ow8
      replace own9 := Lib.hid own9
      replace F9 := Lib.hid F9
      go_ret
      exact ⟨v9, rfl, by rw [HS.out, hR]; exact own9.out.mono (by omega), F9.out⟩

end Go.Proofs.YtheefloegbkflaaGreatDoor


namespace Go.Proofs.YtheefloegbkflaaGreatDoor
set_option linter.unusedVariables false
set_option linter.unusedSimpArgs false
set_option maxRecDepth 100000
open Go.RowKit

/-- a bound stored, as a walk spells it -/
def setLow (w : World) (g : Nat) (n : Bool) (i : Int) (t : List UInt8) : World := ((w.setCell ⟨g, 2, none⟩ (.bool n)).setCell ⟨g, 3, none⟩ (.int .i64 i)).setCell ⟨g, 4, none⟩ (.string ⟨t.toArray⟩)
def setHigh (w : World) (g : Nat) (n : Bool) (i : Int) (t : List UInt8) : World := ((w.setCell ⟨g, 5, none⟩ (.bool n)).setCell ⟨g, 6, none⟩ (.int .i64 i)).setCell ⟨g, 7, none⟩ (.string ⟨t.toArray⟩)
theorem setLow_B {w : World} {g : Nat} {z : Zn} (h : ZnB w g z) (c : Cl) : ZnB (setLow w g c.null c.num c.txt) g ⟨z.rows, z.nulls, c, z.high⟩ := ((Blk.set h 2 _).set 3 _).set 4 _
theorem setHigh_B {w : World} {g : Nat} {z : Zn} (h : ZnB w g z) (c : Cl) : ZnB (setHigh w g c.null c.num c.txt) g ⟨z.rows, z.nulls, z.low, c⟩ := ((Blk.set h 5 _).set 6 _).set 7 _
theorem setLow_fr (w : World) (g : Nat) (n : Bool) (i : Int) (t : List UInt8) : Fr (One g) w (setLow w g n i t) := (((Fr.refl (One g) w).set1 2 _).set1 3 _).set1 4 _
theorem setHigh_fr (w : World) (g : Nat) (n : Bool) (i : Int) (t : List UInt8) : Fr (One g) w (setHigh w g n i t) := (((Fr.refl (One g) w).set1 5 _).set1 6 _).set1 7 _
def TwoB (f g : Nat) : Nat → Prop := fun k => k = f ∨ k = g

/-- what the closure holds: whether nothing is noted yet, and where the zone lies -/
structure NoteAt (w : World) (f p g : Nat) (first : Bool) (z : Zn) : Prop where
  fb : Blk w f 4 #[.bool first]
  pb : Blk w p 109 #[ptr g]
  zb : ZnB w g z
theorem NoteAt.non {w w' : World} {f p g : Nat} {first : Bool} {z : Zn} (h : NoteAt w f p g first z) (hf : Fr Non w w') : NoteAt w' f p g first z :=
  ⟨h.fb.fr hf (fun e => e), h.pb.fr hf (fun e => e), h.zb.fr hf (fun e => e)⟩
theorem NoteAt.drew {w : World} {f p g : Nat} {first : Bool} {z : Zn} (h : NoteAt w f p g first z) : NoteAt w.drew f p g first z := ⟨h.fb, h.pb, h.zb⟩
theorem NoteAt.low {w : World} {f p g : Nat} {first : Bool} {z : Zn} (h : NoteAt w f p g first z) (hf : f ≠ g) (hp : p ≠ g) (c : Cl) : NoteAt (setLow w g c.null c.num c.txt) f p g first ⟨z.rows, z.nulls, c, z.high⟩ :=
  ⟨h.fb.fr (setLow_fr _ _ _ _ _) hf, h.pb.fr (setLow_fr _ _ _ _ _) hp, setLow_B h.zb c⟩
theorem NoteAt.high {w : World} {f p g : Nat} {first : Bool} {z : Zn} (h : NoteAt w f p g first z) (hf : f ≠ g) (hp : p ≠ g) (c : Cl) : NoteAt (setHigh w g c.null c.num c.txt) f p g first ⟨z.rows, z.nulls, z.low, c⟩ :=
  ⟨h.fb.fr (setHigh_fr _ _ _ _ _) hf, h.pb.fr (setHigh_fr _ _ _ _ _) hp, setHigh_B h.zb c⟩
theorem NoteAt.noted {w : World} {f p g : Nat} {first : Bool} {z : Zn} (h : NoteAt w f p g first z) (hp : p ≠ f) (hg : g ≠ f) : NoteAt (w.setCell ⟨f, 0, none⟩ (.bool false)) f p g false z :=
  ⟨h.fb.set 0 _, h.pb.fr ((Fr.refl (One f) w).set1 0 _) hp, h.zb.fr ((Fr.refl (One f) w).set1 0 _) hg⟩

theorem noteIn_any (g : Nat) (w : World) : Calls Tryz.prog 62 #[ptr g] w fun e w' => e = .returned (.func (.func 117) #[] #[ptr (w.heap.size + 1), ptr w.heap.size]) ∧
    Blk w' (w.heap.size + 1) 4 #[.bool true] ∧ Blk w' w.heap.size 109 #[ptr g] ∧ Fr Non w w' := by
  have hmf : ∀ (fn : Fn) (first cap : Array Value) (w : World), (Instr.makeFunc fn first cap).run Tryz.prog w = .ok (.func fn first cap) w := fun _ _ _ _ => rfl
  have h1 : Blk (w.alloc (.cells #[ptr g] 109)) w.heap.size 109 #[ptr g] := Blk.new _ _ _
  have f1 : Fr Non w (w.alloc (.cells #[ptr g] 109)) := (Fr.refl _ _).alloc _
  have hs : (w.alloc (.cells #[ptr g] 109)).heap.size = w.heap.size + 1 := by simp
  have h2 : Blk ((w.alloc (.cells #[ptr g] 109)).alloc (.cells #[.bool true] 4)) _ 4 #[.bool true] := Blk.new _ _ _
  rw [hs] at h2
  have f2 := (Fr.refl Non (w.alloc (.cells #[ptr g] 109))).alloc (.cells #[.bool true] 4)
  have H2 := Lib.hid h2
  have H1 := Lib.hid (h1.fr f2 (fun e => e))
  have F := Lib.hid (f1.trans f2)
  clear h1 h2 f1 f2 hs
  go_enter Tryz.func62, Tryz.ntmps62
  go_wp2
  go_ret
  exact ⟨rfl, H2.out, H1.out, F.out⟩

set_option maxHeartbeats 2000000 in
theorem note_any (f p g : Nat) (first : Bool) (z : Zn) (c : Cl) (w : World) (h : NoteAt w f p g first z) (hfp : p ≠ f) (hgf : g ≠ f) (hpg : p ≠ g) :
    Calls Tryz.prog 117 #[clV c, ptr f, ptr p] w fun e w' => e = .returned (.tuple #[]) ∧ NoteAt w' f p g false (noteZ first z c) ∧ Fr (TwoB f g) w w' := by
  have hz0 := h.zb.lt
  have hz1 := h.fb.lt
  have hz2 := h.pb.lt
  have hB : ClB (w.alloc (.cells #[.bool c.null, .int .i64 c.num, .string ⟨c.txt.toArray⟩] 54)) w.heap.size c := cl_new w c
  have F0 : Fr Non w (w.alloc (.cells #[.bool c.null, .int .i64 c.num, .string ⟨c.txt.toArray⟩] 54)) := (Fr.refl _ _).alloc _
  have hN := h.non F0
  have hF : Fr (One g) w _ := F0.any
  have hR : w.heap.size ≠ g ∧ w.heap.size ≠ f ∧ w.heap.size ≠ p := ⟨by omega, by omega, by omega⟩
  clear h F0 hz0 hz1 hz2
  have O1 := fun W => order_any c z.low W
  have O2 := fun W => order_any c z.high W
  have HZ : noteZ first z c = ⟨z.rows, z.nulls, if (first || decide (ordC c z.low < 0)) = true then c else z.low, if (first || decide (0 < ordC c z.high)) = true then c else z.high⟩ := rfl
  generalize ordC c z.low = x at *
  generalize ordC c z.high = y at *
  unfold clV clC at *
  cases first
  · go_enter Tryz.func117, Tryz.ntmps117
    go_wp2
    generalize w.alloc (.cells #[.bool c.null, .int .i64 c.num, .string ⟨c.txt.toArray⟩] 54) = V0 at *
    generalize w.heap.size = R at *
    replace O1 := Lib.hid O1
    replace O2 := Lib.hid O2
    replace HZ := Lib.hid HZ
    replace hN := hN.drew
    replace hB : ClB V0.drew R c := hB
    replace hF := hF.drew
    have s0 : (V0.drew).cell? ⟨f, 0, none⟩ = some (.bool false) := (hN).fb.cell 0
    have s1 : (V0.drew).cell? ⟨p, 0, none⟩ = some (ptr g) := (hN).pb.cell 0
    have s2 : (V0.drew).cell? ⟨g, 2, none⟩ = some (.bool z.low.null) := (hN).zb.cell 2
    have s3 : (V0.drew).cell? ⟨g, 3, none⟩ = some (.int .i64 z.low.num) := (hN).zb.cell 3
    have s4 : (V0.drew).cell? ⟨g, 4, none⟩ = some (.string ⟨z.low.txt.toArray⟩) := (hN).zb.cell 4
    have s5 : (V0.drew).cell? ⟨R, 0, none⟩ = some (.bool c.null) := (hB).cell 0
    have s6 : (V0.drew).cell? ⟨R, 1, none⟩ = some (.int .i64 c.num) := (hB).cell 1
    have s7 : (V0.drew).cell? ⟨R, 2, none⟩ = some (.string ⟨c.txt.toArray⟩) := (hB).cell 2
    go_region_held3 (fun W => W.cell? ⟨f, 0, none⟩ = some (.bool false) ∧ W.cell? ⟨p, 0, none⟩ = some (ptr g) ∧ W.cell? ⟨g, 2, none⟩ = some (.bool z.low.null) ∧ W.cell? ⟨g, 3, none⟩ = some (.int .i64 z.low.num) ∧ W.cell? ⟨g, 4, none⟩ = some (.string ⟨z.low.txt.toArray⟩) ∧ W.cell? ⟨R, 0, none⟩ = some (.bool c.null) ∧ W.cell? ⟨R, 1, none⟩ = some (.int .i64 c.num) ∧ W.cell? ⟨R, 2, none⟩ = some (.string ⟨c.txt.toArray⟩)) (first | exact ⟨s0, s1, s2, s3, s4, s5, s6, s7⟩ | exact ⟨t0, t1, t2, t3, t4, t5, t6, t7⟩) (first | (go_at_call 114; (with_reducible refine (O1.out _).mono ?_); rintro e w1 ⟨rfl, f1⟩; have hN1 := hN.non f1; have hB1 : ClB w1 R c := hB.fr f1 (fun e => e); have hF1 := hF.then f1; have t0 : w1.cell? ⟨f, 0, none⟩ = some (.bool false) := hN1.fb.cell 0; have t1 : w1.cell? ⟨p, 0, none⟩ = some (ptr g) := hN1.pb.cell 0; have t2 : w1.cell? ⟨g, 2, none⟩ = some (.bool z.low.null) := hN1.zb.cell 2; have t3 : w1.cell? ⟨g, 3, none⟩ = some (.int .i64 z.low.num) := hN1.zb.cell 3; have t4 : w1.cell? ⟨g, 4, none⟩ = some (.string ⟨z.low.txt.toArray⟩) := hN1.zb.cell 4; have t5 : w1.cell? ⟨R, 0, none⟩ = some (.bool c.null) := hB1.cell 0; have t6 : w1.cell? ⟨R, 1, none⟩ = some (.int .i64 c.num) := hB1.cell 1; have t7 : w1.cell? ⟨R, 2, none⟩ = some (.string ⟨c.txt.toArray⟩) := hB1.cell 2))
    clear s0 s1 s2 s3 s4 s5 s6 s7 t0 t1 t2 t3 t4 t5 t6 t7 f1 hN hB hF
    have hN := hN1
    have hB := hB1
    have hF := hF1
    clear hN1 hB1 hF1
    clear O1
    by_cases hx : x < 0
    · have HZ1 : Hid (noteZ false z c = ⟨z.rows, z.nulls, c, if (false || decide (0 < y)) = true then c else z.high⟩) := Lib.hid (by rw [HZ.out, decide_eq_true hx]; rfl)
      have hd : decide (x < 0) = true := decide_eq_true hx
      clear HZ
      generalize w1 = V1 at *
      have hL : NoteAt (setLow V1 g c.null c.num c.txt) f p g false ⟨z.rows, z.nulls, c, z.high⟩ := hN.low (Ne.symm hgf) hpg c
      have FL := setLow_fr V1 g c.null c.num c.txt
      have hBL : ClB (setLow V1 g c.null c.num c.txt) R c := hB.fr FL (fun e => hR.1 e)
      have FF : Fr (One g) w (setLow V1 g c.null c.num c.txt) := hF.trans FL
      replace hL := Lib.hid hL
      replace hBL := Lib.hid hBL
      replace FF := Lib.hid FF
      obtain ⟨y0, y1, y2, y3, y4, y5, y6, y7⟩ := znB_froz hN.zb
      obtain ⟨a0, a1, a2, a3, a4, a5, a6, a7⟩ := znB_cells hN.zb
      obtain ⟨c0, c1, c2, _⟩ := hB.facts
      have p0 : V1.cell? ⟨p, 0, none⟩ = some (ptr g) := hN.pb.cell 0
      clear FL
      unfold setLow at hL hBL FF
      clear hN hB hF
      go_wp2
      clear p0 y0 y1 y2 y3 y4 y5 y6 y7 a0 a1 a2 a3 a4 a5 a6 a7 c0 c1 c2
      generalize ((V1.setCell ⟨g, 2, none⟩ (.bool c.null)).setCell ⟨g, 3, none⟩ (.int .i64 c.num)).setCell ⟨g, 4, none⟩ (.string ⟨c.txt.toArray⟩) = V at *
      have hN := hL.out
      have hB := hBL.out
      have hF := FF.out
      clear hL hBL FF
      replace hN := hN.drew
      replace hB : ClB V.drew R c := hB
      replace hF := hF.drew
      have s0 : (V.drew).cell? ⟨f, 0, none⟩ = some (.bool false) := (hN).fb.cell 0
      have s1 : (V.drew).cell? ⟨p, 0, none⟩ = some (ptr g) := (hN).pb.cell 0
      have s2 : (V.drew).cell? ⟨g, 5, none⟩ = some (.bool z.high.null) := (hN).zb.cell 5
      have s3 : (V.drew).cell? ⟨g, 6, none⟩ = some (.int .i64 z.high.num) := (hN).zb.cell 6
      have s4 : (V.drew).cell? ⟨g, 7, none⟩ = some (.string ⟨z.high.txt.toArray⟩) := (hN).zb.cell 7
      have s5 : (V.drew).cell? ⟨R, 0, none⟩ = some (.bool c.null) := (hB).cell 0
      have s6 : (V.drew).cell? ⟨R, 1, none⟩ = some (.int .i64 c.num) := (hB).cell 1
      have s7 : (V.drew).cell? ⟨R, 2, none⟩ = some (.string ⟨c.txt.toArray⟩) := (hB).cell 2
      go_region_held3 (fun W => W.cell? ⟨f, 0, none⟩ = some (.bool false) ∧ W.cell? ⟨p, 0, none⟩ = some (ptr g) ∧ W.cell? ⟨g, 5, none⟩ = some (.bool z.high.null) ∧ W.cell? ⟨g, 6, none⟩ = some (.int .i64 z.high.num) ∧ W.cell? ⟨g, 7, none⟩ = some (.string ⟨z.high.txt.toArray⟩) ∧ W.cell? ⟨R, 0, none⟩ = some (.bool c.null) ∧ W.cell? ⟨R, 1, none⟩ = some (.int .i64 c.num) ∧ W.cell? ⟨R, 2, none⟩ = some (.string ⟨c.txt.toArray⟩)) (first | exact ⟨s0, s1, s2, s3, s4, s5, s6, s7⟩ | exact ⟨t0, t1, t2, t3, t4, t5, t6, t7⟩) (first | (go_at_call 114; (with_reducible refine (O2.out _).mono ?_); rintro e w1 ⟨rfl, f1⟩; have hN1 := hN.non f1; have hB1 : ClB w1 R c := hB.fr f1 (fun e => e); have hF1 := hF.then f1; have t0 : w1.cell? ⟨f, 0, none⟩ = some (.bool false) := hN1.fb.cell 0; have t1 : w1.cell? ⟨p, 0, none⟩ = some (ptr g) := hN1.pb.cell 0; have t2 : w1.cell? ⟨g, 5, none⟩ = some (.bool z.high.null) := hN1.zb.cell 5; have t3 : w1.cell? ⟨g, 6, none⟩ = some (.int .i64 z.high.num) := hN1.zb.cell 6; have t4 : w1.cell? ⟨g, 7, none⟩ = some (.string ⟨z.high.txt.toArray⟩) := hN1.zb.cell 7; have t5 : w1.cell? ⟨R, 0, none⟩ = some (.bool c.null) := hB1.cell 0; have t6 : w1.cell? ⟨R, 1, none⟩ = some (.int .i64 c.num) := hB1.cell 1; have t7 : w1.cell? ⟨R, 2, none⟩ = some (.string ⟨c.txt.toArray⟩) := hB1.cell 2))
      clear s0 s1 s2 s3 s4 s5 s6 s7 t0 t1 t2 t3 t4 t5 t6 t7 f1 hN hB hF
      have hN := hN1
      have hB := hB1
      have hF := hF1
      clear hN1 hB1 hF1
      by_cases hy : 0 < y
      · have HE : Hid (noteZ false z c = ⟨z.rows, z.nulls, c, c⟩) := Lib.hid (by rw [HZ1.out, decide_eq_true hy]; rfl)
        have hd : decide (0 < y) = true := decide_eq_true hy
        clear HZ1 O2
        generalize w1 = V1 at *
        have hL : NoteAt (setHigh V1 g c.null c.num c.txt) f p g false ⟨z.rows, z.nulls, c, c⟩ := hN.high (Ne.symm hgf) hpg c
        have FL := setHigh_fr V1 g c.null c.num c.txt
        have hBL : ClB (setHigh V1 g c.null c.num c.txt) R c := hB.fr FL (fun e => hR.1 e)
        have FF : Fr (One g) w (setHigh V1 g c.null c.num c.txt) := hF.trans FL
        replace hL := Lib.hid hL
        replace hBL := Lib.hid hBL
        replace FF := Lib.hid FF
        obtain ⟨y0, y1, y2, y3, y4, y5, y6, y7⟩ := znB_froz hN.zb
        obtain ⟨a0, a1, a2, a3, a4, a5, a6, a7⟩ := znB_cells hN.zb
        obtain ⟨c0, c1, c2, _⟩ := hB.facts
        have p0 : V1.cell? ⟨p, 0, none⟩ = some (ptr g) := hN.pb.cell 0
        clear FL
        have f0 := hN.fb.frozen 0
        have f1 : V1.cell? ⟨f, 0, none⟩ = some (.bool false) := hN.fb.cell 0
        have HN := Lib.hid (hL.out.noted hfp hgf)
        have HF := Lib.hid ((FF.out.mono (S' := TwoB f g) (fun _ _ e => .inr e)).setCell (p := ⟨f, 0, none⟩) (fun _ => .inl rfl) (.bool false))
        clear hL hBL FF hN hB hF
        go_wp2
        go_end0
        exact ⟨rfl, by rw [HE.out]; exact HN.out, HF.out⟩
      · have HE : Hid (noteZ false z c = ⟨z.rows, z.nulls, c, z.high⟩) := Lib.hid (by rw [HZ1.out, decide_eq_false hy]; rfl)
        have hd : decide (0 < y) = false := decide_eq_false hy
        clear HZ1 O2
        generalize w1 = V at *
        have f0 := hN.fb.frozen 0
        have f1 : V.cell? ⟨f, 0, none⟩ = some (.bool false) := hN.fb.cell 0
        have HN := Lib.hid (hN.noted hfp hgf)
        have HF := Lib.hid ((hF.mono (S' := TwoB f g) (fun _ _ e => .inr e)).setCell (p := ⟨f, 0, none⟩) (fun _ => .inl rfl) (.bool false))
        clear hN hB hF
        go_wp2
        go_end0
        exact ⟨rfl, by rw [HE.out]; exact HN.out, HF.out⟩
    · have HZ1 : Hid (noteZ false z c = ⟨z.rows, z.nulls, z.low, if (false || decide (0 < y)) = true then c else z.high⟩) := Lib.hid (by rw [HZ.out, decide_eq_false hx]; rfl)
      have hd : decide (x < 0) = false := decide_eq_false hx
      clear HZ
      generalize w1 = V at *
      go_wp2
      replace hN := hN.drew
      replace hB : ClB V.drew R c := hB
      replace hF := hF.drew
      have s0 : (V.drew).cell? ⟨f, 0, none⟩ = some (.bool false) := (hN).fb.cell 0
      have s1 : (V.drew).cell? ⟨p, 0, none⟩ = some (ptr g) := (hN).pb.cell 0
      have s2 : (V.drew).cell? ⟨g, 5, none⟩ = some (.bool z.high.null) := (hN).zb.cell 5
      have s3 : (V.drew).cell? ⟨g, 6, none⟩ = some (.int .i64 z.high.num) := (hN).zb.cell 6
      have s4 : (V.drew).cell? ⟨g, 7, none⟩ = some (.string ⟨z.high.txt.toArray⟩) := (hN).zb.cell 7
      have s5 : (V.drew).cell? ⟨R, 0, none⟩ = some (.bool c.null) := (hB).cell 0
      have s6 : (V.drew).cell? ⟨R, 1, none⟩ = some (.int .i64 c.num) := (hB).cell 1
      have s7 : (V.drew).cell? ⟨R, 2, none⟩ = some (.string ⟨c.txt.toArray⟩) := (hB).cell 2
      go_region_held3 (fun W => W.cell? ⟨f, 0, none⟩ = some (.bool false) ∧ W.cell? ⟨p, 0, none⟩ = some (ptr g) ∧ W.cell? ⟨g, 5, none⟩ = some (.bool z.high.null) ∧ W.cell? ⟨g, 6, none⟩ = some (.int .i64 z.high.num) ∧ W.cell? ⟨g, 7, none⟩ = some (.string ⟨z.high.txt.toArray⟩) ∧ W.cell? ⟨R, 0, none⟩ = some (.bool c.null) ∧ W.cell? ⟨R, 1, none⟩ = some (.int .i64 c.num) ∧ W.cell? ⟨R, 2, none⟩ = some (.string ⟨c.txt.toArray⟩)) (first | exact ⟨s0, s1, s2, s3, s4, s5, s6, s7⟩ | exact ⟨t0, t1, t2, t3, t4, t5, t6, t7⟩) (first | (go_at_call 114; (with_reducible refine (O2.out _).mono ?_); rintro e w1 ⟨rfl, f1⟩; have hN1 := hN.non f1; have hB1 : ClB w1 R c := hB.fr f1 (fun e => e); have hF1 := hF.then f1; have t0 : w1.cell? ⟨f, 0, none⟩ = some (.bool false) := hN1.fb.cell 0; have t1 : w1.cell? ⟨p, 0, none⟩ = some (ptr g) := hN1.pb.cell 0; have t2 : w1.cell? ⟨g, 5, none⟩ = some (.bool z.high.null) := hN1.zb.cell 5; have t3 : w1.cell? ⟨g, 6, none⟩ = some (.int .i64 z.high.num) := hN1.zb.cell 6; have t4 : w1.cell? ⟨g, 7, none⟩ = some (.string ⟨z.high.txt.toArray⟩) := hN1.zb.cell 7; have t5 : w1.cell? ⟨R, 0, none⟩ = some (.bool c.null) := hB1.cell 0; have t6 : w1.cell? ⟨R, 1, none⟩ = some (.int .i64 c.num) := hB1.cell 1; have t7 : w1.cell? ⟨R, 2, none⟩ = some (.string ⟨c.txt.toArray⟩) := hB1.cell 2))
      clear s0 s1 s2 s3 s4 s5 s6 s7 t0 t1 t2 t3 t4 t5 t6 t7 f1 hN hB hF
      have hN := hN1
      have hB := hB1
      have hF := hF1
      clear hN1 hB1 hF1
      by_cases hy : 0 < y
      · have HE : Hid (noteZ false z c = ⟨z.rows, z.nulls, z.low, c⟩) := Lib.hid (by rw [HZ1.out, decide_eq_true hy]; rfl)
        have hd : decide (0 < y) = true := decide_eq_true hy
        clear HZ1 O2
        generalize w1 = V1 at *
        have hL : NoteAt (setHigh V1 g c.null c.num c.txt) f p g false ⟨z.rows, z.nulls, z.low, c⟩ := hN.high (Ne.symm hgf) hpg c
        have FL := setHigh_fr V1 g c.null c.num c.txt
        have hBL : ClB (setHigh V1 g c.null c.num c.txt) R c := hB.fr FL (fun e => hR.1 e)
        have FF : Fr (One g) w (setHigh V1 g c.null c.num c.txt) := hF.trans FL
        replace hL := Lib.hid hL
        replace hBL := Lib.hid hBL
        replace FF := Lib.hid FF
        obtain ⟨y0, y1, y2, y3, y4, y5, y6, y7⟩ := znB_froz hN.zb
        obtain ⟨a0, a1, a2, a3, a4, a5, a6, a7⟩ := znB_cells hN.zb
        obtain ⟨c0, c1, c2, _⟩ := hB.facts
        have p0 : V1.cell? ⟨p, 0, none⟩ = some (ptr g) := hN.pb.cell 0
        clear FL
        have f0 := hN.fb.frozen 0
        have f1 : V1.cell? ⟨f, 0, none⟩ = some (.bool false) := hN.fb.cell 0
        have HN := Lib.hid (hL.out.noted hfp hgf)
        have HF := Lib.hid ((FF.out.mono (S' := TwoB f g) (fun _ _ e => .inr e)).setCell (p := ⟨f, 0, none⟩) (fun _ => .inl rfl) (.bool false))
        clear hL hBL FF hN hB hF
        go_wp2
        go_end0
        exact ⟨rfl, by rw [HE.out]; exact HN.out, HF.out⟩
      · have HE : Hid (noteZ false z c = ⟨z.rows, z.nulls, z.low, z.high⟩) := Lib.hid (by rw [HZ1.out, decide_eq_false hy]; rfl)
        have hd : decide (0 < y) = false := decide_eq_false hy
        clear HZ1 O2
        generalize w1 = V at *
        have f0 := hN.fb.frozen 0
        have f1 : V.cell? ⟨f, 0, none⟩ = some (.bool false) := hN.fb.cell 0
        have HN := Lib.hid (hN.noted hfp hgf)
        have HF := Lib.hid ((hF.mono (S' := TwoB f g) (fun _ _ e => .inr e)).setCell (p := ⟨f, 0, none⟩) (fun _ => .inl rfl) (.bool false))
        clear hN hB hF
        go_wp2
        go_end0
        exact ⟨rfl, by rw [HE.out]; exact HN.out, HF.out⟩
  · go_enter Tryz.func117, Tryz.ntmps117
    go_wp2
    generalize w.alloc (.cells #[.bool c.null, .int .i64 c.num, .string ⟨c.txt.toArray⟩] 54) = V at *
    generalize w.heap.size = R at *
    have HE : Hid (noteZ true z c = ⟨z.rows, z.nulls, c, c⟩) := Lib.hid (by rw [HZ]; rfl)
    clear O1 O2 HZ
    have q0 : V.cell? ⟨f, 0, none⟩ = some (.bool true) := hN.fb.cell 0
    go_region
    clear q0
    replace hN := hN.drew
    replace hB : ClB V.drew R c := hB
    replace hF := hF.drew
    generalize V.drew = V1 at *
    have hL : NoteAt (setLow V1 g c.null c.num c.txt) f p g true ⟨z.rows, z.nulls, c, z.high⟩ := hN.low (Ne.symm hgf) hpg c
    have FL := setLow_fr V1 g c.null c.num c.txt
    have hBL : ClB (setLow V1 g c.null c.num c.txt) R c := hB.fr FL (fun e => hR.1 e)
    have FF : Fr (One g) w (setLow V1 g c.null c.num c.txt) := hF.trans FL
    replace hL := Lib.hid hL
    replace hBL := Lib.hid hBL
    replace FF := Lib.hid FF
    obtain ⟨y0, y1, y2, y3, y4, y5, y6, y7⟩ := znB_froz hN.zb
    obtain ⟨a0, a1, a2, a3, a4, a5, a6, a7⟩ := znB_cells hN.zb
    obtain ⟨c0, c1, c2, _⟩ := hB.facts
    have p0 : V1.cell? ⟨p, 0, none⟩ = some (ptr g) := hN.pb.cell 0
    clear FL
    unfold setLow at hL hBL FF
    clear hN hB hF
    go_wp2
    clear p0 y0 y1 y2 y3 y4 y5 y6 y7 a0 a1 a2 a3 a4 a5 a6 a7 c0 c1 c2
    generalize ((V1.setCell ⟨g, 2, none⟩ (.bool c.null)).setCell ⟨g, 3, none⟩ (.int .i64 c.num)).setCell ⟨g, 4, none⟩ (.string ⟨c.txt.toArray⟩) = V at *
    have hN := hL.out
    have hB := hBL.out
    have hF := FF.out
    clear hL hBL FF
    have q0 : V.cell? ⟨f, 0, none⟩ = some (.bool true) := hN.fb.cell 0
    go_region
    clear q0
    replace hN := hN.drew
    replace hB : ClB V.drew R c := hB
    replace hF := hF.drew
    generalize V.drew = V2 at *
    have hL : NoteAt (setHigh V2 g c.null c.num c.txt) f p g true ⟨z.rows, z.nulls, c, c⟩ := hN.high (Ne.symm hgf) hpg c
    have FL := setHigh_fr V2 g c.null c.num c.txt
    have hBL : ClB (setHigh V2 g c.null c.num c.txt) R c := hB.fr FL (fun e => hR.1 e)
    have FF : Fr (One g) w (setHigh V2 g c.null c.num c.txt) := hF.trans FL
    replace hL := Lib.hid hL
    replace hBL := Lib.hid hBL
    replace FF := Lib.hid FF
    obtain ⟨y0, y1, y2, y3, y4, y5, y6, y7⟩ := znB_froz hN.zb
    obtain ⟨a0, a1, a2, a3, a4, a5, a6, a7⟩ := znB_cells hN.zb
    obtain ⟨c0, c1, c2, _⟩ := hB.facts
    have p0 : V2.cell? ⟨p, 0, none⟩ = some (ptr g) := hN.pb.cell 0
    clear FL
    have f0 := hN.fb.frozen 0
    have f1 : V2.cell? ⟨f, 0, none⟩ = some (.bool true) := hN.fb.cell 0
    have HN := Lib.hid (hL.out.noted hfp hgf)
    have HF := Lib.hid ((FF.out.mono (S' := TwoB f g) (fun _ _ e => .inr e)).setCell (p := ⟨f, 0, none⟩) (fun _ => .inl rfl) (.bool false))
    clear hL hBL FF hN hB hF
    go_wp2
    go_end0
    exact ⟨rfl, by rw [HE.out]; exact HN.out, HF.out⟩
end Go.Proofs.YtheefloegbkflaaGreatDoor


namespace Go.Proofs.YtheefloegbkflaaGreatDoor
set_option linter.unusedVariables false
set_option linter.unusedSimpArgs false
set_option maxRecDepth 100000
open Go.RowKit

/-- a zone stored whole, as a walk spells it -/
def setRN (w : World) (g : Nat) (r n : Int) : World := (w.setCell ⟨g, 0, none⟩ (.int .i64 r)).setCell ⟨g, 1, none⟩ (.int .i64 n)
theorem setRN_B {w : World} {g : Nat} {y : Zn} (h : ZnB w g y) (r n : Int) : ZnB (setRN w g r n) g ⟨r, n, y.low, y.high⟩ := (Blk.set h 0 _).set 1 _
theorem setRN_fr (w : World) (g : Nat) (r n : Int) : Fr (One g) w (setRN w g r n) := ((Fr.refl (One g) w).set1 0 _).set1 1 _
def setZn (w : World) (g : Nat) (z : Zn) : World := setHigh (setLow (setRN w g z.rows z.nulls) g z.low.null z.low.num z.low.txt) g z.high.null z.high.num z.high.txt
theorem setZn_B {w : World} {g : Nat} {y : Zn} (h : ZnB w g y) (z : Zn) : ZnB (setZn w g z) g z := setHigh_B (setLow_B (setRN_B h z.rows z.nulls) z.low) z.high
theorem setZn_fr (w : World) (g : Nat) (z : Zn) : Fr (One g) w (setZn w g z) := ((setRN_fr _ _ _ _).trans (setLow_fr _ _ _ _ _)).trans (setHigh_fr _ _ _ _ _)
theorem setNul_B {w : World} {g : Nat} {y : Zn} (h : ZnB w g y) (n : Int) : ZnB (w.setCell ⟨g, 1, none⟩ (.int .i64 n)) g ⟨y.rows, n, y.low, y.high⟩ := Blk.set h 1 _
theorem NoteAt.nul {w : World} {f p g : Nat} {first : Bool} {z : Zn} (h : NoteAt w f p g first z) (hf : f ≠ g) (hp : p ≠ g) (n : Int) : NoteAt (w.setCell ⟨g, 1, none⟩ (.int .i64 n)) f p g first ⟨z.rows, n, z.low, z.high⟩ :=
  ⟨h.fb.fr ((Fr.refl (One g) w).set1 1 _) hf, h.pb.fr ((Fr.refl (One g) w).set1 1 _) hp, setNul_B h.zb n⟩
/-- a call's end where its one result is a zone in a block -/
theorem ret_zn {fn : Func} {p : Tmp} (h : fn.results = #[.cell p 56]) (tmps : Array Value) (w : World) (g : Nat) (z : Zn)
    (hp : tmps.getD p undef = .pointer (some ⟨g, 0, none⟩)) (hg : ZnB w g z) : (results fn tmps).run Tryz.prog w = .ok (znV z) w :=
  results_cell_row h tmps w g 56 _ (0, 0) _ hp hg Tryz.underlying56 rfl (by kernel_rfl)

set_option maxHeartbeats 2000000 in
theorem zof_any (v : Value) (l : List Cl) (w : World) (hv : Cs w v l) (hl : l.length ≤ 1000000) :
    Calls Tryz.prog 31 #[v] w fun e w' => ∃ z, e = .returned (znV z) ∧ IsOf l z ∧ Fr Non w w' := by
  obtain ⟨A, c, rfl, hlc, hn, hcell⟩ := hv
  have HC := Lib.hid hcell
  have HN := Lib.hid hn
  clear hcell hn
  have f0 : Fr Non w _ := ((Fr.refl Non w).alloc (.cells (znC noZn) 56)).alloc (.cells (znC ⟨l.length, 0, noCl, noCl⟩) 56)
  have hA : ZnB (w.alloc (.cells (znC noZn) 56)) w.heap.size noZn := Blk.new _ _ _
  have hB : ZnB ((w.alloc (.cells (znC noZn) 56)).alloc (.cells (znC ⟨l.length, 0, noCl, noCl⟩) 56)) (w.alloc (.cells (znC noZn) 56)).heap.size ⟨l.length, 0, noCl, noCl⟩ := Blk.new _ _ _
  have hsz : (w.alloc (.cells (znC noZn) 56)).heap.size = w.heap.size + 1 := by simp
  rw [hsz] at hB
  have hA2 : ZnB ((w.alloc (.cells (znC noZn) 56)).alloc (.cells (znC ⟨l.length, 0, noCl, noCl⟩) 56)) w.heap.size noZn := hA.fr ((Fr.refl Non _).alloc _) (fun e => e)
  have hs2 : ((w.alloc (.cells (znC noZn) 56)).alloc (.cells (znC ⟨l.length, 0, noCl, noCl⟩) 56)).heap.size = w.heap.size + 1 + 1 := by simp
  clear hA hsz
  unfold znC noZn noCl at *
  dsimp only at *
  replace f0 := Lib.hid f0
  replace hB := Lib.hid hB
  replace hA2 := Lib.hid hA2
  go_enter Tryz.func31, Tryz.ntmps31
  go_wp2_with fail
  refine (noteIn_any (w.heap.size + 1) _).mono ?_
  rintro e w1 ⟨rfl, n1, n2, f1⟩
  rw [hs2] at n1 n2
  have hA3 := hA2.out.fr f1 (fun e => e)
  have hN3 : NoteAt w1 (w.heap.size + 1 + 1 + 1) (w.heap.size + 1 + 1) (w.heap.size + 1) true ⟨l.length, 0, noCl, noCl⟩ := ⟨n1, n2, hB.out.fr f1 (fun e => e)⟩
  have hF3 := f0.out.trans f1
  have J0 := Lib.hid (jinv_start l.length 0)
  clear hA2 hB f0 n1 n2 f1
  rw [hs2]
  clear hs2
  generalize hw : w.heap.size = R at *
  have HW := Lib.hid (Nat.le_of_eq hw)
  clear hw
  go_wp2
  go_loopw [13] (fun i wr => ∃ (k : Nat) (z : Zn) (first : Bool), k ≤ l.length ∧ i = .int .i64 k ∧ JInv l.length (nulC (l.take k)) (liveC (l.take k)) z first ∧ NoteAt wr (R + 1 + 1 + 1) (R + 1 + 1) (R + 1) first z ∧ ZnB wr R noZn ∧ Fr Non w wr) (fun i _ => l.length - (intOf i).toNat)
  case atStart => exact ⟨0, _, true, Nat.zero_le _, rfl, J0.out, hN3, hA3, hF3⟩
  case round =>
    clear hA3 hN3 hF3 J0
    obtain ⟨k, z, first, hk, rfl, hJ, hN, hA, hF⟩ := hrel
    have hHR : R + 1 < wr.heap.size := hN.zb.lt
    by_cases hlt : k < l.length
    · cases A with
      | none => have := HN.out rfl; omega
      | some a =>
        obtain ⟨hc0, hc1, hc2⟩ := (hF.at3 (HC.out a rfl k hlt)).lit
        have HY := Lib.hid (jinv_yes hlt hJ)
        have HX := Lib.hid (jinv_no hlt hJ)
        obtain ⟨hn0, hn1⟩ := jinv_le (Nat.le_of_lt hlt) hJ
        clear hJ
        generalize l[k] = x at *
        obtain ⟨xn, xi, xt⟩ := x
        dsimp only at hc0 hc1 hc2
        cases xn
        · have f1 := (Fr.refl Non wr).alloc (.cells #[.bool false, .int .i64 xi, .string ⟨xt.toArray⟩] 54)
          have hN1 := hN.non f1
          have hA1 := hA.fr f1 (fun e => e)
          have hF1 := hF.trans f1
          have HNote := Lib.hid (note_any (R + 1 + 1 + 1) (R + 1 + 1) (R + 1) first z ⟨false, xi, xt⟩ _ hN1 (by omega) (by omega) (by omega))
          replace HX := Lib.hid (HX.out rfl)
          clear HY hN f1 hN1 hA hF
          replace hA1 := Lib.hid hA1
          replace hF1 := Lib.hid hF1
          go_wp2_with fail
          refine HNote.out.mono ?_
          rintro e w4 ⟨rfl, hN4, f4⟩
          have hA4 := hA1.out.fr f4 (fun e => by rcases e with e | e <;> omega)
          have hF4 := hF1.out.fresh f4 (fun q e => by have := HW.out; rcases e with e | e <;> omega)
          replace hN4 := Lib.hid hN4
          go_wp2
          go_roundw
          case rel => exact ⟨k + 1, _, false, by omega, by go_num, HX.out, hN4.out, hA4, hF4⟩
          case measure => simp [intOf]; omega
        · have a1 : wr.cell? ⟨R + 1, 1, none⟩ = some (.int .i64 z.nulls) := hN.zb.cell 1
          have y1 := hN.zb.frozen 1
          have f2 := (Fr.refl (One (R + 1)) wr).set1 1 (.int .i64 (z.nulls + 1))
          have f1 := (Fr.refl Non (wr.setCell ⟨R + 1, 1, none⟩ (.int .i64 (z.nulls + 1)))).alloc (.cells #[.bool true, .int .i64 xi, .string ⟨xt.toArray⟩] 54)
          have hN2 := Lib.hid ((hN.nul (by omega) (by omega) (z.nulls + 1)).non f1)
          have hA2 := Lib.hid ((hA.fr f2 (fun e => by have : R = R + 1 := e; omega)).fr f1 (fun e => e))
          have hF2 := Lib.hid ((hF.fresh f2 (fun q e => by have : q = R + 1 := e; have := HW.out; omega)).trans f1)
          replace HY := Lib.hid (HY.out rfl)
          clear HX hN f1 f2 hA hF
          go_wp2_with fail
          go_roundw
          case rel => exact ⟨k + 1, _, first, by omega, by go_num, HY.out, hN2.out, hA2.out, hF2.out⟩
          case measure => simp [intOf]; omega
    · obtain rfl : k = l.length := by omega
      rw [List.take_length] at hJ
      have HE := Lib.hid (jinv_end hJ)
      obtain ⟨y0, y1, y2, y3, y4, y5, y6, y7⟩ := znB_froz hA
      obtain ⟨b0, b1, b2, b3, b4, b5, b6, b7⟩ := znB_cells hA
      obtain ⟨a0, a1, a2, a3, a4, a5, a6, a7⟩ := znB_cells hN.zb
      have HA := Lib.hid (setZn_B hA z)
      have HF := Lib.hid (hF.fresh (setZn_fr wr R z) (fun q e => by have : q = R := e; have := HW.out; omega))
      clear hJ hN hA hF
      go_wp2
      exact bodyPost_ret (v := znV z) (ret_zn (p := 2) rfl _ _ R z rfl HA.out) rfl ⟨z, rfl, HE.out, HF.out⟩
end Go.Proofs.YtheefloegbkflaaGreatDoor


namespace Go.Proofs.YtheefloegbkflaaGreatDoor
set_option linter.unusedVariables false
set_option linter.unusedSimpArgs false
set_option maxRecDepth 100000
open Go.RowKit

/-- what read tells: a cell, what is left, whether the source failed -/
def rdC (ty : Int) (l : List UInt8) : Cl × List UInt8 × Bool :=
  if mostV l 1 = 0 then (⟨true, 0, []⟩, mostR l 1, mostB l 1)
  else if ty = 1 ∨ ty = 2 then (⟨false, unzig (fstN (mostR l 1)), []⟩, rest (mostR l 1), fell (mostR l 1))
  else if ty = 3 then (⟨false, 0, txtT (mostR l 1) 40⟩, txtR (mostR l 1) 40, txtB (mostR l 1) 40)
  else (⟨false, 0, []⟩, mostR l 1, mostB l 1)
theorem rdC_null {ty : Int} {l : List UInt8} (h : mostV l 1 = 0) : rdC ty l = (⟨true, 0, []⟩, mostR l 1, mostB l 1) := by unfold rdC; rw [if_pos h]
theorem rdC_num {ty : Int} {l : List UInt8} (h : ¬ mostV l 1 = 0) (ht : ty = 1 ∨ ty = 2) : rdC ty l = (⟨false, unzig (fstN (mostR l 1)), []⟩, rest (mostR l 1), fell (mostR l 1)) := by unfold rdC; rw [if_neg h, if_pos ht]
theorem rdC_txt {l : List UInt8} (h : ¬ mostV l 1 = 0) : rdC 3 l = (⟨false, 0, txtT (mostR l 1) 40⟩, txtR (mostR l 1) 40, txtB (mostR l 1) 40) := by unfold rdC; rw [if_neg h, if_neg (by omega), if_pos rfl]
theorem rdC_no {ty : Int} {l : List UInt8} (h : ¬ mostV l 1 = 0) (h1 : ¬ ty = 1) (h2 : ¬ ty = 2) (h3 : ¬ ty = 3) : rdC ty l = (⟨false, 0, []⟩, mostR l 1, mostB l 1) := by unfold rdC; rw [if_neg h, if_neg (by omega), if_neg h3]

/-- a call's end, behind a cell stored whole in the block made first -/
theorem cell_end {w w1 : World} {g : Nat} {l : List UInt8} {bad : Bool} {c0 : Cl} (hg : g < w.heap.size) (hB : ClB w1 w.heap.size c0) (hF : Fr (One g) w w1) (hS : Src w1 g l bad) (n : Bool) (i : Int) (t : List UInt8) :
    ClB (setCl w1 w.heap.size n i t) w.heap.size ⟨n, i, t⟩ ∧ Src (setCl w1 w.heap.size n i t) g l bad ∧ Fr (One g) w (setCl w1 w.heap.size n i t) :=
  ⟨setCl_B hB n i t, hS.fr (setCl_fr _ _ _ _ _) (fun e => by have : g = w.heap.size := e; omega), hF.fresh (setCl_fr _ _ _ _ _) (fun k e => by have : k = w.heap.size := e; omega)⟩

set_option maxHeartbeats 1000000 in
theorem cread_any (g : Nat) (l : List UInt8) (bad : Bool) (ty : Int) (w : World) (h : Src w g l bad) :
    Calls Tryz.prog 188 #[ptr g, .int .i64 ty] w fun e w' => e = .returned (clV (rdC ty l).1) ∧ Src w' g (rdC ty l).2.1 (rdC ty l).2.2 ∧ Fr (One g) w w' := by
  have hg := h.1.lt
  have hB0 := cl_new w ⟨false, 0, []⟩
  have f0 : Fr Non w (w.alloc (.cells #[.bool false, .int .i64 0, .string ⟨([] : List UInt8).toArray⟩] 54)) := (Fr.refl _ _).alloc _
  have h0 := below_any g l bad 2 _ (h.fr f0 (fun e => e)) (by omega)
  rw [show (2 : Int) - 1 = 1 by rfl] at h0
  have key : ∀ (k : Nat), mostV l 1 = k → Calls Tryz.prog 188 #[ptr g, .int .i64 ty] w fun e w' => e = .returned (clV (rdC ty l).1) ∧ Src w' g (rdC ty l).2.1 (rdC ty l).2.2 ∧ Fr (One g) w w' := by
    intro k hk
    rw [hk] at h0
    have hgw : w.heap.size ≠ g := by omega
    by_cases hk0 : k = 0
    · subst hk0
      have HE := Lib.hid (rdC_null (ty := ty) hk)
      clear hk
      go_enter Tryz.func188, Tryz.ntmps188
      go_wp2_with fail
      refine h0.mono ?_
      rintro e w1 ⟨rfl, s1, f1⟩
      have hB1 : ClB w1 w.heap.size _ := hB0.fr f1 (fun e => hgw e)
      obtain ⟨c0, c1, c2, z0, z1, z2⟩ := hB1.facts
      dsimp only at c0 c1 c2
      have HB := Lib.hid hB1
      have HF := Lib.hid (f0.any.trans f1)
      have HS := Lib.hid s1
      clear hB1 hB0 f0 f1 s1 h0
      go_wp2
      obtain ⟨e1, e2, e3⟩ := cell_end hg HB.out HF.out HS.out true 0 []
      exact bodyPost_ret (v := clV ⟨true, 0, []⟩) (ret_cl (p := 4) rfl _ _ w.heap.size ⟨true, 0, []⟩ rfl e1) rfl ⟨by rw [HE.out], by rw [HE.out]; exact e2, e3⟩
    · have hkI : ((k : Int) == 0) = false := by rw [beq_eq_false_iff_ne]; omega
      have hk1 : ¬ mostV l 1 = 0 := by rw [hk]; exact hk0
      have HK := Lib.hid hk1
      clear hk hk1 hk0
      by_cases ht : ty = 1 ∨ ty = 2
      · have HE := Lib.hid (rdC_num HK.out ht)
        rcases ht with ht | ht
        all_goals
          subst ht
          go_enter Tryz.func188, Tryz.ntmps188
          go_wp2_with fail
          refine h0.mono ?_
          rintro e w1 ⟨rfl, s1, f1⟩
          have hB1 : ClB w1 w.heap.size _ := hB0.fr f1 (fun e => hgw e)
          go_wp2_with fail
          refine (sint_any g _ _ w1 s1).mono ?_
          rintro e w2 ⟨rfl, s2, f2⟩
          have hB2 : ClB w2 w.heap.size _ := hB1.fr f2 (fun e => hgw e)
          obtain ⟨c0, c1, c2, z0, z1, z2⟩ := hB2.facts
          dsimp only at c0 c1 c2
          have HB := Lib.hid hB2
          have HF := Lib.hid ((f0.any.trans f1).trans f2)
          have HS := Lib.hid s2
          clear hB1 hB2 hB0 f0 f1 f2 s1 s2 h0
          generalize unzig (fstN (mostR l 1)) = z at *
          go_wp2
          obtain ⟨e1, e2, e3⟩ := cell_end hg HB.out HF.out HS.out false z []
          exact bodyPost_ret (v := clV ⟨false, z, []⟩) (ret_cl (p := 4) rfl _ _ w.heap.size ⟨false, z, []⟩ rfl e1) rfl ⟨by rw [HE.out], by rw [HE.out]; exact e2, e3⟩
      · by_cases h3 : ty = 3
        · subst h3
          have HE := Lib.hid (rdC_txt HK.out)
          clear ht
          go_enter Tryz.func188, Tryz.ntmps188
          go_wp2_with fail
          refine h0.mono ?_
          rintro e w1 ⟨rfl, s1, f1⟩
          have hB1 : ClB w1 w.heap.size _ := hB0.fr f1 (fun e => hgw e)
          go_wp2_with fail
          refine (stext_any g _ _ 40 w1 s1 (by omega)).mono ?_
          rintro e w2 ⟨rfl, s2, f2⟩
          have hB2 : ClB w2 w.heap.size _ := hB1.fr f2 (fun e => hgw e)
          obtain ⟨c0, c1, c2, z0, z1, z2⟩ := hB2.facts
          dsimp only at c0 c1 c2
          have HB := Lib.hid hB2
          have HF := Lib.hid ((f0.any.trans f1).trans f2)
          have HS := Lib.hid s2
          clear hB1 hB2 hB0 f0 f1 f2 s1 s2 h0
          generalize txtT (mostR l 1) 40 = z at *
          go_wp2
          obtain ⟨e1, e2, e3⟩ := cell_end hg HB.out HF.out HS.out false 0 z
          exact bodyPost_ret (v := clV ⟨false, 0, z⟩) (ret_cl (p := 4) rfl _ _ w.heap.size ⟨false, 0, z⟩ rfl e1) rfl ⟨by rw [HE.out], by rw [HE.out]; exact e2, e3⟩
        · have h1 : ¬ ty = 1 := fun e => ht (.inl e)
          have h2 : ¬ ty = 2 := fun e => ht (.inr e)
          have HE := Lib.hid (rdC_no HK.out h1 h2 h3)
          clear ht
          go_enter Tryz.func188, Tryz.ntmps188
          go_wp2_with fail
          refine h0.mono ?_
          rintro e w1 ⟨rfl, s1, f1⟩
          have hB1 : ClB w1 w.heap.size _ := hB0.fr f1 (fun e => hgw e)
          obtain ⟨c0, c1, c2, z0, z1, z2⟩ := hB1.facts
          dsimp only at c0 c1 c2
          have HB := Lib.hid hB1
          have HF := Lib.hid (f0.any.trans f1)
          have HS := Lib.hid s1
          clear hB1 hB0 f0 f1 s1 h0
          go_wp2
          obtain ⟨e1, e2, e3⟩ := cell_end hg HB.out HF.out HS.out false 0 []
          exact bodyPost_ret (v := clV ⟨false, 0, []⟩) (ret_cl (p := 4) rfl _ _ w.heap.size ⟨false, 0, []⟩ rfl e1) rfl ⟨by rw [HE.out], by rw [HE.out]; exact e2, e3⟩
  exact key _ rfl

/-- what Take tells: the cell, what is left, whether the source failed -/
def tkC (ty : Int) (l : List UInt8) : Cl × List UInt8 × Bool := if (rdC ty l).2.2 = false ∧ mayC ty true (rdC ty l).1 = true then rdC ty l else (⟨false, 0, []⟩, [], true)
theorem tkC_yes {ty : Int} {l : List UInt8} (h1 : (rdC ty l).2.2 = false) (h2 : mayC ty true (rdC ty l).1 = true) : tkC ty l = rdC ty l := by unfold tkC; rw [if_pos ⟨h1, h2⟩]
theorem tkC_bad {ty : Int} {l : List UInt8} (h1 : (rdC ty l).2.2 = true) : tkC ty l = (⟨false, 0, []⟩, [], true) := by unfold tkC; rw [if_neg (by rw [h1]; simp)]
theorem tkC_not {ty : Int} {l : List UInt8} (h1 : mayC ty true (rdC ty l).1 = false) : tkC ty l = (⟨false, 0, []⟩, [], true) := by unfold tkC; rw [if_neg (by rw [h1]; simp)]

set_option maxHeartbeats 1000000 in
theorem ctake_any (g : Nat) (l : List UInt8) (bad : Bool) (ty : Int) (w : World) (h : Src w g l bad) :
    Calls Tryz.prog 174 #[ptr g, .int .i64 ty] w fun e w' => e = .returned (clV (tkC ty l).1) ∧ Src w' g (tkC ty l).2.1 (tkC ty l).2.2 ∧ Fr (One g) w w' := by
  have hg := h.1.lt
  have hB0 := cl_new w ⟨false, 0, []⟩
  have f0 : Fr Non w (w.alloc (.cells #[.bool false, .int .i64 0, .string ⟨([] : List UInt8).toArray⟩] 54)) := (Fr.refl _ _).alloc _
  have h0 := cread_any g l bad ty _ (h.fr f0 (fun e => e))
  have hgw : w.heap.size ≠ g := by omega
  have HY := Lib.hid (tkC_yes (ty := ty) (l := l))
  have HN1 := Lib.hid (tkC_bad (ty := ty) (l := l))
  have HN2 := Lib.hid (tkC_not (ty := ty) (l := l))
  generalize rdC ty l = x at *
  obtain ⟨⟨n, i, t⟩, r, b⟩ := x
  have hm := fun W => may_any ty true ⟨n, i, t⟩ W
  unfold clV clC at hm h0
  dsimp only at h0 HY HN1 HN2 hm
  cases b
  · cases hmc : mayC ty true ⟨n, i, t⟩
    · rw [hmc] at hm
      have HE := Lib.hid (HN2.out hmc)
      clear hmc
      go_enter Tryz.func174, Tryz.ntmps174
      go_wp2_with fail
      refine h0.mono ?_
      rintro e w1 ⟨rfl, s1, f1⟩
      have hB1 : ClB w1 w.heap.size _ := hB0.fr f1 (fun e => hgw e)
      have f2 := (Fr.refl Non w1).alloc (.cells #[.bool n, .int .i64 i, .string ⟨t.toArray⟩] 54)
      have hg1 := s1.1.lt
      have hr1 := hB1.lt
      have hB2 : ClB _ w.heap.size _ := hB1.fr f2 (fun e => e)
      have s2 := s1.fr f2 (fun e => e)
      have F2 := (f0.any.trans f1).then f2
      clear hB0 h0 hB1 f0 f1
      go_wp2_with fail
      refine (ok_any g _ _ _ s2).mono ?_
      rintro e w3 ⟨rfl, rfl⟩
      go_wp2_with fail
      refine (hm _).mono ?_
      rintro e w3 ⟨rfl, f3⟩
      go_wp2_with fail
      refine (fail_any g _ _ w3 (s2.fr f3 (fun e => e))).mono ?_
      rintro e w4 ⟨rfl, s4, f4⟩
      have hB4 : ClB w4 w.heap.size _ := (hB2.fr f3 (fun e => e)).fr f4 (fun e => hgw e)
      obtain ⟨c0, c1, c2, z0, z1, z2⟩ := hB4.facts
      dsimp only at c0 c1 c2
      have HB := Lib.hid hB4
      have HF := Lib.hid ((F2.then f3).trans f4)
      have HS := Lib.hid s4
      clear hB2 hB4 f2 f3 f4 s1 s2 s4 F2
      go_wp2
      obtain ⟨e1, e2, e3⟩ := cell_end hg HB.out HF.out HS.out false 0 []
      exact bodyPost_ret (v := clV ⟨false, 0, []⟩) (ret_cl (p := 4) rfl _ _ w.heap.size ⟨false, 0, []⟩ rfl e1) rfl ⟨by rw [HE.out], by rw [HE.out]; exact e2, e3⟩
    · rw [hmc] at hm
      have HE := Lib.hid (HY.out rfl hmc)
      clear hmc
      go_enter Tryz.func174, Tryz.ntmps174
      go_wp2_with fail
      refine h0.mono ?_
      rintro e w1 ⟨rfl, s1, f1⟩
      have hB1 : ClB w1 w.heap.size _ := hB0.fr f1 (fun e => hgw e)
      have f2 := (Fr.refl Non w1).alloc (.cells #[.bool n, .int .i64 i, .string ⟨t.toArray⟩] 54)
      have hC2 := cl_new w1 ⟨n, i, t⟩
      have hg1 := s1.1.lt
      have hr1 := hB1.lt
      have hB2 : ClB _ w.heap.size _ := hB1.fr f2 (fun e => e)
      have s2 := s1.fr f2 (fun e => e)
      have F2 := (f0.any.trans f1).then f2
      clear hB0 h0 hB1 f0 f1
      go_wp2_with fail
      refine (ok_any g _ _ _ s2).mono ?_
      rintro e w3 ⟨rfl, rfl⟩
      go_wp2_with fail
      refine (hm _).mono ?_
      rintro e w3 ⟨rfl, f3⟩
      have s4 := s2.fr f3 (fun e => e)
      have hB4 : ClB w3 w.heap.size _ := hB2.fr f3 (fun e => e)
      have hC4 : ClB w3 w1.heap.size _ := hC2.fr f3 (fun e => e)
      obtain ⟨c0, c1, c2, z0, z1, z2⟩ := hB4.facts
      obtain ⟨d0, d1, d2, _, _, _⟩ := hC4.facts
      dsimp only at c0 c1 c2 d0 d1 d2
      have HB := Lib.hid hB4
      have HF := Lib.hid (F2.then f3)
      have HS := Lib.hid s4
      clear hB2 hB4 f2 f3 s1 s2 s4 F2 hC2 hC4
      go_wp2
      obtain ⟨e1, e2, e3⟩ := cell_end hg HB.out HF.out HS.out n i t
      exact bodyPost_ret (v := clV ⟨n, i, t⟩) (ret_cl (p := 4) rfl _ _ w.heap.size ⟨n, i, t⟩ rfl e1) rfl ⟨by rw [HE.out], by rw [HE.out]; exact e2, e3⟩
  · have HE := Lib.hid (HN1.out rfl)
    go_enter Tryz.func174, Tryz.ntmps174
    go_wp2_with fail
    refine h0.mono ?_
    rintro e w1 ⟨rfl, s1, f1⟩
    have hB1 : ClB w1 w.heap.size _ := hB0.fr f1 (fun e => hgw e)
    have f2 := (Fr.refl Non w1).alloc (.cells #[.bool n, .int .i64 i, .string ⟨t.toArray⟩] 54)
    have hg1 := s1.1.lt
    have hr1 := hB1.lt
    have hB2 : ClB _ w.heap.size _ := hB1.fr f2 (fun e => e)
    have s2 := s1.fr f2 (fun e => e)
    have F2 := (f0.any.trans f1).then f2
    clear hB0 h0 hB1 f0 f1
    go_wp2_with fail
    refine (ok_any g _ _ _ s2).mono ?_
    rintro e w3 ⟨rfl, rfl⟩
    go_wp2_with fail
    refine (fail_any g _ _ _ s2).mono ?_
    rintro e w4 ⟨rfl, s4, f4⟩
    have hB4 : ClB w4 w.heap.size _ := hB2.fr f4 (fun e => hgw e)
    obtain ⟨c0, c1, c2, z0, z1, z2⟩ := hB4.facts
    dsimp only at c0 c1 c2
    have HB := Lib.hid hB4
    have HF := Lib.hid (F2.trans f4)
    have HS := Lib.hid s4
    clear hB2 hB4 f2 f4 s1 s2 s4 F2
    go_wp2
    obtain ⟨e1, e2, e3⟩ := cell_end hg HB.out HF.out HS.out false 0 []
    exact bodyPost_ret (v := clV ⟨false, 0, []⟩) (ret_cl (p := 4) rfl _ _ w.heap.size ⟨false, 0, []⟩ rfl e1) rfl ⟨by rw [HE.out], by rw [HE.out]; exact e2, e3⟩
end Go.Proofs.YtheefloegbkflaaGreatDoor


namespace Go.Proofs.YtheefloegbkflaaGreatDoor
set_option linter.unusedVariables false
set_option linter.unusedSimpArgs false
set_option maxRecDepth 100000
open Go.RowKit

theorem setRow_B {w : World} {g : Nat} {y : Zn} (h : ZnB w g y) (r : Int) : ZnB (w.setCell ⟨g, 0, none⟩ (.int .i64 r)) g ⟨r, y.nulls, y.low, y.high⟩ := Blk.set h 0 _
/-- what read tells: a zone, what is left, whether the source failed -/
def rdZ (ty : Int) (l : List UInt8) : Zn × List UInt8 × Bool :=
  if mostV (mostR l 4096) 4096 < mostV l 4096 then
    (⟨mostV l 4096, mostV (mostR l 4096) 4096, (tkC ty (mostR (mostR l 4096) 4096)).1, (tkC ty (tkC ty (mostR (mostR l 4096) 4096)).2.1).1⟩, (tkC ty (tkC ty (mostR (mostR l 4096) 4096)).2.1).2.1, (tkC ty (tkC ty (mostR (mostR l 4096) 4096)).2.1).2.2)
  else (⟨mostV l 4096, mostV (mostR l 4096) 4096, noCl, noCl⟩, mostR (mostR l 4096) 4096, mostB (mostR l 4096) 4096)
def tkZ (ty : Int) (l : List UInt8) : Zn × List UInt8 × Bool := if (rdZ ty l).2.2 = false ∧ mayZ ty (rdZ ty l).1 = true then rdZ ty l else (noZn, [], true)
theorem tkZ_yes {ty : Int} {l : List UInt8} (h1 : (rdZ ty l).2.2 = false) (h2 : mayZ ty (rdZ ty l).1 = true) : tkZ ty l = rdZ ty l := by unfold tkZ; rw [if_pos ⟨h1, h2⟩]
theorem tkZ_bad {ty : Int} {l : List UInt8} (h1 : (rdZ ty l).2.2 = true) : tkZ ty l = (noZn, [], true) := by unfold tkZ; rw [if_neg (by rw [h1]; simp)]
theorem tkZ_not {ty : Int} {l : List UInt8} (h1 : mayZ ty (rdZ ty l).1 = false) : tkZ ty l = (noZn, [], true) := by unfold tkZ; rw [if_neg (by rw [h1]; simp)]

set_option maxHeartbeats 4000000 in
theorem zread_any (g : Nat) (l : List UInt8) (bad : Bool) (ty : Int) (w : World) (h : Src w g l bad) :
    Calls Tryz.prog 134 #[ptr g, .int .i64 ty] w fun e w' => e = .returned (znV (rdZ ty l).1) ∧ Src w' g (rdZ ty l).2.1 (rdZ ty l).2.2 ∧ Fr (One g) w w' := by
  have hg := h.1.lt
  have F0 : Fr Non w _ := ((Fr.refl Non w).alloc (.cells (znC noZn) 56)).alloc (.cells (znC noZn) 56)
  have hA : ZnB (w.alloc (.cells (znC noZn) 56)) w.heap.size noZn := Blk.new _ _ _
  have hB : ZnB ((w.alloc (.cells (znC noZn) 56)).alloc (.cells (znC noZn) 56)) (w.alloc (.cells (znC noZn) 56)).heap.size noZn := Blk.new _ _ _
  rw [show (w.alloc (.cells (znC noZn) 56)).heap.size = w.heap.size + 1 by simp] at hB
  have hA0 : ZnB ((w.alloc (.cells (znC noZn) 56)).alloc (.cells (znC noZn) 56)) w.heap.size noZn := hA.fr ((Fr.refl Non _).alloc _) (fun e => e)
  have h0 := below_any g l bad 4097 _ (h.fr F0 (fun e => e)) (by omega)
  rw [show (4097 : Int) - 1 = 4096 by rfl] at h0
  have HE0 : rdZ ty l = if mostV (mostR l 4096) 4096 < mostV l 4096 then (⟨mostV l 4096, mostV (mostR l 4096) 4096, (tkC ty (mostR (mostR l 4096) 4096)).1, (tkC ty (tkC ty (mostR (mostR l 4096) 4096)).2.1).1⟩, (tkC ty (tkC ty (mostR (mostR l 4096) 4096)).2.1).2.1, (tkC ty (tkC ty (mostR (mostR l 4096) 4096)).2.1).2.2) else (⟨mostV l 4096, mostV (mostR l 4096) 4096, noCl, noCl⟩, mostR (mostR l 4096) 4096, mostB (mostR l 4096) 4096) := rfl
  generalize rdZ ty l = X at *
  have V2 := fun W s => below_any g (mostR l 4096) (mostB l 4096) 4097 W s (by omega)
  rw [show (4097 : Int) - 1 = 4096 by rfl] at V2
  generalize mostV l 4096 = r at *
  generalize hl1 : mostR l 4096 = l1 at *
  generalize hb1 : mostB l 4096 = b1 at *
  clear hl1 hb1
  generalize mostV l1 4096 = n at *
  generalize mostR l1 4096 = l2 at *
  generalize mostB l1 4096 = b2 at *
  clear h hA
  unfold znC noZn noCl at *
  dsimp only at *
  replace F0 := Lib.hid F0
  replace hB := Lib.hid hB
  replace hA0 := Lib.hid hA0
  replace h0 := Lib.hid h0
  replace V2 := Lib.hid V2
  go_enter Tryz.func134, Tryz.ntmps134
  go_wp2_with fail
  generalize hw : w.heap.size = R at *
  refine h0.out.mono ?_
  rintro e w1 ⟨rfl, s1, f1⟩
  have hB1 : ZnB w1 (R + 1) noZn := hB.out.fr f1 (fun e => by have : R + 1 = g := e; omega)
  have hA1 : ZnB w1 R noZn := hA0.out.fr f1 (fun e => by have : R = g := e; omega)
  have F1 := F0.out.any.trans f1
  clear h0 hB hA0 F0 f1
  have fs := (Fr.refl (One (R + 1)) w1).set1 0 (.int .i64 r)
  have hB2 := setRow_B hB1 r
  have hA2 : ZnB _ R noZn := hA1.fr fs (fun e => by have : R = R + 1 := e; omega)
  have s2 := s1.fr fs (fun e => by have : g = R + 1 := e; omega)
  have F2 := F1.fresh fs (fun k e => by have : k = R + 1 := e; omega)
  obtain ⟨a0, a1, a2, a3, a4, a5, a6, a7⟩ := znB_cells hB1
  obtain ⟨y0, y1, y2, y3, y4, y5, y6, y7⟩ := znB_froz hB1
  have V3 := V2.out _ s2
  clear hB1 hA1 F1 fs s1 s2 V2
  replace hB2 : Hid (ZnB _ _ _) := Lib.hid hB2
  replace hA2 : Hid (ZnB _ _ _) := Lib.hid hA2
  replace F2 := Lib.hid F2
  replace V3 := Lib.hid V3
  go_wp2_with fail
  refine V3.out.mono ?_
  rintro e w3 ⟨rfl, s3, f3⟩
  clear a0 a1 a2 a3 a4 a5 a6 a7 y0 y1 y2 y3 y4 y5 y6 y7
  have hB3 : ZnB w3 (R + 1) ⟨r, 0, noCl, noCl⟩ := hB2.out.fr f3 (fun e => by have : R + 1 = g := e; omega)
  have hA3 : ZnB w3 R noZn := hA2.out.fr f3 (fun e => by have : R = g := e; omega)
  have F3 := F2.out.trans f3
  clear hB2 hA2 F2 f3 V3
  have fs := (Fr.refl (One (R + 1)) w3).set1 1 (.int .i64 n)
  have hB4 : ZnB _ _ ⟨r, n, noCl, noCl⟩ := setNul_B hB3 n
  have hA4 : ZnB _ R noZn := hA3.fr fs (fun e => by have : R = R + 1 := e; omega)
  have s4 := s3.fr fs (fun e => by have : g = R + 1 := e; omega)
  have F4 := F3.fresh fs (fun k e => by have : k = R + 1 := e; omega)
  obtain ⟨a0, a1, a2, a3, a4, a5, a6, a7⟩ := znB_cells hB3
  obtain ⟨y0, y1, y2, y3, y4, y5, y6, y7⟩ := znB_froz hB3
  clear hB3 hA3 F3 fs s3
  have hB4c := hB4
  replace hB4 : Hid (ZnB _ _ _) := Lib.hid hB4
  replace hA4 : Hid (ZnB _ _ _) := Lib.hid hA4
  replace F4 := Lib.hid F4
  replace s4 := Lib.hid s4
  clear hB4c
  have B1 := fun W => bnd_any ⟨r, n, noCl, noCl⟩ W
  unfold znV znC noCl at B1
  dsimp only at B1
  replace B1 := Lib.hid B1
  have hbz : bndZ ⟨(r : Int), n, noCl, noCl⟩ = decide (n < r) := by unfold bndZ; simp
  unfold noCl at hbz
  rw [hbz] at B1
  clear hbz
  go_wp2_with fail
  refine (B1.out _).mono ?_
  rintro e w5 ⟨rfl, f5⟩
  clear a0 a1 a2 a3 a4 a5 a6 a7 y0 y1 y2 y3 y4 y5 y6 y7
  have hB5 : ZnB w5 (R + 1) ⟨r, n, noCl, noCl⟩ := hB4.out.fr f5 (fun e => e)
  have hA5 : ZnB w5 R noZn := hA4.out.fr f5 (fun e => e)
  have s5 := s4.out.fr f5 (fun e => e)
  have F5 := F4.out.then f5
  clear hB4 hA4 F4 s4 f5 B1
  by_cases hb : n < r
  · rw [if_pos hb] at HE0
    have hd : decide (n < r) = true := decide_eq_true hb
    replace HE0 := Lib.hid HE0
    have T1 := ctake_any g l2 b2 ty w5 s5
    have T2 := fun W s => ctake_any g (tkC ty l2).2.1 (tkC ty l2).2.2 ty W s
    generalize tkC ty l2 = p at *
    obtain ⟨lo, l3, b3⟩ := p
    dsimp only at T1 T2 HE0
    generalize tkC ty l3 = q at *
    obtain ⟨hi, l4, b4⟩ := q
    dsimp only at T2 HE0
    replace T1 := Lib.hid T1
    replace T2 := Lib.hid T2
    replace hB5 : Hid (ZnB _ _ _) := Lib.hid hB5
    replace hA5 : Hid (ZnB _ _ _) := Lib.hid hA5
    replace F5 := Lib.hid F5
    clear s5
    go_wp2_with fail
    refine T1.out.mono ?_
    rintro e w6 ⟨rfl, s6, f6⟩
    have hB6 : ZnB w6 (R + 1) ⟨r, n, noCl, noCl⟩ := hB5.out.fr f6 (fun e => by have : R + 1 = g := e; omega)
    have hA6 : ZnB w6 R noZn := hA5.out.fr f6 (fun e => by have : R = g := e; omega)
    have F6 := F5.out.trans f6
    clear hB5 hA5 F5 f6 T1
    have fs := setLow_fr w6 (R + 1) lo.null lo.num lo.txt
    have hB7 : ZnB (setLow w6 (R + 1) lo.null lo.num lo.txt) (R + 1) ⟨r, n, lo, noCl⟩ := setLow_B hB6 lo
    have hA7 : ZnB (setLow w6 (R + 1) lo.null lo.num lo.txt) R noZn := hA6.fr fs (fun e => by have : R = R + 1 := e; omega)
    have s7 := s6.fr fs (fun e => by have : g = R + 1 := e; omega)
    have F7 := F6.fresh fs (fun k e => by have : k = R + 1 := e; omega)
    obtain ⟨a0, a1, a2, a3, a4, a5, a6, a7⟩ := znB_cells hB6
    obtain ⟨y0, y1, y2, y3, y4, y5, y6, y7⟩ := znB_froz hB6
    have V7 := T2.out _ s7
    clear hB6 hA6 F6 fs s6 s7 T2
    unfold setLow at hB7 hA7 F7 V7
    unfold clV clC
    replace hB7 : Hid (ZnB _ _ _) := Lib.hid hB7
    replace hA7 : Hid (ZnB _ _ _) := Lib.hid hA7
    replace F7 := Lib.hid F7
    replace V7 := Lib.hid V7
    go_wp2_with fail
    refine V7.out.mono ?_
    rintro e w8 ⟨rfl, s8, f8⟩
    clear a0 a1 a2 a3 a4 a5 a6 a7 y0 y1 y2 y3 y4 y5 y6 y7
    have hB8 : ZnB w8 (R + 1) ⟨r, n, lo, noCl⟩ := hB7.out.fr f8 (fun e => by have : R + 1 = g := e; omega)
    have hA8 : ZnB w8 R noZn := hA7.out.fr f8 (fun e => by have : R = g := e; omega)
    have F8 := F7.out.trans f8
    clear hB7 hA7 F7 f8 V7
    have fs := setHigh_fr w8 (R + 1) hi.null hi.num hi.txt
    have hA9 : ZnB (setHigh w8 (R + 1) hi.null hi.num hi.txt) R noZn := hA8.fr fs (fun e => by have : R = R + 1 := e; omega)
    have s9 := s8.fr fs (fun e => by have : g = R + 1 := e; omega)
    have F9 := F8.fresh fs (fun k e => by have : k = R + 1 := e; omega)
    obtain ⟨b0, b1, b2, b3', b4', b5, b6, b7⟩ := znB_cells hA8
    obtain ⟨z0, z1, z2, z3, z4, z5, z6, z7⟩ := znB_froz hA8
    obtain ⟨a0, a1, a2, a3, a4, a5, a6, a7⟩ := znB_cells hB8
    obtain ⟨y0, y1, y2, y3, y4, y5, y6, y7⟩ := znB_froz hB8
    have HA := Lib.hid (setZn_B hA9 ⟨r, n, lo, hi⟩)
    have HS := Lib.hid (s9.fr (setZn_fr (setHigh w8 (R + 1) hi.null hi.num hi.txt) R ⟨r, n, lo, hi⟩) (fun e => by have : g = R := e; omega))
    have HF := Lib.hid (F9.fresh (setZn_fr (setHigh w8 (R + 1) hi.null hi.num hi.txt) R ⟨r, n, lo, hi⟩) (fun k e => by have : k = R := e; omega))
    clear hA8 hB8 F8 fs hA9 s8 s9 F9
    unfold clV clC
    go_wp2
    exact bodyPost_ret (v := znV ⟨r, n, lo, hi⟩) (ret_zn (p := 4) rfl _ _ R ⟨r, n, lo, hi⟩ rfl HA.out) rfl ⟨by rw [HE0.out], by rw [HE0.out]; exact HS.out, HF.out⟩
  · rw [if_neg hb] at HE0
    have hd : decide (n < r) = false := decide_eq_false hb
    replace HE0 := Lib.hid HE0
    obtain ⟨b0, b1, b2', b3, b4, b5, b6, b7⟩ := znB_cells hA5
    obtain ⟨z0, z1, z2, z3, z4, z5, z6, z7⟩ := znB_froz hA5
    obtain ⟨a0, a1, a2, a3, a4, a5, a6, a7⟩ := znB_cells hB5
    obtain ⟨y0, y1, y2, y3, y4, y5, y6, y7⟩ := znB_froz hB5
    have HA := Lib.hid (setZn_B hA5 ⟨r, n, noCl, noCl⟩)
    have HS := Lib.hid (s5.fr (setZn_fr w5 R ⟨r, n, noCl, noCl⟩) (fun e => by have : g = R := e; omega))
    have HF := Lib.hid (F5.fresh (setZn_fr w5 R ⟨r, n, noCl, noCl⟩) (fun k e => by have : k = R := e; omega))
    clear hA5 hB5 F5 s5
    go_wp2
    exact bodyPost_ret (v := znV ⟨r, n, noCl, noCl⟩) (ret_zn (p := 4) rfl _ _ R ⟨r, n, noCl, noCl⟩ rfl HA.out) rfl ⟨by rw [HE0.out]; rfl, by rw [HE0.out]; exact HS.out, HF.out⟩

set_option maxHeartbeats 4000000 in
theorem ztake_any (g : Nat) (l : List UInt8) (bad : Bool) (ty : Int) (w : World) (h : Src w g l bad) :
    Calls Tryz.prog 79 #[ptr g, .int .i64 ty] w fun e w' => e = .returned (znV (tkZ ty l).1) ∧ Src w' g (tkZ ty l).2.1 (tkZ ty l).2.2 ∧ Fr (One g) w w' := by
  have hg := h.1.lt
  have hA0 : ZnB (w.alloc (.cells (znC noZn) 56)) w.heap.size noZn := Blk.new _ _ _
  have F0 : Fr Non w _ := (Fr.refl Non w).alloc (.cells (znC noZn) 56)
  have h0 := zread_any g l bad ty _ (h.fr F0 (fun e => e))
  have HY := Lib.hid (tkZ_yes (ty := ty) (l := l))
  have HN1 := Lib.hid (tkZ_bad (ty := ty) (l := l))
  have HN2 := Lib.hid (tkZ_not (ty := ty) (l := l))
  generalize rdZ ty l = x at *
  obtain ⟨z, r, b⟩ := x
  dsimp only at h0 HY HN1 HN2
  have M1 := fun W => zmay_any ty z W
  unfold znV at M1 h0
  unfold znC noZn noCl at *
  dsimp only at *
  replace h0 := Lib.hid h0
  replace hA0 := Lib.hid hA0
  replace F0 := Lib.hid F0
  replace M1 := Lib.hid M1
  clear h
  go_enter Tryz.func79, Tryz.ntmps79
  go_wp2_with fail
  generalize hw : w.heap.size = R at *
  refine h0.out.mono ?_
  rintro e w1 ⟨rfl, s1, f1⟩
  have hA1 : ZnB w1 R noZn := hA0.out.fr f1 (fun e => by have : R = g := e; omega)
  have F1 := F0.out.any.trans f1
  have f2 := (Fr.refl Non w1).alloc (.cells (znC z) 56)
  have hB2 : ZnB (w1.alloc (.cells (znC z) 56)) w1.heap.size z := Blk.new _ _ _
  have hA2 : ZnB (w1.alloc (.cells (znC z) 56)) R noZn := hA1.fr f2 (fun e => e)
  have s2 := s1.fr f2 (fun e => e)
  have F2 := F1.then f2
  have hRw := hA1.lt
  have hgw := s1.1.lt
  clear hA0 F0 h0 f1 hA1 F1 f2 s1
  have K1 := ok_any g _ _ _ s2
  unfold znC at hB2 hA2 s2 F2 K1
  replace hB2 : Hid (ZnB _ _ _) := Lib.hid hB2
  replace hA2 : Hid (ZnB _ _ _) := Lib.hid hA2
  replace F2 := Lib.hid F2
  replace s2 := Lib.hid s2
  replace K1 := Lib.hid K1
  go_wp2_with fail
  refine K1.out.mono ?_
  rintro e w3 ⟨rfl, rfl⟩
  clear K1
  cases b
  · cases hm : mayZ ty z
    · replace HN2 := Lib.hid (HN2.out hm)
      rw [hm] at M1
      clear hm HN1 HY
      obtain ⟨a0, a1, a2, a3, a4, a5, a6, a7⟩ := znB_cells hB2.out
      go_wp2_with fail
      refine (M1.out _).mono ?_
      rintro e w4 ⟨rfl, f4⟩
      have hA4 : ZnB w4 R noZn := hA2.out.fr f4 (fun e => e)
      have s4 := s2.out.fr f4 (fun e => e)
      have F4 := F2.out.then f4
      have hB4 : ZnB w4 _ z := hB2.out.fr f4 (fun e => e)
      clear a0 a1 a2 a3 a4 a5 a6 a7 hA2 s2 F2 hB2 f4 M1
      replace hA4 : Hid (ZnB _ _ _) := Lib.hid hA4
      replace s4 := Lib.hid s4
      replace F4 := Lib.hid F4
      clear hB4
      go_wp2_with fail
      refine (fail_any g _ _ _ s4.out).mono ?_
      rintro e w5 ⟨rfl, s5, f5⟩
      have hA5 : ZnB w5 R noZn := hA4.out.fr f5 (fun e => by have : R = g := e; omega)
      have F5 := F4.out.trans f5
      obtain ⟨b0, b1, b2, b3, b4, b5, b6, b7⟩ := znB_cells hA5
      obtain ⟨z0, z1, z2, z3, z4, z5, z6, z7⟩ := znB_froz hA5
      have HA := Lib.hid (setZn_B hA5 noZn)
      have HS := Lib.hid (s5.fr (setZn_fr w5 R noZn) (fun e => by have : g = R := e; omega))
      have HF := Lib.hid (F5.fresh (setZn_fr w5 R noZn) (fun k e => by have : k = R := e; omega))
      clear hA5 s5 F5 f5
      go_wp2
      exact bodyPost_ret (v := znV noZn) (ret_zn (p := 4) rfl _ _ R noZn rfl HA.out) rfl ⟨by rw [HN2.out]; rfl, by rw [HN2.out]; exact HS.out, HF.out⟩
    · replace HY := Lib.hid (HY.out rfl hm)
      rw [hm] at M1
      clear hm HN1 HN2
      obtain ⟨a0, a1, a2, a3, a4, a5, a6, a7⟩ := znB_cells hB2.out
      go_wp2_with fail
      refine (M1.out _).mono ?_
      rintro e w4 ⟨rfl, f4⟩
      have hA4 : ZnB w4 R noZn := hA2.out.fr f4 (fun e => e)
      have s4 := s2.out.fr f4 (fun e => e)
      have F4 := F2.out.then f4
      have hB4 : ZnB w4 _ z := hB2.out.fr f4 (fun e => e)
      clear a0 a1 a2 a3 a4 a5 a6 a7 hA2 s2 F2 hB2 f4 M1
      obtain ⟨a0, a1, a2, a3, a4, a5, a6, a7⟩ := znB_cells hB4
      obtain ⟨b0, b1, b2, b3, b4, b5, b6, b7⟩ := znB_cells hA4
      obtain ⟨z0, z1, z2, z3, z4, z5, z6, z7⟩ := znB_froz hA4
      have HA := Lib.hid (setZn_B hA4 z)
      have HS := Lib.hid (s4.fr (setZn_fr w4 R z) (fun e => by have : g = R := e; omega))
      have HF := Lib.hid (F4.fresh (setZn_fr w4 R z) (fun k e => by have : k = R := e; omega))
      clear hA4 hB4 s4 F4
      go_wp2
      exact bodyPost_ret (v := znV z) (ret_zn (p := 4) rfl _ _ R z rfl HA.out) rfl ⟨by rw [HY.out], by rw [HY.out]; exact HS.out, HF.out⟩
  · replace HN1 := Lib.hid (HN1.out rfl)
    clear HY HN2 hB2 M1
    go_wp2_with fail
    refine (fail_any g _ _ _ s2.out).mono ?_
    rintro e w5 ⟨rfl, s5, f5⟩
    have hA5 : ZnB w5 R noZn := hA2.out.fr f5 (fun e => by have : R = g := e; omega)
    have F5 := F2.out.trans f5
    obtain ⟨b0, b1, b2, b3, b4, b5, b6, b7⟩ := znB_cells hA5
    obtain ⟨z0, z1, z2, z3, z4, z5, z6, z7⟩ := znB_froz hA5
    have HA := Lib.hid (setZn_B hA5 noZn)
    have HS := Lib.hid (s5.fr (setZn_fr w5 R noZn) (fun e => by have : g = R := e; omega))
    have HF := Lib.hid (F5.fresh (setZn_fr w5 R noZn) (fun k e => by have : k = R := e; omega))
    clear hA5 s5 F5 f5
    go_wp2
    exact bodyPost_ret (v := znV noZn) (ret_zn (p := 4) rfl _ _ R noZn rfl HA.out) rfl ⟨by rw [HN1.out]; rfl, by rw [HN1.out]; exact HS.out, HF.out⟩
end Go.Proofs.YtheefloegbkflaaGreatDoor


namespace Go.Proofs.YtheefloegbkflaaGreatDoor
set_option linter.unusedVariables false
set_option linter.unusedSimpArgs false
set_option maxRecDepth 100000
open Go.RowKit

theorem SAt.lt {w : World} {g : Nat} {S : Nat → Prop} {l : List UInt8} {bad : Bool} (h : SAt w g S l bad) : g < w.heap.size := by
  obtain ⟨v, h1, _⟩ := h; exact h1.lt
theorem SAt.non {w w' : World} {g : Nat} {S : Nat → Prop} {l : List UInt8} {bad : Bool} (h : SAt w g S l bad) (hf : Fr Non w w') : SAt w' g S l bad := h.fr hf (fun e => e) (fun _ e => e.elim)
/-- a cell stored whole in a block that was made behind the source's -/
theorem SAt.setCl {w : World} {g R : Nat} {S : Nat → Prop} {l : List UInt8} {bad : Bool} (h : SAt w g S l bad) (hn : g ≠ R) (hB : ∀ v, Blk w g 88 #[v, .bool bad] → ∀ k, v.ownBlock = some k → k ≠ R) (n : Bool) (i : Int) (t : List UInt8) : SAt (setCl w R n i t) g S l bad := by
  obtain ⟨v, h1, h2, h3, h4, h5⟩ := h
  exact ⟨v, h1.fr (setCl_fr _ _ _ _ _) (fun e => hn e), h2.fr (setCl_fr _ _ _ _ _) (fun k hk e => hB v h1 k hk e), h3, h4, h5⟩

end Go.Proofs.YtheefloegbkflaaGreatDoor


namespace Go.Proofs.YtheefloegbkflaaGreatDoor
set_option linter.unusedVariables false
set_option linter.unusedSimpArgs false
set_option maxRecDepth 100000
open Go.RowKit

theorem tkC_nil (ty : Int) : tkC ty [] = (⟨false, 0, []⟩, [], true) := by
  have h : (rdC ty []).2.2 = true := by
    have e1 : mostV [] 1 = 0 := by unfold mostV; split <;> rfl
    rw [rdC_null e1]
    unfold mostB; split <;> rfl
  exact tkC_bad h
/-- a source that failed behind the numbers: nothing is taken -/
theorem tkZ_early {ty : Int} {l : List UInt8} (h : mostB (mostR l 4096) 4096 = true) : tkZ ty l = (noZn, [], true) := by
  apply tkZ_bad
  unfold rdZ
  rw [mostB_R h, tkC_nil, tkC_nil]
  split
  · rfl
  · exact h
/-- the document's source behind a store into a block of its own -/
theorem SAt.st {w w' : World} {g G : Nat} {S : Nat → Prop} {l : List UInt8} {bad : Bool} (h : SAt w g S l bad) (hf : Fr (One G) w w') (hn : g ≠ G) (hS : S G) : SAt w' g S l bad :=
  h.fr hf (fun e => hn e) (fun k e => by rw [show k = G from e]; exact hS)
end Go.Proofs.YtheefloegbkflaaGreatDoor


namespace Go.Proofs.YtheefloegbkflaaGreatDoor
set_option linter.unusedVariables false
set_option linter.unusedSimpArgs false
set_option maxRecDepth 100000
open Go.RowKit

/-- a cell that may be is read again out of its bytes -/
theorem tkC_own {ty : Int} {c : Cl} (hc : ClOk c) (hm : mayC ty true c = true) (r : List UInt8) : tkC ty (cellB ty c ++ r) = (c, r, false) := by
  have hrd : rdC ty (cellB ty c ++ r) = (c, r, false) := by
    obtain ⟨n, i, t⟩ := c
    have ht : ty = 1 ∨ ty = 2 ∨ ty = 3 := by
      by_cases h1 : ty = 1
      · exact .inl h1
      · by_cases h2 : ty = 2
        · exact .inr (.inl h2)
        · by_cases h3 : ty = 3
          · exact .inr (.inr h3)
          · rw [mayC_no h1 h2 h3] at hm; cases hm
    cases n
    · have h1 := fun x => most_own (n := 1) (m := 1) (by omega) (by decide) x
      rw [uv_one] at h1
      have hl := hc.lo; have hh := hc.hi
      dsimp only at hl hh
      by_cases h3 : ty = 3
      · subst h3
        simp [mayC, isTy] at hm
        obtain ⟨h0, h40⟩ := hm
        rw [cellB_txt rfl, List.append_assoc]
        obtain ⟨e1, e2, e3⟩ := h1 (textB t ++ r)
        obtain ⟨x1, x2, x3⟩ := txt_own (t := t) (r := r) (m := 40) (by omega) (by unfold two64; omega)
        rw [rdC_txt (by rw [e1]; decide), e2, x1, x2, x3, h0]
      · have h12 : ty = 1 ∨ ty = 2 := by omega
        have ht0 : t = [] := by
          rcases h12 with h | h <;> subst h <;> simp [mayC, isTy] at hm
          · exact hm
          · exact hm.1
        subst ht0
        rw [cellB_num rfl h12, List.append_assoc]
        obtain ⟨e1, e2, e3⟩ := h1 (Lib.uvarint (zig i) ++ r)
        obtain ⟨x1, x2, x3, _⟩ := rest_some (rd_own (zig_lt hl hh) r)
        rw [rdC_num (by rw [e1]; decide) h12, e2, x1, x2, x3, unzig_zig]
    · have h1 := most_own (n := 0) (m := 1) (by omega) (by decide) r
      rw [uv_zero] at h1
      have hz : i = 0 ∧ t = [] := by
        rcases ht with h | h | h <;> subst h <;> simp [mayC, isTy] at hm <;> exact hm
      obtain ⟨rfl, rfl⟩ := hz
      rw [cellB_null rfl, rdC_null h1.1, h1.2.1, h1.2.2]
  unfold tkC
  rw [hrd, if_pos ⟨rfl, hm⟩]

end Go.Proofs.YtheefloegbkflaaGreatDoor
