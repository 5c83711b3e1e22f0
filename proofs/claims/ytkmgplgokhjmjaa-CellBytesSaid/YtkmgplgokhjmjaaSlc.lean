/-
  Slices of one-celled elements of any type: what one reads as (Vs), a row of the call's own (Ow), and the steps over them: append of one, append of many, make, copy, cuts.
-/
import Derived.Test.YtkmgplgokhjmjaaRow
import Derived.Laws.CopyOwn
import Derived.Laws.OwnMore
namespace Go.Proofs.Ytkmgplgokhjmjaa
set_option linter.unusedVariables false
set_option linter.unusedSimpArgs false
set_option maxRecDepth 100000
open Go.RowKit

/-- the slice v reads as the list l, each element's cell being f of it -/
def Vs {α : Type} (f : α → Value) (w : World) (v : Value) (l : List α) : Prop :=
  ∃ A c, v = .slice A l.length c ∧ l.length ≤ c ∧ (A = none → c = 0) ∧ ∀ a, A = some a → ∀ j (h : j < l.length), w.cell? (a.add j) = some (f l[j])
/-- a row of the call's own, from block B on, of elements of type E -/
def Ow {α : Type} (f : α → Value) (E : TypeId) (w : World) (B : Nat) (v : Value) (l : List α) : Prop := w.ownsRow B E 1 v l.length (l.map f)

/-- T: slices of E, whose elements have one cell -/
structure El (T E : TypeId) (z : Value) (by_ : Nat) : Prop where
  under : Try.prog.underlying T = some (.slice E)
  info : (Try.prog.info? E).map (fun i => (i.zero, i.size, i.bytes)) = some (some z, 1, by_)
  cells : z.cells = #[z]
  small : by_ ≤ 64
  elem : Try.prog.elem T = E
  sz : ∀ w, (sizeOf (Try.prog.elem T)).run Try.prog w = .ok 1 w

section
variable {α : Type} {f : α → Value}

theorem Vs.nil_ (w : World) : Vs f w (.slice none 0 0) [] := ⟨none, 0, rfl, Nat.le_refl _, fun _ => rfl, fun _ h => by cases h⟩
theorem Vs.keep {w w' : World} {v : Value} {l : List α} (h : Vs f w v l) (hk : ∀ k, v.ownBlock = some k → k < w.heap.size → w'.heap[k]? = w.heap[k]?) : Vs f w' v l := by
  obtain ⟨A, c, rfl, h1, h2, h3⟩ := h
  refine ⟨A, c, rfl, h1, h2, fun a ha j hj => ?_⟩
  have := h3 a ha j hj
  subst ha
  have hb := World.block_lt_of_cell? w _ this
  rw [add_block] at hb
  rw [← this]
  exact World.cell?_of_block (by rw [add_block]; exact hk _ rfl hb)
theorem Vs.fr {S : Nat → Prop} {w w' : World} {v : Value} {l : List α} (h : Vs f w v l) (hf : Fr S w w') (hn : ∀ k, v.ownBlock = some k → ¬ S k) : Vs f w' v l :=
  h.keep fun k hk hlt => hf.block k hlt (hn k hk)
theorem Vs.non {w w' : World} {v : Value} {l : List α} (h : Vs f w v l) (hf : Fr Non w w') : Vs f w' v l := h.fr hf fun _ _ e => e
theorem Vs.drew {w : World} {v : Value} {l : List α} (h : Vs f w v l) : Vs f w.drew v l := h
theorem Vs.drewN {w : World} {v : Value} {l : List α} (h : Vs f w v l) (n : Nat) : Vs f (w.drewN n) v l := h
theorem Vs.shape {w : World} {v : Value} {l : List α} (h : Vs f w v l) : ∃ A c, v = .slice A l.length c := by
  obtain ⟨A, c, rfl, _⟩ := h; exact ⟨A, c, rfl⟩
/-- its address, where it has an element -/
theorem Vs.addr {w : World} {A : Option Addr} {n c : Nat} {l : List α} (h : Vs f w (.slice A n c) l) (hl : 0 < n) : ∃ a, A = some a ∧ n = l.length ∧ n ≤ c ∧ ∀ j (h : j < l.length), w.cell? (a.add j) = some (f l[j]) := by
  obtain ⟨A0, c0, he, h1, h2, h3⟩ := h
  simp only [Value.slice.injEq] at he
  obtain ⟨rfl, rfl, rfl⟩ := he
  cases A with
  | none => have := h2 rfl; omega
  | some a => exact ⟨a, rfl, rfl, h1, h3 a rfl⟩
/-- elements laid in a new block -/
theorem vs_row (w : World) (l : List α) (E : TypeId) (fr : Nat × Nat) : Vs f (w.alloc (.cells (l.map f).toArray E fr)) (.slice (some ⟨w.heap.size, 0, none⟩) l.length l.length) l := by
  refine ⟨_, _, rfl, Nat.le_refl _, (fun h => by cases h), fun a ha j hj => ?_⟩
  cases ha
  rw [Addr.add_lit, Nat.zero_add, cell_of_row _ w.heap.size j _ _ fr (heap_alloc_new w _)]
  simp [hj]
theorem Vs.pre {w : World} {A : Option Addr} {n c k : Nat} {l : List α} (h : Vs f w (.slice A n c) l) (hk : k ≤ n) : Vs f w (.slice A k c) (l.take k) := by
  obtain ⟨A0, c0, he, h1, h2, h3⟩ := h
  simp only [Value.slice.injEq] at he
  obtain ⟨rfl, rfl, rfl⟩ := he
  have hl : (l.take k).length = k := by rw [List.length_take]; omega
  refine ⟨A, c, by rw [hl], by rw [hl]; omega, h2, fun a ha j hj => ?_⟩
  rw [h3 a ha j (by rw [hl] at hj; omega)]
  simp

variable {E : TypeId}
theorem ow_nil (w : World) (B : Nat) : Ow f E w B (.slice none 0 0) [] := ⟨by simp, .inl ⟨rfl, rfl⟩⟩
theorem Ow.lt {w : World} {B : Nat} {v : Value} {l : List α} (h : Ow f E w B v l) : ∀ k, v.ownBlock = some k → B ≤ k ∧ k < w.heap.size := World.ownsRow.lt h
theorem Ow.vs {w : World} {B : Nat} {v : Value} {l : List α} (h : Ow f E w B v l) : Vs f w v l := by
  rcases h.2 with ⟨rfl, h0⟩ | ⟨g, cap, cur, rfl, _, _, hle, _, _, _⟩
  · have hl : l = [] := List.eq_nil_of_length_eq_zero h0
    subst hl; exact Vs.nil_ w
  · refine ⟨_, cap, rfl, hle, (fun h => by cases h), fun a ha j hj => ?_⟩
    cases ha
    exact World.ownsRow.cells h (g := g) rfl j _ (by simp [hj])
theorem Ow.shape {w : World} {B : Nat} {v : Value} {l : List α} (h : Ow f E w B v l) : ∃ A c, v = .slice A l.length c := h.vs.shape
theorem Ow.keep {w w' : World} {B : Nat} {v : Value} {l : List α} (h : Ow f E w B v l) (hk : ∀ k, v.ownBlock = some k → w'.heap[k]? = w.heap[k]?) : Ow f E w' B v l := row_keep h hk
theorem Ow.fr {S : Nat → Prop} {w w' : World} {B : Nat} {v : Value} {l : List α} (h : Ow f E w B v l) (hf : Fr S w w') (hn : ∀ k, v.ownBlock = some k → ¬ S k) : Ow f E w' B v l :=
  h.keep fun k hk => hf.block k (h.lt k hk).2 (hn k hk)
theorem Ow.non {w w' : World} {B : Nat} {v : Value} {l : List α} (h : Ow f E w B v l) (hf : Fr Non w w') : Ow f E w' B v l := h.fr hf fun _ _ e => e
theorem Ow.alloc {w : World} {B : Nat} {v : Value} {l : List α} (h : Ow f E w B v l) (o : Obj) : Ow f E (w.alloc o) B v l := h.non ((Fr.refl _ _).alloc o)
theorem Ow.drew {w : World} {B : Nat} {v : Value} {l : List α} (h : Ow f E w B v l) : Ow f E w.drew B v l := h
theorem Ow.drewN {w : World} {B : Nat} {v : Value} {l : List α} (h : Ow f E w B v l) (n : Nat) : Ow f E (w.drewN n) B v l := h
theorem Ow.mono {w : World} {B B' : Nat} {v : Value} {l : List α} (h : Ow f E w B v l) (hB : B' ≤ B) : Ow f E w B' v l := row_mono h hB
theorem Ow.kind {w : World} {B : Nat} {v : Value} {l : List α} (h : Ow f E w B v l) : ∀ k, v.ownBlock = some k → ∃ cur, w.heap[k]? = some (.cells cur E (0, 0)) := row_kind h
/-- where it has an element, it stands at a row's head -/
theorem Ow.row {w : World} {B : Nat} {v : Value} {l : List α} (h : Ow f E w B v l) (hn : 0 < l.length) : ∃ g cap, v = .slice (some ⟨g, 0, none⟩) l.length cap ∧ B ≤ g ∧ g < w.heap.size ∧ l.length ≤ cap ∧ cap ≤ maxLen := by
  rcases h.2 with ⟨rfl, h0⟩ | ⟨g, cap, cur, rfl, hb, hg, hle, hm, _⟩
  · omega
  · exact ⟨g, cap, rfl, hb, (Array.getElem?_eq_some_iff.1 hg).1, hle, hm⟩
theorem Ow.cell {w : World} {B g n cap : Nat} {l : List α} (h : Ow f E w B (.slice (some ⟨g, 0, none⟩) n cap) l) (hn : n = l.length) (j : Nat) (x : α) (hb : l[j]? = some x) : w.cell? ⟨g, j, none⟩ = some (f x) := by
  subst hn
  have hj : j < l.length := (List.getElem?_eq_some_iff.1 hb).1
  rw [World.ownsRow.cellAt h j (by omega), List.getElem?_map, hb]; rfl
theorem Ow.frozen {w : World} {B g n cap : Nat} {l : List α} (h : Ow f E w B (.slice (some ⟨g, 0, none⟩) n cap) l) (hn : n = l.length) (j : Nat) : w.frozen? ⟨g, j, none⟩ = false := by
  subst hn; exact World.ownsRow.frozenAt h j
theorem Ow.store {w : World} {B g n cap : Nat} {l : List α} (h : Ow f E w B (.slice (some ⟨g, 0, none⟩) n cap) l) (hn : n = l.length) (j : Nat) (x : α) : Ow f E (w.setCell ⟨g, j, none⟩ (f x)) B (.slice (some ⟨g, 0, none⟩) n cap) (l.set j x) := by
  subst hn
  have := (World.ownsRow.stored h j (f x)).1
  unfold Ow
  rw [List.length_set, List.map_set]
  exact this
theorem ow_lit (w : World) (B g : Nat) (l : List α) (cs : Array Value) (hcs : cs.toList = l.map f) (hg : g = w.heap.size) (hB : B ≤ g) (hm : l.length ≤ maxLen) : Ow f E (w.alloc (.cells cs E)) B (.slice (some ⟨g, 0, none⟩) l.length l.length) l := by
  subst hg
  unfold Ow
  rw [← hcs]
  exact World.ownsRow_lit w cs l.length hB hm (by have := congrArg List.length hcs; simpa using this)
theorem ow_lit0 (w : World) (B g : Nat) (hg : g = w.heap.size) (hB : B ≤ g) : Ow f E (w.alloc (.cells #[] E)) B (.slice (some ⟨g, 0, none⟩) 0 0) [] :=
  ow_lit w B g [] #[] rfl hg hB (by unfold maxLen; simp)

/-! ### Steps -/
variable {T : TypeId} {z : Value} {by_ : Nat}
/-- append of one element, which was stored in a new block first -/
theorem wpList_pushG (hE : El T E z by_) (hf1 : ∀ x, (f x).oneCell' = true) {w0 : World} {ops : Array Oper} {rest : List Oper} {o : Oper} {a : Act} {Q : Exit → Act → World → Prop} (hgd : o.guard = none) (s x : Operand)
    (ho : o.op = .call { callee := .builtin .append, args := #[s, x], argTypes := #[T, T] })
    (B : Nat) (v : Value) (l : List α) (hs : a.eval s = v) (hown : Ow f E w0 B v l) (u : Value) (y : α) (hu : u = f y) (hx : a.eval x = .slice (some ⟨w0.heap.size, 0, none⟩) 1 1)
    (hl : l.length < 1099511627776) (hB : B ≤ w0.heap.size)
    (h : ∀ v' w', Ow f E w' B v' (l ++ [y]) → Fr (fun k => v.ownBlock = some k) w0 w' → wpList Try.prog ops Q rest (a.put o.dst v') w') :
    wpList Try.prog ops Q (o :: rest) a (w0.alloc (.cells #[u] E)) := by
  subst hu
  have hown' : w0.ownsRow B E 1 v (l.map f).length (l.map f) := by rw [List.length_map]; exact hown
  have hs' := hE.small
  have hbl : ((l.map f).length + 1) * by_ ≤ 140737488355328 := by
    rw [List.length_map]
    have := Nat.mul_le_mul (show l.length + 1 ≤ 1099511627776 by omega) hs'
    omega
  obtain ⟨v', w', hr, h1, h2⟩ := run_pushv T E o.type z by_ hE.under hE.info (by rw [hE.cells]; rfl) w0 B v (f y) (l.map f) hown' (hf1 y) hbl (by rw [List.length_map]; unfold maxLen; omega) hB w0.heap.size rfl
  refine wpList_plain hgd fun K hK => ?_
  unfold Oper.wp execOp
  simp only [ho, resolve, invoke, builtin, Sem.run_bind, Sem.run_pure, Result.andThen_ok, List.map_toArray, List.map_cons, List.map_nil, hs, hx, hr]
  refine hK _ _ (h v' w' ?_ h2)
  unfold Ow
  simpa [List.map_append] using h1

/-- append of a slice's elements -/
theorem wpList_appG (hE : El T E z by_) (hf1 : ∀ x, (f x).oneCell' = true) {w : World} {ops : Array Oper} {rest : List Oper} {o : Oper} {a : Act} {Q : Exit → Act → World → Prop} (hgd : o.guard = none) (s x : Operand)
    (ho : o.op = .call { callee := .builtin .append, args := #[s, x], argTypes := #[T, T] })
    (B : Nat) (v y : Value) (l m : List α) (hs : a.eval s = v) (hown : Ow f E w B v l) (hx : a.eval x = y) (hy : Vs f w y m)
    (hl : l.length + m.length < 1099511627776) (hB : B ≤ w.heap.size)
    (h : ∀ v' w', Ow f E w' B v' (l ++ m) → Fr (fun k => v.ownBlock = some k) w w' → wpList Try.prog ops Q rest (a.put o.dst v') w') : wpList Try.prog ops Q (o :: rest) a w := by
  refine wpList_plain hgd fun K hK => ?_
  obtain ⟨i, hi, hz0, hz1, hz2⟩ := info_parts hE.info
  have hs' := hE.small
  have hzc : z.cells.size = 1 := by rw [hE.cells]; rfl
  have hbl : (l.length + m.length) * by_ ≤ 140737488355328 := by
    have := Nat.mul_le_mul (show l.length + m.length ≤ 1099511627776 by omega) hs'
    omega
  obtain ⟨A, c, rfl, hmc, hn, hcells⟩ := hy
  cases A with
  | some ad =>
    refine wp_append_own w s x T ho B E i z 1 by_ hE.under hi hz0 hz1 hz2 hzc (by omega) v l.length (l.map f) hs hown ad m.length c (m.map f) hx (by simp) ?_ (by intro u hu; obtain ⟨b, _, rfl⟩ := List.mem_map.1 hu; exact hf1 b) (by unfold maxLen; omega) (by omega) hB ?_
    · intro j u hu
      have hj : j < m.length := by simpa using (List.getElem?_eq_some_iff.1 hu).1
      rw [hcells ad rfl j hj]
      simpa [hj] using hu
    · intro v' w' h1 h2 _
      refine hK _ _ (h v' w' ?_ (Fr.of_grown h2))
      unfold Ow; simpa using h1
  | none =>
    have hm : m = [] := List.eq_nil_of_length_eq_zero (by have := hn rfl; omega)
    subst hm
    have hc : c = 0 := hn rfl
    subst hc
    have hrun := run_append_owned_none (P := Try.prog) (w := w) B T o.type E i 1 hE.under hi v l.length (l.map f) hown
    unfold Oper.wp
    have hx' : a.eval x = .slice none 0 0 := hx
    simp [execOp, ho, resolve, invoke, builtin, hs, hx', hrun, Result.andThen]
    exact hK _ _ (h v w (by simpa using hown) (Fr.refl _ _))

/-- 'make([]E, 0, n)' -/
theorem wpList_mkG (f : α → Value) (hE : El T E z by_) {w : World} {ops : Array Oper} {rest : List Oper} {o : Oper} {a : Act} {Q : Exit → Act → World → Prop} (hgd : o.guard = none) (x c : Operand)
    (ho : o.op = .makeSlice T x c) (kl kc : IntKind) (C : Int) (n : Nat) (hx : a.eval x = .int kl 0) (hc : a.eval c = .int kc C) (hC : C = (n : Int)) (hn : n ≤ 1099511627776)
    (h : ∀ v' w', Ow f E w' w.heap.size v' [] → Fr Non w w' → wpList Try.prog ops Q rest (a.put o.dst v') w') : wpList Try.prog ops Q (o :: rest) a w := by
  obtain ⟨i, hi, hz0, hz1, hz2⟩ := info_parts hE.info
  have hs' := hE.small
  have hbl : by_ * n ≤ 70368744177664 := by
    have := Nat.mul_le_mul hs' hn
    omega
  refine wpList_make_own w hgd x c T ho w.heap.size E i _ 1 hE.under hi hz0 hz1 kl kc C n hx hc hC (by rw [hz2]; omega) (by unfold maxLen; omega) (Nat.le_refl _) ?_
  intro w' h1 h2
  exact h _ _ h1 ((Fr.of_grown h2).mono fun k _ e => by cases e)

/-- 'make([]E, n)' -/
theorem wpList_mkfullG (hE : El T E z by_) (y : α) (hy : f y = z) {w : World} {ops : Array Oper} {rest : List Oper} {o : Oper} {a : Act} {Q : Exit → Act → World → Prop} (hgd : o.guard = none) (x c : Operand)
    (ho : o.op = .makeSlice T x c) (kl kc : IntKind) (C L : Int) (n : Nat) (hx : a.eval x = .int kl L) (hc : a.eval c = .int kc C) (hL : L = (n : Int)) (hC : C = (n : Int)) (hn : n ≤ 1099511627776)
    (h : ∀ w', Ow f E w' w.heap.size (.slice (some ⟨w.heap.size, 0, none⟩) n n) (List.replicate n y) → Fr Non w w' → wpList Try.prog ops Q rest (a.put o.dst (.slice (some ⟨w.heap.size, 0, none⟩) n n)) w') : wpList Try.prog ops Q (o :: rest) a w := by
  obtain ⟨i, hi, hz0, hz1, hz2⟩ := info_parts hE.info
  have hs' := hE.small
  have hbl : by_ * n ≤ 70368744177664 := by
    have := Nat.mul_le_mul hs' hn
    omega
  refine wpList_make_full w hgd x c T ho w.heap.size E i z 1 hE.under hi hz0 hz1 kl kc L C n hx hc hL hC (by rw [hz2]; omega) (by unfold maxLen; omega) (Nat.le_refl _) ?_
  intro w' h1 h2
  refine h _ ?_ ((Fr.of_grown h2).mono fun k _ e => by cases e)
  unfold Ow
  rw [hE.cells, Nat.mul_one, toList_madeCells_one] at h1
  rw [List.length_replicate, List.map_replicate, hy]
  exact h1

/-- copy into a row of the call's own -/
theorem wpList_copyG (hE : El T E z by_) (hf1 : ∀ x, (f x).oneCell' = true) {w : World} {ops : Array Oper} {rest : List Oper} {o : Oper} {a : Act} {Q : Exit → Act → World → Prop} (hgd : o.guard = none) (d s : Operand)
    (ho : o.op = .call { callee := .builtin .copy, args := #[d, s], argTypes := #[T, T] })
    (B : Nat) (v y : Value) (l m : List α) (hd : a.eval d = v) (hown : Ow f E w B v l) (hs : a.eval s = y) (hy : Vs f w y m)
    (h : ∀ w', Ow f E w' B v (m.take l.length ++ l.drop m.length) → Fr (fun k => v.ownBlock = some k) w w' → wpList Try.prog ops Q rest (a.put o.dst (goInt (Nat.min m.length l.length))) w') : wpList Try.prog ops Q (o :: rest) a w := by
  obtain ⟨i, hi, hz0, hz1, hz2⟩ := info_parts hE.info
  have hsz : (Try.prog.info? E).map (·.size) = some 1 := by rw [hi]; simp [hz1]
  obtain ⟨A, c, rfl, hmc, hn, hcells⟩ := hy
  by_cases h0 : Nat.min m.length l.length = 0
  · obtain ⟨A', c', rfl⟩ := hown.shape
    refine wpList_copy_nothing hgd d s T T ho E hE.under hsz A' A l.length c' m.length c hd hs h0 ?_
    have := h w (by
      have e : m.take l.length ++ l.drop m.length = l := by
        rcases Nat.min_eq_zero_iff.1 h0 with h1 | h1
        · rw [List.eq_nil_of_length_eq_zero h1]; simp
        · rw [List.eq_nil_of_length_eq_zero h1]; simp
      rw [e]; exact hown) (Fr.refl _ _)
    rw [h0] at this
    exact this
  · have hl0 : 0 < l.length ∧ 0 < m.length := by
      refine ⟨Nat.pos_of_ne_zero fun e => h0 ?_, Nat.pos_of_ne_zero fun e => h0 ?_⟩
      · rw [e]; exact Nat.min_eq_right (Nat.zero_le _)
      · rw [e]; exact Nat.min_eq_left (Nat.zero_le _)
    obtain ⟨hlen, hcase⟩ := hown
    rcases hcase with ⟨_, e⟩ | ⟨g, cap, cur, rfl, hb, hg, hle, hm, hcs, htk⟩
    · omega
    · cases A with
      | none => have := hn rfl; omega
      | some ad =>
        have hmin : Nat.min m.length l.length = min m.length l.length := rfl
        have hcn : ((m.take l.length).map f).length = Nat.min m.length l.length := by rw [List.length_map, List.length_take, hmin]; omega
        refine wpList_copy_own hgd d s T T ho E hE.under hsz g 0 l.length cap ad m.length c hd hs cur E hg ((m.take l.length).map f) hcn ?_ ?_ ?_ ?_
        · intro j u hu
          have hj : j < m.length := by have := (List.getElem?_eq_some_iff.1 hu).1; rw [hcn, hmin] at this; omega
          have hj2 : j < l.length := by have := (List.getElem?_eq_some_iff.1 hu).1; rw [hcn, hmin] at this; omega
          rw [hcells ad rfl j hj]
          simpa [hj, hj2] using hu
        · rw [hcn, hmin]; omega
        · intro u hu; obtain ⟨b, _, rfl⟩ := List.mem_map.1 hu; exact hf1 b
        · rw [hcn]
          refine h _ ?_ ?_
          · have hlen2 : (m.take l.length ++ l.drop m.length).length = l.length := by
              rw [List.length_append, List.length_take, List.length_drop]; omega
            unfold Ow
            refine ⟨by rw [List.length_map, Nat.mul_one], .inr ⟨g, cap, _, by rw [hlen2], hb, setRow_heap w g _ _ E _ hg, by rw [hlen2]; exact hle, hm, ?_, ?_⟩⟩
            · rw [hmin]; simp [List.length_take]; omega
            · rw [hlen2, Nat.mul_one]
              rw [Nat.mul_one] at htk
              refine List.ext_getElem? fun j => ?_
              have hc' : cur.toList.length = cap := by simpa using hcs
              rw [List.map_append, List.getElem?_take]
              by_cases hj : j < l.length
              · have hcur : cur.toList[j]? = (l.map f)[j]? := by
                  rw [← htk, List.getElem?_take, if_pos hj]
                rw [if_pos hj]
                simp only [List.take_zero, List.nil_append, Nat.zero_add, hmin]
                by_cases hjm : j < m.length
                · rw [List.getElem?_append_left (by rw [hcn, hmin]; omega), List.getElem?_append_left (by rw [hcn, hmin]; omega)]
                · have e1 : min m.length l.length = m.length := by omega
                  rw [List.getElem?_append_right (by rw [hcn, hmin]; omega), List.getElem?_append_right (by rw [hcn, hmin]; omega), hcn, hmin, e1]
                  rw [List.getElem?_drop, List.map_drop, List.getElem?_drop, show m.length + (j - m.length) = j by omega, hcur]
              · rw [if_neg hj]
                symm
                rw [List.getElem?_eq_none_iff]
                rw [List.length_append, hcn, List.length_map, List.length_drop, hmin]
                omega
          · refine ⟨rfl, rfl, rfl, by simp [World.setRow], fun k hk hnk => ?_⟩
            exact setRow_other w g k _ (fun e => hnk (by subst e; rfl))

/-! ### Pieces -/
theorem slice_loG (hE : El T E z by_) (A : Option Addr) (n c k : Nat) (kl : IntKind) (y : Int) (hy : y = (k : Int)) (hk : k ≤ n) (hn : n ≤ c) :
    ∃ A' c', (∀ W, (Instr.slice T (.slice A n c) (some (.int kl y)) none none).run Try.prog W = .ok (.slice A' (n - k) c') W) ∧
      (∀ {α : Type} (f : α → Value) W (l : List α), l.length = n → Vs f W (.slice A n c) l → Vs f W (.slice A' (n - k) c') (l.drop k)) ∧ (Value.slice A' (n - k) c').ownBlock = (Value.slice A n c).ownBlock := by
  subst hy
  refine ⟨if c = k then A else A.map (·.add k), c - k, fun W => ?_, ?_, ?_⟩
  · rw [run_slice_any W T A n c (by rw [hE.elem]; exact hE.under)]
    have hb : (Instr.sliceBounds true n c (some (.int kl (k : Int))) none none).run Try.prog W = .ok (k, n, c) W := by
      simp [Instr.sliceBounds, run_sliceBound, hk, hn]
    rw [hb]
    simp only [Result.andThen_ok, hE.sz]
    simp [sliced]
  · rintro α f W l hl ⟨A0, c0, he, h1, h2, h3⟩
    simp only [Value.slice.injEq] at he
    obtain ⟨rfl, hl', rfl⟩ := he
    refine ⟨if c = k then A else A.map (·.add k), c - k, by rw [List.length_drop, hl], by rw [List.length_drop]; omega, fun e => ?_, fun a ha j hj => ?_⟩
    · split at e
      · have := h2 e; omega
      · have := h2 (by simpa using e); omega
    · rw [List.length_drop] at hj
      rw [if_neg (by omega)] at ha
      cases A with
      | none => cases ha
      | some b =>
        obtain rfl : b.add k = a := by simpa using ha
        rw [add_add, h3 b rfl (k + j) (by omega)]
        simp
  · split
    · cases A <;> rfl
    · cases A <;> simp [Value.ownBlock, add_block]

theorem slice_lhG (hE : El T E z by_) (A : Option Addr) (n c k m : Nat) (kl kh : IntKind) (y x : Int) (hy : y = (k : Int)) (hx : x = (m : Int)) (hk : k ≤ m) (hm : m ≤ n) (hn : n ≤ c) :
    ∃ A' c', (∀ W, (Instr.slice T (.slice A n c) (some (.int kl y)) (some (.int kh x)) none).run Try.prog W = .ok (.slice A' (m - k) c') W) ∧
      (∀ {α : Type} (f : α → Value) W (l : List α), l.length = n → Vs f W (.slice A n c) l → Vs f W (.slice A' (m - k) c') ((l.drop k).take (m - k))) ∧ (Value.slice A' (m - k) c').ownBlock = (Value.slice A n c).ownBlock := by
  subst hy hx
  refine ⟨if c = k then A else A.map (·.add k), c - k, fun W => ?_, ?_, ?_⟩
  · rw [run_slice_any W T A n c (by rw [hE.elem]; exact hE.under)]
    have hb : (Instr.sliceBounds true n c (some (.int kl (k : Int))) (some (.int kh (m : Int))) none).run Try.prog W = .ok (k, m, c) W := by
      simp [Instr.sliceBounds, run_sliceBound, hk, show m ≤ c by omega]
    rw [hb]
    simp only [Result.andThen_ok, hE.sz]
    simp [sliced]
  · rintro α f W l hl ⟨A0, c0, he, h1, h2, h3⟩
    simp only [Value.slice.injEq] at he
    obtain ⟨rfl, hl', rfl⟩ := he
    refine ⟨if c = k then A else A.map (·.add k), c - k, by rw [List.length_take, List.length_drop, hl]; congr 1; omega, by rw [List.length_take, List.length_drop]; omega, fun e => ?_, fun a ha j hj => ?_⟩
    · split at e
      · have := h2 e; omega
      · have := h2 (by simpa using e); omega
    · rw [List.length_take, List.length_drop] at hj
      rw [if_neg (by omega)] at ha
      cases A with
      | none => cases ha
      | some b =>
        obtain rfl : b.add k = a := by simpa using ha
        rw [add_add, h3 b rfl (k + j) (by omega)]
        simp
  · split
    · cases A <;> rfl
    · cases A <;> simp [Value.ownBlock, add_block]

theorem slice_hiG (hE : El T E z by_) (A : Option Addr) (n c k : Nat) (kl : IntKind) (y : Int) (hy : y = (k : Int)) (hk : k ≤ n) (hn : n ≤ c) :
    ∃ A' c', (∀ W, (Instr.slice T (.slice A n c) none (some (.int kl y)) none).run Try.prog W = .ok (.slice A' k c') W) ∧
      (∀ {α : Type} (f : α → Value) W (l : List α), l.length = n → Vs f W (.slice A n c) l → Vs f W (.slice A' k c') (l.take k)) ∧ (Value.slice A' k c').ownBlock = (Value.slice A n c).ownBlock := by
  subst hy
  refine ⟨if c = 0 then A else A.map (·.add 0), c, fun W => ?_, ?_, ?_⟩
  · rw [run_slice_any W T A n c (by rw [hE.elem]; exact hE.under)]
    have hb : (Instr.sliceBounds true n c none (some (.int kl (k : Int))) none).run Try.prog W = .ok (0, k, c) W := by
      simp [Instr.sliceBounds, run_sliceBound, show (k : Int) ≤ c by omega]
    rw [hb]
    simp only [Result.andThen_ok, hE.sz]
    simp [sliced]
  · rintro α f W l hl ⟨A0, c0, he, h1, h2, h3⟩
    simp only [Value.slice.injEq] at he
    obtain ⟨rfl, hl', rfl⟩ := he
    refine ⟨if c = 0 then A else A.map (·.add 0), c, by rw [List.length_take, hl, Nat.min_eq_left hk], by rw [List.length_take]; omega, fun e => ?_, fun a ha j hj => ?_⟩
    · split at e
      · have := h2 e; omega
      · have := h2 (by simpa using e); omega
    · rw [List.length_take] at hj
      rw [if_neg (by omega)] at ha
      cases A with
      | none => cases ha
      | some b =>
        obtain rfl : b.add 0 = a := by simpa using ha
        rw [add_add, h3 b rfl (0 + j) (by omega)]
        simp
  · split
    · cases A <;> rfl
    · cases A <;> simp [Value.ownBlock, add_block]
end

/-- how many elements a slice has -/
def slLen : Value → Nat
  | .slice _ n _ => n
  | _ => 0
theorem slLen_vs {α : Type} {f : α → Value} {w : World} {v : Value} {l : List α} (h : Vs f w v l) : slLen v = l.length := by
  obtain ⟨A, c, rfl⟩ := h.shape; rfl

/-! ### Truths, whole numbers, bytes -/
def tv (b : Bool) : Value := .bool b
theorem tv_one (b : Bool) : (tv b).oneCell' = true := rfl
theorem bv_oneC (b : UInt8) : (bv b).oneCell' = true := rfl
theorem iv_oneC (n : Int) : (iv n).oneCell' = true := rfl
theorem el_u8 : El 30 5 (.int .u8 0) 1 := ⟨Try.underlying30, by kernel_rfl, rfl, by decide, by kernel_rfl, fun _ => by kernel_rfl⟩
theorem Bs.vs {w : World} {v : Value} {l : List UInt8} (h : Bs w v l) : Vs bv w v l := h
theorem Vs.bs {w : World} {v : Value} {l : List UInt8} (h : Vs bv w v l) : Bs w v l := h
theorem Own.ow {w : World} {B : Nat} {v : Value} {l : List UInt8} (h : Own w B v l) : Ow bv 5 w B v l := h
theorem Ow.own {w : World} {B : Nat} {v : Value} {l : List UInt8} (h : Ow bv 5 w B v l) : Own w B v l := h

end Go.Proofs.Ytkmgplgokhjmjaa
