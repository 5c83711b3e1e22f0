/-
  Joined: Predicates asked of rows: which truth. Nothing of the program but what a cell's value is. · Layer 11: a zone as a value; which zones there may be, and which cells they have, both programs'. · Layer 11: what a zone of cells is: how many, how many null, the least and the greatest of the others. Nothing of the program. · Predicates asked of zones: which truths there may be; each row's truth is one of them. Nothing of the program. · A column of rows. Nothing of the program. · Rows' zones are such as may be, and each row's cells are in them; who is skipped. Nothing of the program. · Layer 11: the closure that notes a cell in a zone. · Slices of cells: what one reads as (Cs), a row of the call's own (Oc), and the steps over them. · Layer 11: the zone of a list's cells, the program's. · Layer 21: slices of zones; which truths there may be, as a value and in a block; the table of opposites. · Layer 11: which cells a zone has, which zones there may be, both programs'. · Layer 21: the program's small functions: is one not null, not, and, or; may a cell be as a comparison says. · Layer 11: which zones there may be, both programs'. · Layer 17: a predicate as a value; slices of them, read as trees; two compared but for what is within them, both programs'. · Slices of texts: a text's cell; what their type is. · Layer 12: letters, digits, words. · Layer 12: which texts may be names, both programs'. · Layer 17: which predicates may be but for what is within them, the program's.
-/
import Derived.Lib.Zigzag
import Derived.Deep.RegionHeld3
import Derived.Test.YtpmipdnmhffkeaaDoorZ1
import Derived.WalkMore
import Derived.Laws.ResultCell
import Derived.Laws.Rows
import Derived.Laws.RangeAny
import Derived.BigQuiet

namespace Go.Proofs.YtpmipdnmhffkeaaDoor
set_option linter.unusedVariables false
set_option linter.unusedSimpArgs false
set_option maxRecDepth 100000
open Go.RowKit

def agrI (op n : Int) : Bool := if op = 1 then n == 0 else if op = 2 then n != 0 else if op = 3 then decide (n < 0) else if op = 4 then decide (n ≤ 0) else if op = 5 then decide (0 < n) else decide (0 ≤ n)
def yesI (b : Bool) : Int := if b then 1 else 0
def notI (t : Int) : Int := if t = 1 then 0 else if t = 0 then 1 else 2
/-- one that decides, if it is there; else the unknown, if it is there; else the other -/
def chnI (s k : Int) (l : List Int) : Int := if s ∈ l then s else if (2 : Int) ∈ l then 2 else k
/-- the row's cell in that column -/
def cellN (cols : List Co) (row : List Cl) (n : Tx) : Cl := match findC cols n with | some k => row.getD k zCl | none => zCl
def cmpR (op : Int) (c v : Cl) : Int := if c.null then 2 else yesI (agrI op (ordC c v))
def likR (c : Cl) (p : Tx) : Int := if c.null then 2 else yesI (matchU p c.txt)
def truH (cols : List Co) (row : List Cl) (h : Ph) (ts : List Int) : Int :=
  if h.op = 2 then cmpR h.cmp (cellN cols row h.col) h.val
  else if h.op = 3 then yesI (cellN cols row h.col).null
  else if h.op = 4 then likR (cellN cols row h.col) h.pat
  else if h.op = 5 then notI (ts.headD 0)
  else if h.op = 6 then chnI 0 1 ts
  else if h.op = 7 then chnI 1 0 ts
  else 1
mutual
def truP (cols : List Co) (row : List Cl) : Pd → Int | .mk h ks => truH cols row h (truL cols row ks)
def truL (cols : List Co) (row : List Cl) : List Pd → List Int | [] => [] | k :: r => truP cols row k :: truL cols row r
end
theorem truL_map (cols : List Co) (row : List Cl) (l : List Pd) : truL cols row l = l.map (truP cols row) := by
  induction l with
  | nil => rfl
  | cons k r ih => rw [truL, ih]; rfl
theorem tru_is (cols : List Co) (row : List Cl) (h : Ph) (ks : List Pd) : truP cols row (.mk h ks) = truH cols row h (ks.map (truP cols row)) := by rw [truP, truL_map]
/-- a truth -/
def Tru (t : Int) : Prop := t = 0 ∨ t = 1 ∨ t = 2
theorem tru_yes (b : Bool) : Tru (yesI b) := by cases b <;> simp [yesI, Tru]
theorem tru_not (t : Int) : Tru (notI t) := by unfold notI Tru; split <;> (try split) <;> simp
theorem tru_chn {s k : Int} (hs : Tru s) (hk : Tru k) (l : List Int) : Tru (chnI s k l) := by
  unfold chnI; split
  · exact hs
  · split
    · exact .inr (.inr rfl)
    · exact hk
theorem tru_cmp (op : Int) (c v : Cl) : Tru (cmpR op c v) := by
  unfold cmpR; split
  · exact .inr (.inr rfl)
  · exact tru_yes _
theorem tru_lik (c : Cl) (p : Tx) : Tru (likR c p) := by
  unfold likR; split
  · exact .inr (.inr rfl)
  · exact tru_yes _
theorem tru_head (cols : List Co) (row : List Cl) (h : Ph) (ts : List Int) : Tru (truH cols row h ts) := by
  unfold truH
  split
  · exact tru_cmp ..
  split
  · exact tru_yes _
  split
  · exact tru_lik ..
  split
  · exact tru_not _
  split
  · exact tru_chn (.inl rfl) (.inr (.inl rfl)) _
  split
  · exact tru_chn (.inr (.inl rfl)) (.inl rfl) _
  · exact .inr (.inl rfl)
theorem tru_one (cols : List Co) (row : List Cl) (p : Pd) : Tru (truP cols row p) := by obtain ⟨h, ks⟩ := p; rw [truP]; exact tru_head ..
theorem not_sub {t : Int} (h : Tru t) (h2 : t ≠ 2) : 1 - t = notI t := by rcases h with rfl | rfl | rfl <;> simp_all [notI]
/-! ### One by one -/
theorem take_mem {l : List Int} {j : Nat} (h : j < l.length) (x : Int) : x ∈ l.take (j + 1) ↔ x ∈ l.take j ∨ x = l[j] := by
  rw [List.take_add_one, List.getElem?_eq_getElem h, List.mem_append]; simp
/-- which truths are among the first j -/
def HasTo (l : List Int) (j : Nat) (n m y : Bool) : Prop := n = decide ((0 : Int) ∈ l.take j) ∧ m = decide ((2 : Int) ∈ l.take j) ∧ y = decide ((1 : Int) ∈ l.take j)
theorem has_start (l : List Int) : HasTo l 0 false false false := ⟨by simp, by simp, by simp⟩
theorem has_more {l : List Int} {j : Nat} {n m y : Bool} (h : HasTo l j n m y) (hj : j < l.length) : HasTo l (j + 1) (n || l[j] == 0) (m || l[j] == 2) (y || l[j] == 1) := by
  have e : ∀ x : Int, (decide (x ∈ l.take j) || l[j] == x) = decide (x ∈ l.take (j + 1)) := fun x => by
    rw [Bool.eq_iff_iff]
    simp only [Bool.or_eq_true, decide_eq_true_eq, beq_iff_eq, take_mem hj x]
    constructor <;> (rintro (h | h)) <;> first | exact .inl h | exact .inr h.symm
  obtain ⟨rfl, rfl, rfl⟩ := h
  exact ⟨e 0, e 2, e 1⟩
theorem has_end {l : List Int} {j : Nat} {n m y : Bool} (h : HasTo l j n m y) (hj : l.length ≤ j) : chnI 0 1 l = (if n then 0 else if m then 2 else 1) ∧ chnI 1 0 l = (if y then 1 else if m then 2 else 0) := by
  obtain ⟨rfl, rfl, rfl⟩ := h
  rw [List.take_of_length_le hj]
  unfold chnI
  simp only [decide_eq_true_eq]
  exact ⟨trivial, trivial⟩

/-! ### What fits, and a row that may be -/
theorem row_at {cols : List Co} {row : List Cl} (h : rowB cols row = true) : cols.length = row.length ∧ ∀ j (h : j < cols.length) (h2 : j < row.length), mayC cols[j].ty cols[j].nl row[j] = true := of_decide_eq_true h
theorem hd_ways {h : Ph} {ks : List Pd} (e : hdOk h ks = true) :
    (h.op = 1 ∧ ks.length = 0 ∧ h.col = []) ∨ ((h.op = 2 ∨ h.op = 3 ∨ h.op = 4) ∧ ks.length = 0 ∧ askOk h = true) ∨ (h.op = 5 ∧ ks.length = 1 ∧ h.col = []) ∨ ((h.op = 6 ∨ h.op = 7) ∧ 1 < ks.length ∧ h.col = []) := by
  have bare : bareH h = true → h.col = [] := fun hb => by
    have := of_decide_eq_true hb
    rw [this]
  unfold hdOk at e
  split at e
  · rename_i h1
    rw [Bool.and_eq_true, decide_eq_true_eq] at e
    exact .inl ⟨h1, e.1, bare e.2⟩
  split at e
  · rename_i h1
    rw [Bool.and_eq_true, decide_eq_true_eq] at e
    exact .inr (.inl ⟨h1, e.1, e.2⟩)
  split at e
  · rename_i h1
    rw [Bool.and_eq_true, decide_eq_true_eq] at e
    exact .inr (.inr (.inl ⟨h1, e.1, bare e.2⟩))
  split at e
  · rename_i h1
    rw [Bool.and_eq_true, Bool.and_eq_true, decide_eq_true_eq] at e
    exact .inr (.inr (.inr ⟨h1, e.1.1, bare e.1.2⟩))
  · cases e
theorem one_kids {h : Ph} {ks : List Pd} (e : oneP (.mk h ks) = true) : hdOk h ks = true ∧ ∀ k ∈ ks, oneP k = true := by
  rw [oneP, Bool.and_eq_true, oneL_all] at e
  exact ⟨e.1, List.all_eq_true.1 e.2⟩
theorem typ_kids {cols : List Co} {h : Ph} {ks : List Pd} (e : typP cols (.mk h ks) = true) : okT cols h = true ∧ ∀ k ∈ ks, typP cols k = true := by
  rw [typP, Bool.and_eq_true, typL_all] at e
  exact ⟨e.1, List.all_eq_true.1 e.2⟩
theorem name_some {n : Tx} (h : nameB n = true) : n ≠ [] := by
  rintro rfl
  revert h
  decide
/-- one that asks of a column: the column is there, of the right type -/
theorem ask_col {cols : List Co} {row : List Cl} {h : Ph} (ho : h.op = 2 ∨ h.op = 3 ∨ h.op = 4) (ha : askOk h = true) (ht : okT cols h = true) (hr : rowB cols row = true) :
    h.col ≠ [] ∧ ∃ (k : Nat) (h1 : k < cols.length) (h2 : k < row.length), findC cols h.col = some k ∧ cellN cols row h.col = row[k] ∧ mayC cols[k].ty cols[k].nl row[k] = true ∧
      (h.op = 2 → cols[k].ty = h.kind ∧ mayC h.kind false h.val = true) ∧ (h.op = 4 → cols[k].ty = 3) := by
  obtain ⟨hl, hm⟩ := row_at hr
  unfold askOk at ha
  rw [Bool.and_eq_true] at ha
  have hne := name_some ha.1
  refine ⟨hne, ?_⟩
  unfold okT at ht
  rw [if_neg hne] at ht
  split at ht
  · cases ht
  · rename_i k hk
    have h1 := find_lt hk
    have h2 : k < row.length := by omega
    rw [List.getElem?_eq_getElem h1] at ht
    dsimp only at ht
    refine ⟨k, h1, h2, hk, ?_, hm k h1 h2, ?_, ?_⟩
    · unfold cellN; rw [hk]; dsimp only; rw [List.getD_eq_getElem?_getD, List.getElem?_eq_getElem h2]; rfl
    · intro e
      rw [if_pos e] at ht
      have ha2 := ha.2
      rw [if_pos e, Bool.and_eq_true, Bool.and_eq_true] at ha2
      exact ⟨by simpa using ht, ha2.1.2⟩
    · intro e
      rw [if_neg (by omega), if_pos e] at ht
      simpa using ht

/-! ### The orders of two values -/
theorem may_null {ty : Int} {c : Cl} (h : mayC ty false c = true) : c.null = false := by
  unfold mayC at h
  cases e : c.null
  · rfl
  · rw [e] at h; simp at h
theorem mayC_text {nl : Bool} {c : Cl} (h : mayC 3 nl c = true) : c.txt.length ≤ 40 := by
  unfold mayC at h
  cases e : c.null
  · rw [e] at h; simp at h; exact h.2.2
  · rw [e] at h; simp at h
    rw [h.2.2.2]; simp

/-! ### Of a row, of rows -/
def rowE (cols : List Co) (p : Pd) (row : List Cl) : Int × Int := if fitP cols p = 0 then (if rowB cols row = true then (truP cols row p, 0) else (0, 10)) else (0, fitP cols p)
theorem rowE_bad {cols : List Co} {p : Pd} {row : List Cl} (h : fitP cols p ≠ 0) : rowE cols p row = (0, fitP cols p) := by unfold rowE; rw [if_neg h]
theorem rowE_type {cols : List Co} {p : Pd} {row : List Cl} (h : fitP cols p = 0) (hr : rowB cols row = false) : rowE cols p row = (0, 10) := by unfold rowE; rw [if_pos h, if_neg (by rw [hr]; simp)]
theorem rowE_ok {cols : List Co} {p : Pd} {row : List Cl} (h : fitP cols p = 0) (hr : rowB cols row = true) : rowE cols p row = (truP cols row p, 0) := by unfold rowE; rw [if_pos h, if_pos hr]
def plcI (cols : List Co) (p : Pd) (rows : List (List Cl)) (n : Nat) : List Int := ((List.range n).filter fun i => truP cols (rows.getD i []) p == 1).map fun (i : Nat) => (i : Int)
theorem plc_yes {cols : List Co} {p : Pd} {rows : List (List Cl)} {n : Nat} (h : n < rows.length) (e : truP cols rows[n] p = 1) : plcI cols p rows (n + 1) = plcI cols p rows n ++ [(n : Int)] := by
  unfold plcI
  rw [List.range_succ, List.filter_append, List.map_append]
  congr 1
  rw [List.filter_cons, if_pos (by rw [List.getD_eq_getElem?_getD, List.getElem?_eq_getElem h]; simpa using e)]; rfl
theorem plc_no {cols : List Co} {p : Pd} {rows : List (List Cl)} {n : Nat} (h : n < rows.length) (e : truP cols rows[n] p ≠ 1) : plcI cols p rows (n + 1) = plcI cols p rows n := by
  unfold plcI
  rw [List.range_succ, List.filter_append, List.map_append]
  have : ([n].filter fun i => truP cols (rows.getD i []) p == 1) = [] := by
    rw [List.filter_cons, if_neg (by rw [List.getD_eq_getElem?_getD, List.getElem?_eq_getElem h]; simpa using e)]; rfl
  rw [this]; simp
theorem plcI_len (cols : List Co) (p : Pd) (rows : List (List Cl)) (n : Nat) : (plcI cols p rows n).length ≤ n := by
  unfold plcI
  rw [List.length_map]
  have := List.length_filter_le (fun i => truP cols (rows.getD i []) p == 1) (List.range n)
  rw [List.length_range] at this
  exact this
def rowsE (cols : List Co) (p : Pd) (rows : List (List Cl)) : List Int × Int := if fitP cols p = 0 then (if rows.all (rowB cols) = true then (plcI cols p rows rows.length, 0) else ([], 10)) else ([], fitP cols p)
theorem rowsE_bad {cols : List Co} {p : Pd} {rows : List (List Cl)} (h : fitP cols p ≠ 0) : rowsE cols p rows = ([], fitP cols p) := by unfold rowsE; rw [if_neg h]
theorem rowsE_type {cols : List Co} {p : Pd} {rows : List (List Cl)} {k : Nat} (h : fitP cols p = 0) (hk : k < rows.length) (hr : rowB cols rows[k] = false) : rowsE cols p rows = ([], 10) := by
  unfold rowsE; rw [if_pos h, if_neg]
  rw [List.all_eq_true]
  intro e
  have := e _ (List.getElem_mem hk)
  rw [hr] at this; cases this
theorem rowsE_ok {cols : List Co} {p : Pd} {rows : List (List Cl)} {k : Nat} (h : fitP cols p = 0) (hk : rows.length ≤ k) (hr : ∀ j (h : j < rows.length), j < k → rowB cols rows[j] = true) : rowsE cols p rows = (plcI cols p rows rows.length, 0) := by
  unfold rowsE; rw [if_pos h, if_pos]
  rw [List.all_eq_true]
  intro x hx
  obtain ⟨j, hj, rfl⟩ := List.mem_iff_getElem.1 hx
  exact hr j hj (by omega)
theorem rows_more {cols : List Co} {rows : List (List Cl)} {k : Nat} (hr : ∀ j (h : j < rows.length), j < k → rowB cols rows[j] = true) (hk : k < rows.length) (e : rowB cols rows[k] = true) : ∀ j (h : j < rows.length), j < k + 1 → rowB cols rows[j] = true := by
  intro j hj hlt
  by_cases e2 : j = k
  · subst e2; exact e
  · exact hr j hj (by omega)
theorem fit_zero {cols : List Co} {p : Pd} (h : fitP cols p = 0) : chkC cols = 0 ∧ oneP p = true ∧ typP cols p = true := by
  unfold fitP at h
  split at h
  · cases h
  · rename_i h1
    split at h
    · rename_i h2
      refine ⟨Classical.byContradiction fun e => h1 (.inr e), ?_, h2⟩
      have hm : mayP p = true := by
        cases e : mayP p
        · exact absurd (.inl e) h1
        · rfl
      unfold mayP at hm
      rw [Bool.and_eq_true] at hm
      exact hm.2
    · cases h

/-! ### Nots -/
end Go.Proofs.YtpmipdnmhffkeaaDoor


namespace Go.Proofs.YtpmipdnmhffkeaaDoor
set_option linter.unusedVariables false
set_option linter.unusedSimpArgs false
set_option maxRecDepth 100000
open Go.RowKit

/-- a zone: how many cells, how many of them null, the least and the greatest of the others -/
structure Zn where
  rows : Int
  nulls : Int
  low : Cl
  high : Cl
  deriving DecidableEq
/-- its cells, and its value -/
def znC (z : Zn) : Array Value := #[.int .i64 z.rows, .int .i64 z.nulls, .bool z.low.null, .int .i64 z.low.num, .string ⟨z.low.txt.toArray⟩, .bool z.high.null, .int .i64 z.high.num, .string ⟨z.high.txt.toArray⟩]
def znV (z : Zn) : Value := .agg (znC z)
def noCl : Cl := ⟨false, 0, []⟩
def noZn : Zn := ⟨0, 0, noCl, noCl⟩
/-- the zone z lies in block g -/
abbrev ZnB (w : World) (g : Nat) (z : Zn) : Prop := Blk w g 33 (znC z)
/-- what a walk asks of it -/
def ZCells (w : World) (g : Nat) (z : Zn) : Prop :=
  w.cell? ⟨g, 0, none⟩ = some (.int .i64 z.rows) ∧ w.cell? ⟨g, 1, none⟩ = some (.int .i64 z.nulls) ∧
  w.cell? ⟨g, 2, none⟩ = some (.bool z.low.null) ∧ w.cell? ⟨g, 3, none⟩ = some (.int .i64 z.low.num) ∧ w.cell? ⟨g, 4, none⟩ = some (.string ⟨z.low.txt.toArray⟩) ∧
  w.cell? ⟨g, 5, none⟩ = some (.bool z.high.null) ∧ w.cell? ⟨g, 6, none⟩ = some (.int .i64 z.high.num) ∧ w.cell? ⟨g, 7, none⟩ = some (.string ⟨z.high.txt.toArray⟩)
def ZFroz (w : World) (g : Nat) : Prop :=
  w.frozen? ⟨g, 0, none⟩ = false ∧ w.frozen? ⟨g, 1, none⟩ = false ∧ w.frozen? ⟨g, 2, none⟩ = false ∧ w.frozen? ⟨g, 3, none⟩ = false ∧
  w.frozen? ⟨g, 4, none⟩ = false ∧ w.frozen? ⟨g, 5, none⟩ = false ∧ w.frozen? ⟨g, 6, none⟩ = false ∧ w.frozen? ⟨g, 7, none⟩ = false
theorem znB_cells {w : World} {g : Nat} {z : Zn} (h : ZnB w g z) : ZCells w g z :=
  ⟨h.cell 0, h.cell 1, h.cell 2, h.cell 3, h.cell 4, h.cell 5, h.cell 6, h.cell 7⟩
theorem znB_froz {w : World} {g : Nat} {z : Zn} (h : ZnB w g z) : ZFroz w g :=
  ⟨h.frozen 0, h.frozen 1, h.frozen 2, h.frozen 3, h.frozen 4, h.frozen 5, h.frozen 6, h.frozen 7⟩
/-- a zone, and behind it a cell -/
structure ZnCl (w : World) (g : Nat) (z : Zn) (c : Cl) : Prop where
  one : ZnB w g z
  two : ClB w (g + 1) c
theorem ZnCl.non {w w' : World} {g : Nat} {z : Zn} {c : Cl} (h : ZnCl w g z c) (hf : Fr Non w w') : ZnCl w' g z c := ⟨h.one.fr hf (fun e => e), h.two.fr hf (fun e => e)⟩
theorem znCl_new (w : World) (g : Nat) (z : Zn) (c : Cl) (hg : g = w.heap.size) : ZnCl ((w.alloc (.cells (znC z) 33)).alloc (.cells (clC c) 24)) g z c := by
  subst hg
  refine ⟨(Blk.new _ _ _).fr ((Fr.refl Non _).alloc _) (fun e => e), ?_⟩
  have h : ClB ((w.alloc (.cells (znC z) 33)).alloc (.cells (clC c) 24)) (w.alloc (.cells (znC z) 33)).heap.size c := Blk.new _ _ _
  rw [show (w.alloc (.cells (znC z) 33)).heap.size = w.heap.size + 1 by simp] at h
  exact h

/-! ### Which zones there may be -/
/-- is there a least and a greatest? -/
def bndZ (z : Zn) : Bool := decide (z.nulls < z.rows)
def cntZ (z : Zn) : Bool := decide (0 ≤ z.nulls ∧ z.nulls ≤ z.rows ∧ z.rows ≤ 4096)
def mayZ (ty : Int) (z : Zn) : Bool :=
  cntZ z && isTy ty && (if bndZ z then mayC ty false z.low && mayC ty false z.high && decide (ordC z.low z.high ≤ 0) else ceq z.low noCl && ceq z.high noCl)
def hasZ (z : Zn) (c : Cl) : Bool := if c.null then decide (0 < z.nulls) else bndZ z && decide (ordC z.low c ≤ 0) && decide (ordC c z.high ≤ 0)

theorem bnd_any (z : Zn) (w : World) : Calls Tryd.prog 59 #[znV z] w fun e w' => e = .returned (.bool (bndZ z)) ∧ Fr Non w w' := by
  unfold znV znC
  go_enter Tryd.func59, Tryd.ntmps59
  go_wp2
  go_ret
  exact ⟨rfl, (Fr.refl _ _).alloc _⟩

theorem cnt_zn (z : Zn) (w : World) : Calls Tryd.prog 57 #[znV z] w fun e w' => e = .returned (.bool (cntZ z)) ∧ Fr Non w w' := by
  unfold znV znC
  go_enter Tryd.func57, Tryd.ntmps57
  go_wp2
  all_goals
    go_ret
    exact ⟨ret_boolE (by unfold cntZ; first | (simp_all; done) | (simp_all; omega) | (simp; omega)), (Fr.refl _ _).alloc _⟩

theorem ist_zn (ty : Int) (w : World) : Calls Tryd.prog 58 #[.int .i64 ty] w fun e w' => e = .returned (.bool (isTy ty)) ∧ Fr Non w w' := by
  have HM := Lib.hid (may_any ty true ⟨true, 0, []⟩ w)
  have e1 : mayC ty true ⟨true, 0, []⟩ = isTy ty := by simp [mayC]
  rw [e1] at HM
  clear e1
  go_enter Tryd.func58, Tryd.ntmps58
  go_wp2_with fail
  refine HM.out.mono ?_
  rintro e w1 ⟨rfl, f1⟩
  go_wp2
  go_ret
  exact ⟨rfl, f1⟩
end Go.Proofs.YtpmipdnmhffkeaaDoor


namespace Go.Proofs.YtpmipdnmhffkeaaDoor
set_option linter.unusedVariables false
set_option linter.unusedSimpArgs false
set_option maxRecDepth 100000
open Go.RowKit

def liveC (l : List Cl) : List Cl := l.filter (fun c => !c.null)
def nulC (l : List Cl) : Nat := (l.filter (fun c => c.null)).length
theorem nulC_rest (l : List Cl) : nulC l + (liveC l).length = l.length := by
  unfold nulC liveC
  induction l with
  | nil => rfl
  | cons c l ih => cases h : c.null <;> simp [h] <;> omega
theorem liveC_app (l m : List Cl) : liveC (l ++ m) = liveC l ++ liveC m := by simp [liveC]
theorem nulC_app (l m : List Cl) : nulC (l ++ m) = nulC l + nulC m := by simp [nulC]
theorem liveC_null {c : Cl} (h : c.null = true) : liveC [c] = [] := by simp [liveC, h]
theorem liveC_one {c : Cl} (h : c.null = false) : liveC [c] = [c] := by simp [liveC, h]
theorem nulC_null {c : Cl} (h : c.null = true) : nulC [c] = 1 := by simp [nulC, h]
theorem nulC_one {c : Cl} (h : c.null = false) : nulC [c] = 0 := by simp [nulC, h]
theorem mem_liveC {l : List Cl} {c : Cl} : c ∈ liveC l ↔ c ∈ l ∧ c.null = false := by simp [liveC]

/-- lo and hi are the least and the greatest of l -/
def Bnds (l : List Cl) (lo hi : Cl) : Prop := (l = [] ∧ lo = noCl ∧ hi = noCl) ∨ (lo ∈ l ∧ hi ∈ l ∧ ∀ c ∈ l, ordC lo c ≤ 0 ∧ ordC c hi ≤ 0)
theorem ordC_self (a : Cl) : ordC a a = 0 := by
  have := ordC_zero a a
  rw [ceq_self] at this; simpa using this
theorem bnds_step {l : List Cl} {lo hi : Cl} (h : Bnds l lo hi) (c : Cl) :
    Bnds (l ++ [c]) (if (l.isEmpty || decide (ordC c lo < 0)) = true then c else lo) (if (l.isEmpty || decide (0 < ordC c hi)) = true then c else hi) := by
  rcases h with ⟨rfl, _, _⟩ | ⟨h1, h2, h3⟩
  · right
    simp [ordC_self]
  · right
    have he : l.isEmpty = false := by cases l with
      | nil => cases h1
      | cons _ _ => rfl
    rw [he]
    simp only [Bool.false_or, decide_eq_true_eq]
    refine ⟨?_, ?_, ?_⟩
    · split <;> simp [h1]
    · split <;> simp [h2]
    · intro d hd
      rw [List.mem_append, List.mem_singleton] at hd
      have n1 := ordC_neg c lo
      have n2 := ordC_neg c hi
      rcases hd with hd | rfl
      · obtain ⟨q1, q2⟩ := h3 d hd
        constructor
        · split
          · exact ordC_trans (by omega) q1
          · exact q1
        · split
          · exact ordC_trans q2 (by omega)
          · exact q2
      · constructor
        · split
          · exact Int.le_of_eq (ordC_self _)
          · omega
        · split
          · exact Int.le_of_eq (ordC_self _)
          · omega

/-- a zone with one cell more noted -/
def noteZ (first : Bool) (z : Zn) (c : Cl) : Zn :=
  ⟨z.rows, z.nulls, if (first || decide (ordC c z.low < 0)) = true then c else z.low, if (first || decide (0 < ordC c z.high)) = true then c else z.high⟩
/-- z bounds l, which is empty if first is so -/
structure JInv (r n : Int) (l : List Cl) (z : Zn) (first : Bool) : Prop where
  rows : z.rows = r
  nulls : z.nulls = n
  first : first = l.isEmpty
  bnds : Bnds l z.low z.high
theorem jinv_start (r n : Int) : JInv r n [] ⟨r, n, noCl, noCl⟩ true := ⟨rfl, rfl, rfl, .inl ⟨rfl, rfl, rfl⟩⟩
theorem jinv_note {r n : Int} {l : List Cl} {z : Zn} {first : Bool} (h : JInv r n l z first) (c : Cl) : JInv r n (l ++ [c]) (noteZ first z c) false := by
  obtain ⟨h1, h2, rfl, h4⟩ := h
  exact ⟨h1, h2, by simp, bnds_step h4 c⟩
theorem jinv_null {r n m : Int} {l : List Cl} {z : Zn} {first : Bool} (h : JInv r n l z first) (hm : m = n + 1) : JInv r m l ⟨z.rows, z.nulls + 1, z.low, z.high⟩ first :=
  ⟨h.rows, by rw [hm, ← h.nulls], h.first, h.bnds⟩

/-- z is the zone of l -/
structure IsOf (l : List Cl) (z : Zn) : Prop where
  rows : z.rows = l.length
  nulls : z.nulls = nulC l
  bnds : Bnds (liveC l) z.low z.high
theorem jinv_end {l : List Cl} {z : Zn} {first : Bool} (h : JInv l.length (nulC l) (liveC l) z first) : IsOf l z := ⟨h.rows, h.nulls, h.bnds⟩
theorem jinv_yes {n : Int} {l : List Cl} {z : Zn} {first : Bool} {k : Nat} (hk : k < l.length) (h : JInv n (nulC (l.take k)) (liveC (l.take k)) z first) (hn : l[k].null = true) :
    JInv n (nulC (l.take (k + 1))) (liveC (l.take (k + 1))) ⟨z.rows, z.nulls + 1, z.low, z.high⟩ first := by
  rw [List.take_succ_eq_append_getElem hk, liveC_app, nulC_app, liveC_null hn, nulC_null hn, List.append_nil]
  exact jinv_null h (by simp)
theorem jinv_no {n : Int} {l : List Cl} {z : Zn} {first : Bool} {k : Nat} (hk : k < l.length) (h : JInv n (nulC (l.take k)) (liveC (l.take k)) z first) (hn : l[k].null = false) :
    JInv n (nulC (l.take (k + 1))) (liveC (l.take (k + 1))) (noteZ first z l[k]) false := by
  rw [List.take_succ_eq_append_getElem hk, liveC_app, nulC_app, liveC_one hn, nulC_one hn]
  exact jinv_note h _
theorem jinv_le {n : Int} {l : List Cl} {z : Zn} {first : Bool} {k : Nat} (hk : k ≤ l.length) (h : JInv n (nulC (l.take k)) (liveC (l.take k)) z first) : 0 ≤ z.nulls ∧ z.nulls ≤ k := by
  have e := nulC_rest (l.take k)
  rw [List.length_take, Nat.min_eq_left hk] at e
  rw [h.nulls]
  omega

/-! ### What follows -/
theorem isOf_bnd {l : List Cl} {z : Zn} (h : IsOf l z) : bndZ z = !(liveC l).isEmpty := by
  have e := nulC_rest l
  unfold bndZ
  rw [h.rows, h.nulls]
  cases hr : liveC l with
  | nil => rw [hr] at e; simp at e; simp; omega
  | cons a m => rw [hr] at e; simp at e; simp; omega
theorem isOf_has {l : List Cl} {z : Zn} {c : Cl} (h : IsOf l z) (hc : c ∈ l) : hasZ z c = true := by
  unfold hasZ
  cases hn : c.null with
  | true =>
    rw [if_pos rfl, h.nulls]
    have : c ∈ l.filter (fun c => c.null) := by simp [hc, hn]
    have := List.length_pos_of_mem this
    unfold nulC
    exact decide_eq_true (by omega)
  | false =>
    have hr : c ∈ liveC l := mem_liveC.2 ⟨hc, hn⟩
    rw [if_neg (by simp), isOf_bnd h]
    rcases h.bnds with ⟨e, _, _⟩ | ⟨_, _, h3⟩
    · rw [e] at hr; cases hr
    · have he : (liveC l).isEmpty = false := by cases hx : liveC l with
        | nil => rw [hx] at hr; cases hr
        | cons _ _ => rfl
      obtain ⟨q1, q2⟩ := h3 c hr
      rw [he]; simp [q1, q2]
theorem mayC_false {ty : Int} {c : Cl} (h : mayC ty true c = true) (hn : c.null = false) : mayC ty false c = true := by
  unfold mayC at *
  rw [hn] at h ⊢
  exact h
theorem isOf_may {ty : Int} {l : List Cl} {z : Zn} (h : IsOf l z) (ht : isTy ty = true) (hm : ∀ c ∈ l, mayC ty true c = true) (hl : l.length ≤ 4096) : mayZ ty z = true := by
  have e := nulC_rest l
  have hc : cntZ z = true := decide_eq_true (by rw [h.rows, h.nulls]; omega)
  unfold mayZ
  rw [hc, ht, isOf_bnd h]
  rcases h.bnds with ⟨q, q1, q2⟩ | ⟨h1, h2, h3⟩
  · rw [q, q1, q2]; simp [ceq_self]
  · have he : (liveC l).isEmpty = false := by cases hx : liveC l with
      | nil => rw [hx] at h1; cases h1
      | cons _ _ => rfl
    rw [he]
    obtain ⟨m1, n1⟩ := mem_liveC.1 h1
    obtain ⟨m2, n2⟩ := mem_liveC.1 h2
    simp [mayC_false (hm _ m1) n1, mayC_false (hm _ m2) n2, (h3 _ h2).1]
end Go.Proofs.YtpmipdnmhffkeaaDoor


namespace Go.Proofs.YtpmipdnmhffkeaaDoor
set_option linter.unusedVariables false
set_option linter.unusedSimpArgs false
set_option maxRecDepth 100000
open Go.RowKit

/-- which truths there may be -/
structure Tr where
  yes : Bool
  no : Bool
  maybe : Bool
  deriving DecidableEq
def hasT (t : Tr) (x : Int) : Bool := if x = 1 then t.yes else if x = 0 then t.no else t.maybe
def someZ (z : Zn) : Bool := decide (z.nulls < z.rows)
def nullZ (z : Zn) : Bool := decide (0 < z.nulls)
/-- may a cell from one to another one be as a comparison with a value says? -/
def rngI (op : Int) (low high v : Cl) : Bool :=
  if op = 1 then decide (ordC low v ≤ 0) && decide (0 ≤ ordC high v) else if op = 2 then ordC low v != 0 || ordC high v != 0 else if op = 3 then decide (ordC low v < 0) else if op = 4 then decide (ordC low v ≤ 0) else if op = 5 then decide (0 < ordC high v) else decide (0 ≤ ordC high v)
/-- the opposite comparison -/
def oppI (op : Int) : Int := if op = 1 then 2 else if op = 2 then 1 else if op = 3 then 6 else if op = 4 then 5 else if op = 5 then 4 else 3
def zoneN (cols : List Co) (zs : List Zn) (n : Tx) : Zn := match findC cols n with | some k => zs.getD k noZn | none => noZn
def allT2 (ts : List Tr) : Tr := ⟨ts.all (·.yes), ts.any (·.no), ts.any (·.maybe)⟩
def anyT2 (ts : List Tr) : Tr := ⟨ts.any (·.yes), ts.all (·.no), ts.any (·.maybe)⟩
def notT2 (t : Tr) : Tr := ⟨t.no, t.yes, t.maybe⟩
def noT : Tr := ⟨false, false, false⟩
def prnH (cols : List Co) (zs : List Zn) (h : Ph) (ts : List Tr) : Tr :=
  if h.op = 2 then (let z := zoneN cols zs h.col; ⟨someZ z && rngI h.cmp z.low z.high h.val, someZ z && rngI (oppI h.cmp) z.low z.high h.val, nullZ z⟩)
  else if h.op = 3 then ⟨nullZ (zoneN cols zs h.col), someZ (zoneN cols zs h.col), false⟩
  else if h.op = 4 then ⟨someZ (zoneN cols zs h.col), someZ (zoneN cols zs h.col), nullZ (zoneN cols zs h.col)⟩
  else if h.op = 5 then notT2 (ts.headD noT)
  else if h.op = 6 then allT2 ts
  else if h.op = 7 then anyT2 ts
  else ⟨true, false, false⟩
mutual
def prnP (cols : List Co) (zs : List Zn) : Pd → Tr | .mk h ks => prnH cols zs h (prnL cols zs ks)
def prnL (cols : List Co) (zs : List Zn) : List Pd → List Tr | [] => [] | k :: r => prnP cols zs k :: prnL cols zs r
end
theorem prnL_map (cols : List Co) (zs : List Zn) (l : List Pd) : prnL cols zs l = l.map (prnP cols zs) := by
  induction l with
  | nil => rfl
  | cons k r ih => rw [prnL, ih]; rfl
theorem prn_is (cols : List Co) (zs : List Zn) (h : Ph) (ks : List Pd) : prnP cols zs (.mk h ks) = prnH cols zs h (ks.map (prnP cols zs)) := by rw [prnP, prnL_map]
/-! ### None is lost -/
theorem agr_opp {op : Int} (h1 : 1 ≤ op) (h2 : op ≤ 6) (n : Int) : agrI (oppI op) n = !agrI op n := by
  have h : op = 1 ∨ op = 2 ∨ op = 3 ∨ op = 4 ∨ op = 5 ∨ op = 6 := by omega
  rcases h with rfl | rfl | rfl | rfl | rfl | rfl
  · show (n != 0) = !(n == 0); rfl
  · show (n == 0) = !(n != 0); cases h : n == 0 <;> simp_all
  · show decide (0 ≤ n) = !decide (n < 0); by_cases h : n < 0 <;> simp [h] <;> omega
  · show decide (0 < n) = !decide (n ≤ 0); by_cases h : n ≤ 0 <;> simp [h] <;> omega
  · show decide (n ≤ 0) = !decide (0 < n); by_cases h : 0 < n <;> simp [h] <;> omega
  · show decide (n < 0) = !decide (0 ≤ n); by_cases h : 0 ≤ n <;> simp [h] <;> omega
theorem opp_range {op : Int} (h1 : 1 ≤ op) (h2 : op ≤ 6) : 1 ≤ oppI op ∧ oppI op ≤ 6 := by
  have h : op = 1 ∨ op = 2 ∨ op = 3 ∨ op = 4 ∨ op = 5 ∨ op = 6 := by omega
  rcases h with rfl | rfl | rfl | rfl | rfl | rfl <;> decide
theorem ord_lt {a b c : Cl} (h : ordC a b ≤ 0) (h2 : ordC b c < 0) : ordC a c < 0 := by
  have h3 := ordC_trans h (show ordC b c ≤ 0 by omega)
  by_cases e : ordC a c < 0
  · exact e
  · have e0 : ordC a c = 0 := by omega
    have e1 : a = c := by have := ordC_zero a c; rw [e0] at this; exact ceq_is this.symm
    subst e1
    have := ordC_neg a b
    omega
/-- a cell from one to another one, that is as a comparison says: such a one may be -/
theorem rng_has {op : Int} {low c high v : Cl} (hl : ordC low c ≤ 0) (hh : ordC c high ≤ 0) (h1 : 1 ≤ op) (h2 : op ≤ 6) (ha : agrI op (ordC c v) = true) : rngI op low high v = true := by
  have hh2 : ordC high c = -ordC c high := ordC_neg c high
  have hv1 : ordC v c = -ordC c v := ordC_neg c v
  have hv2 : ordC v high = -ordC high v := ordC_neg high v
  have h : op = 1 ∨ op = 2 ∨ op = 3 ∨ op = 4 ∨ op = 5 ∨ op = 6 := by omega
  rcases h with rfl | rfl | rfl | rfl | rfl | rfl
  · have e0 : ordC c v = 0 := by simpa [agrI] using ha
    show (decide (ordC low v ≤ 0) && decide (0 ≤ ordC high v)) = true
    have a1 := ordC_trans hl (show ordC c v ≤ 0 by omega)
    have a2 := ordC_trans (show ordC v c ≤ 0 by omega) hh
    rw [Bool.and_eq_true, decide_eq_true_eq, decide_eq_true_eq]; omega
  · have e0 : ordC c v ≠ 0 := by simpa [agrI] using ha
    show (ordC low v != 0 || ordC high v != 0) = true
    by_cases h0 : ordC low v = 0 ∧ ordC high v = 0
    · exfalso
      have q1 : low = v := by have := ordC_zero low v; rw [h0.1] at this; exact ceq_is this.symm
      have q2 : high = v := by have := ordC_zero high v; rw [h0.2] at this; exact ceq_is this.symm
      subst q1
      subst q2
      omega
    · rw [Bool.or_eq_true, bne_iff_ne, bne_iff_ne]
      by_cases h3 : ordC low v = 0
      · exact .inr fun h4 => h0 ⟨h3, h4⟩
      · exact .inl h3
  · have e0 : ordC c v < 0 := by simpa [agrI] using ha
    show decide (ordC low v < 0) = true
    rw [decide_eq_true_eq]; exact ord_lt hl e0
  · have e0 : ordC c v ≤ 0 := by simpa [agrI] using ha
    show decide (ordC low v ≤ 0) = true
    rw [decide_eq_true_eq]; exact ordC_trans hl e0
  · have e0 : 0 < ordC c v := by simpa [agrI] using ha
    show decide (0 < ordC high v) = true
    rw [decide_eq_true_eq]
    by_cases h5 : 0 < ordC high v
    · exact h5
    · have a1 := ordC_trans hh (show ordC high v ≤ 0 by omega)
      omega
  · have e0 : 0 ≤ ordC c v := by simpa [agrI] using ha
    show decide (0 ≤ ordC high v) = true
    rw [decide_eq_true_eq]
    have a1 := ordC_trans (show ordC v c ≤ 0 by omega) hh
    omega
/-- the zones are such that each has the row's cell -/
def ZonesOf (zs : List Zn) (row : List Cl) : Prop := zs.length = row.length ∧ ∀ j (h : j < zs.length) (h2 : j < row.length), hasZ zs[j] row[j] = true
theorem has_null {z : Zn} {c : Cl} (h : hasZ z c = true) (hn : c.null = true) : nullZ z = true := by unfold hasZ at h; rw [hn] at h; exact h
theorem has_some {z : Zn} {c : Cl} (h : hasZ z c = true) (hn : c.null = false) : someZ z = true ∧ ordC z.low c ≤ 0 ∧ ordC c z.high ≤ 0 := by
  unfold hasZ at h
  rw [hn] at h
  simp only [Bool.false_eq_true, if_false, Bool.and_eq_true, decide_eq_true_eq] at h
  exact ⟨h.1.1, h.1.2, h.2⟩
theorem hasT_yes {t : Tr} {b : Bool} (hy : b = true → t.yes = true) (hn : b = false → t.no = true) : hasT t (yesI b) = true := by
  cases b
  · exact hn rfl
  · exact hy rfl
theorem ask_rng {h : Ph} (ho : h.op = 2) (ha : askOk h = true) : 1 ≤ h.cmp ∧ h.cmp ≤ 6 := by
  unfold askOk at ha
  rw [if_pos ho] at ha
  simp only [Bool.and_eq_true, decide_eq_true_eq] at ha
  exact ha.2.1.1
theorem prune_safe {cols : List Co} {zs : List Zn} {row : List Cl} (hr : rowB cols row = true) (hz : ZonesOf zs row) (p : Pd) : oneP p = true → typP cols p = true → hasT (prnP cols zs p) (truP cols row p) = true := by
  induction p using Pd.ind with
  | h hd ks ih =>
    intro hone htyp
    obtain ⟨hok, hok1⟩ := one_kids hone
    obtain ⟨hty, hty1⟩ := typ_kids htyp
    have hk : ∀ k ∈ ks, hasT (prnP cols zs k) (truP cols row k) = true := fun k h => ih k h (hok1 k h) (hty1 k h)
    rw [prn_is, tru_is]
    rcases hd_ways hok with ⟨ho, h0, _⟩ | ⟨ho, h0, ha⟩ | ⟨ho, h0, _⟩ | ⟨ho, h0, _⟩
    · unfold prnH truH; rw [ho]; rfl
    · obtain ⟨hne, k, hk1, hk2, hf, hcell, hmay, hq2, hq4⟩ := ask_col ho ha hty hr
      have hkz : k < zs.length := by have := hz.1; omega
      have hzn : zoneN cols zs hd.col = zs[k] := by
        unfold zoneN; rw [hf]; dsimp only; rw [List.getD_eq_getElem?_getD, List.getElem?_eq_getElem hkz]; rfl
      have hh := hz.2 k hkz hk2
      rcases ho with ho | ho | ho
      · obtain ⟨c1, c2⟩ := ask_rng ho ha
        unfold prnH truH
        rw [if_pos ho, if_pos ho, hzn, hcell]
        dsimp only
        unfold cmpR
        cases hn : row[k].null
        · obtain ⟨s1, s2, s3⟩ := has_some hh hn
          rw [if_neg (by simp)]
          refine hasT_yes (fun e => ?_) (fun e => ?_)
          · rw [s1, rng_has s2 s3 c1 c2 e]; rfl
          · have o := opp_range c1 c2
            rw [s1, rng_has s2 s3 o.1 o.2 (by rw [agr_opp c1 c2, e]; rfl)]; rfl
        · rw [if_pos rfl]
          exact has_null hh hn
      · unfold prnH truH
        rw [if_neg (by omega), if_pos ho, if_neg (by omega), if_pos ho, hzn, hcell]
        refine hasT_yes (fun e => has_null hh e) (fun e => (has_some hh e).1)
      · unfold prnH truH
        rw [if_neg (by omega), if_neg (by omega), if_pos ho, if_neg (by omega), if_neg (by omega), if_pos ho, hzn, hcell]
        unfold likR
        cases hn : row[k].null
        · rw [if_neg (by simp)]
          exact hasT_yes (fun _ => (has_some hh hn).1) (fun _ => (has_some hh hn).1)
        · rw [if_pos rfl]
          exact has_null hh hn
    · cases ks with
      | nil => simp at h0
      | cons x r =>
        have hx := hk x (List.mem_cons_self ..)
        have ht := tru_one cols row x
        unfold prnH truH
        rw [if_neg (by omega), if_neg (by omega), if_neg (by omega), if_pos ho, if_neg (by omega), if_neg (by omega), if_neg (by omega), if_pos ho]
        simp only [List.map_cons, List.headD_cons]
        generalize truP cols row x = t at *
        generalize prnP cols zs x = q at *
        rcases ht with rfl | rfl | rfl <;> exact hx
    · have kid : ∀ (t : Int), t ∈ ks.map (truP cols row) → ∃ q ∈ ks.map (prnP cols zs), hasT q t = true := by
        intro t ht
        obtain ⟨x, hx, rfl⟩ := List.mem_map.1 ht
        exact ⟨_, List.mem_map.2 ⟨x, hx, rfl⟩, hk x hx⟩
      have all : ∀ (t : Int), (∀ x ∈ ks, truP cols row x = t) → ∀ q ∈ ks.map (prnP cols zs), hasT q t = true := by
        intro t ht q hq
        obtain ⟨x, hx, rfl⟩ := List.mem_map.1 hq
        have := hk x hx
        rw [ht x hx] at this
        exact this
      have rest : ∀ (a b : Int), Tru a → Tru b → a ≠ b → a ≠ 2 → b ≠ 2 → a ∉ ks.map (truP cols row) → (2 : Int) ∉ ks.map (truP cols row) → ∀ x ∈ ks, truP cols row x = b := by
        intro a b ha hb hab ha2 hb2 h1 h2 x hx
        have e1 : truP cols row x ≠ a := fun e => h1 (List.mem_map.2 ⟨x, hx, e⟩)
        have e2 : truP cols row x ≠ 2 := fun e => h2 (List.mem_map.2 ⟨x, hx, e⟩)
        have e3 := tru_one cols row x
        unfold Tru at ha hb e3
        omega
      rcases ho with ho | ho
      · unfold prnH truH
        rw [if_neg (by omega), if_neg (by omega), if_neg (by omega), if_neg (by omega), if_pos ho, if_neg (by omega), if_neg (by omega), if_neg (by omega), if_neg (by omega), if_pos ho]
        unfold chnI
        split
        · rename_i h
          obtain ⟨q, hq, e⟩ := kid _ h
          exact List.any_eq_true.2 ⟨q, hq, e⟩
        · rename_i h
          split
          · rename_i h2
            obtain ⟨q, hq, e⟩ := kid _ h2
            exact List.any_eq_true.2 ⟨q, hq, e⟩
          · rename_i h2
            exact List.all_eq_true.2 fun q hq => all 1 (rest 0 1 (.inl rfl) (.inr (.inl rfl)) (by decide) (by decide) (by decide) h h2) q hq
      · unfold prnH truH
        rw [if_neg (by omega), if_neg (by omega), if_neg (by omega), if_neg (by omega), if_neg (by omega), if_pos ho, if_neg (by omega), if_neg (by omega), if_neg (by omega), if_neg (by omega), if_neg (by omega), if_pos ho]
        unfold chnI
        split
        · rename_i h
          obtain ⟨q, hq, e⟩ := kid _ h
          exact List.any_eq_true.2 ⟨q, hq, e⟩
        · rename_i h
          split
          · rename_i h2
            obtain ⟨q, hq, e⟩ := kid _ h2
            exact List.any_eq_true.2 ⟨q, hq, e⟩
          · rename_i h2
            exact List.all_eq_true.2 fun q hq => all 0 (rest 1 0 (.inr (.inl rfl)) (.inl rfl) (by decide) (by decide) (by decide) h h2) q hq

/-! ### What Ask and Skip tell -/
def zonesB (cols : List Co) (zs : List Zn) : Bool := decide (zs.length = cols.length ∧ ∀ j (h : j < zs.length) (h2 : j < cols.length), mayZ cols[j].ty zs[j] = true)
def prnE (cols : List Co) (p : Pd) (zs : List Zn) : Tr × Int := if fitP cols p = 0 then (if zonesB cols zs = true then (prnP cols zs p, 0) else (noT, 1)) else (noT, fitP cols p)
def skpE (cols : List Co) (p : Pd) (zs : List Zn) : Bool := decide ((prnE cols p zs).2 = 0) && !(prnE cols p zs).1.yes
end Go.Proofs.YtpmipdnmhffkeaaDoor


namespace Go.Proofs.YtpmipdnmhffkeaaDoor
set_option linter.unusedVariables false
set_option linter.unusedSimpArgs false
set_option maxRecDepth 100000
open Go.RowKit

def colC (rows : List (List Cl)) (i : Nat) : List Cl := rows.map fun r => r.getD i noCl
theorem colC_length (rows : List (List Cl)) (i : Nat) : (colC rows i).length = rows.length := by simp [colC]
end Go.Proofs.YtpmipdnmhffkeaaDoor


namespace Go.Proofs.YtpmipdnmhffkeaaDoor
set_option linter.unusedVariables false
set_option linter.unusedSimpArgs false
set_option maxRecDepth 100000
open Go.RowKit

theorem mayC_nulls {ty : Int} {nl : Bool} {c : Cl} (h : mayC ty nl c = true) : mayC ty true c = true := by
  unfold mayC at h ⊢
  rw [Bool.and_eq_true] at h ⊢
  refine ⟨h.1, ?_⟩
  have h2 := h.2
  split at h2
  · rename_i hn
    rw [if_pos hn]
    rw [Bool.and_eq_true] at h2 ⊢
    exact ⟨rfl, h2.2⟩
  · rename_i hn
    rw [if_neg hn]
    exact h2
theorem rowsE_zero {cols : List Co} {p : Pd} {rows : List (List Cl)} (h : (rowsE cols p rows).2 = 0) : fitP cols p = 0 ∧ (∀ k (h : k < rows.length), rowB cols rows[k] = true) ∧ rowsE cols p rows = (plcI cols p rows rows.length, 0) := by
  unfold rowsE at h ⊢
  split at h
  · rename_i h1
    rw [if_pos h1]
    split at h
    · rename_i h2
      rw [if_pos h2]
      exact ⟨h1, fun k hk => List.all_eq_true.1 h2 _ (List.getElem_mem hk), rfl⟩
    · cases h
  · rename_i h1
    exact absurd h h1
theorem col_mem {rows : List (List Cl)} {j : Nat} {c : Cl} (h : c ∈ colC rows j) : ∃ k, ∃ (hk : k < rows.length), c = rows[k].getD j noCl := by
  unfold colC at h
  obtain ⟨r, hr, rfl⟩ := List.mem_map.1 h
  obtain ⟨k, hk, rfl⟩ := List.mem_iff_getElem.1 hr
  exact ⟨k, hk, rfl⟩
theorem col_has {rows : List (List Cl)} {j k : Nat} (hk : k < rows.length) (hj : j < rows[k].length) : rows[k][j] ∈ colC rows j := by
  unfold colC
  refine List.mem_map.2 ⟨rows[k], List.getElem_mem hk, ?_⟩
  rw [List.getD_eq_getElem?_getD, List.getElem?_eq_getElem hj]; rfl
theorem chk_types {cols : List Co} (h : chkC cols = 0) {j : Nat} (hj : j < cols.length) : isTy cols[j].ty = true := by
  have h1 := (chk_is h).2.1
  have h2 : badC cols[j] = false := by
    cases e : badC cols[j]
    · rfl
    · have h3 : cols.any badC = true := List.any_eq_true.2 ⟨_, List.getElem_mem hj, e⟩
      rw [h1] at h3; cases h3
  unfold badC at h2
  simp only [Bool.not_eq_false', Bool.and_eq_true] at h2
  exact h2.2
theorem zones_may {cols : List Co} {zs : List Zn} {rows : List (List Cl)} (hc : chkC cols = 0) (hr : ∀ k (h : k < rows.length), rowB cols rows[k] = true) (hl : zs.length = cols.length) (hz : ∀ j (h : j < zs.length), IsOf (colC rows j) zs[j]) (hn : rows.length ≤ 4096) : zonesB cols zs = true := by
  refine decide_eq_true ⟨hl, fun j h h2 => isOf_may (hz j h) (chk_types hc h2) (fun c hcm => ?_) (by rw [colC_length]; exact hn)⟩
  obtain ⟨k, hk, rfl⟩ := col_mem hcm
  obtain ⟨e1, e2⟩ := row_at (hr k hk)
  have hj : j < rows[k].length := by omega
  rw [List.getD_eq_getElem?_getD, List.getElem?_eq_getElem hj]
  exact mayC_nulls (e2 j h2 hj)
theorem zones_of {cols : List Co} {zs : List Zn} {rows : List (List Cl)} (hr : ∀ k (h : k < rows.length), rowB cols rows[k] = true) (hl : zs.length = cols.length) (hz : ∀ j (h : j < zs.length), IsOf (colC rows j) zs[j]) (k : Nat) (hk : k < rows.length) : ZonesOf zs rows[k] := by
  have e := (row_at (hr k hk)).1
  exact ⟨by omega, fun j h h2 => isOf_has (hz j h) (col_has hk h2)⟩
theorem plcI_none {cols : List Co} {p : Pd} {rows : List (List Cl)} (h : ∀ k (hk : k < rows.length), truP cols rows[k] p ≠ 1) : ∀ n, n ≤ rows.length → plcI cols p rows n = []
  | 0, _ => rfl
  | n + 1, hn => by rw [plc_no (show n < rows.length by omega) (h n (by omega)), plcI_none h n (by omega)]
/-- all that the law asks: of rows' zones -/
theorem safe_all {cols : List Co} {zs : List Zn} {rows : List (List Cl)} {p : Pd} (hf : fitP cols p = 0) (hr : ∀ k (h : k < rows.length), rowB cols rows[k] = true) (hl : zs.length = cols.length) (hz : ∀ j (h : j < zs.length), IsOf (colC rows j) zs[j]) (hn : rows.length ≤ 4096) :
    prnE cols p zs = (prnP cols zs p, 0) ∧ (∀ k (h : k < rows.length), hasT (prnP cols zs p) (truP cols rows[k] p) = true) ∧ ((prnP cols zs p).yes = false → plcI cols p rows rows.length = []) := by
  obtain ⟨hc, ho, ht⟩ := fit_zero hf
  have hs : ∀ k (h : k < rows.length), hasT (prnP cols zs p) (truP cols rows[k] p) = true := fun k hk => prune_safe (hr k hk) (zones_of hr hl hz k hk) p ho ht
  refine ⟨?_, hs, fun hy => plcI_none (fun k hk e => ?_) _ (Nat.le_refl _)⟩
  · unfold prnE; rw [if_pos hf, if_pos (zones_may hc hr hl hz hn)]
  · have := hs k hk
    rw [e] at this
    unfold hasT at this
    rw [if_pos rfl, hy] at this
    cases this
end Go.Proofs.YtpmipdnmhffkeaaDoor


namespace Go.Proofs.YtpmipdnmhffkeaaDoor
set_option linter.unusedVariables false
set_option linter.unusedSimpArgs false
set_option maxRecDepth 100000
open Go.RowKit

/-- a bound stored, as a walk spells it -/
def setLow (w : World) (g : Nat) (n : Bool) (i : Int) (t : List UInt8) : World := ((w.setCell ⟨g, 2, none⟩ (.bool n)).setCell ⟨g, 3, none⟩ (.int .i64 i)).setCell ⟨g, 4, none⟩ (.string ⟨t.toArray⟩)
def setHigh (w : World) (g : Nat) (n : Bool) (i : Int) (t : List UInt8) : World := ((w.setCell ⟨g, 5, none⟩ (.bool n)).setCell ⟨g, 6, none⟩ (.int .i64 i)).setCell ⟨g, 7, none⟩ (.string ⟨t.toArray⟩)
theorem setLow_B {w : World} {g : Nat} {z : Zn} (h : ZnB w g z) (c : Cl) : ZnB (setLow w g c.null c.num c.txt) g ⟨z.rows, z.nulls, c, z.high⟩ := ((Blk.set h 2 _).set 3 _).set 4 _
theorem setHigh_B {w : World} {g : Nat} {z : Zn} (h : ZnB w g z) (c : Cl) : ZnB (setHigh w g c.null c.num c.txt) g ⟨z.rows, z.nulls, z.low, c⟩ := ((Blk.set h 5 _).set 6 _).set 7 _
theorem setLow_fr (w : World) (g : Nat) (n : Bool) (i : Int) (t : List UInt8) : Fr (One g) w (setLow w g n i t) := (((Fr.refl (One g) w).set1 2 _).set1 3 _).set1 4 _
theorem setHigh_fr (w : World) (g : Nat) (n : Bool) (i : Int) (t : List UInt8) : Fr (One g) w (setHigh w g n i t) := (((Fr.refl (One g) w).set1 5 _).set1 6 _).set1 7 _
end Go.Proofs.YtpmipdnmhffkeaaDoor


namespace Go.Proofs.YtpmipdnmhffkeaaDoor
set_option linter.unusedVariables false
set_option linter.unusedSimpArgs false
set_option maxRecDepth 100000
open Go.RowKit

/-- a cell's three values, and those of many -/
def clL (c : Cl) : List Value := [.bool c.null, .int .i64 c.num, .string ⟨c.txt.toArray⟩]
def clsL (l : List Cl) : List Value := l.flatMap clL
theorem clsL_cons (c : Cl) (l : List Cl) : clsL (c :: l) = clL c ++ clsL l := by simp [clsL]
theorem clsL_app (l m : List Cl) : clsL (l ++ m) = clsL l ++ clsL m := by simp [clsL]
theorem clsL_one (c : Cl) : clsL [c] = clL c := by simp [clsL]
theorem clsL_at (l : List Cl) (j : Nat) (i : Nat) (hj : j < l.length) (hi : i < 3) : (clsL l)[j * 3 + i]? = (clL l[j])[i]? := by
  induction l generalizing j with
  | nil => cases hj
  | cons c l ih =>
    rw [clsL_cons]
    cases j with
    | zero => rw [List.getElem?_append_left (by simp [clL]; omega)]; simp
    | succ j =>
      rw [List.getElem?_append_right (by simp [clL]; omega)]
      rw [show (j + 1) * 3 + i - (clL c).length = j * 3 + i by simp [clL]; omega]
      exact ih j (by simpa using hj)
theorem clsL_one' (l : List Cl) : ∀ u ∈ clsL l, u.oneCell' = true := by
  intro u hu
  obtain ⟨c, _, hc⟩ := List.mem_flatMap.1 hu
  simp [clL] at hc
  rcases hc with rfl | rfl | rfl <;> rfl
/-- three cells, one behind the other, that hold c -/
structure At3 (w : World) (a : Addr) (c : Cl) : Prop where
  c0 : w.cell? a = some (.bool c.null)
  c1 : w.cell? (a.add 1) = some (.int .i64 c.num)
  c2 : w.cell? (a.add 2) = some (.string ⟨c.txt.toArray⟩)

/-- the slice v reads as the cells l -/
def Cs (w : World) (v : Value) (l : List Cl) : Prop :=
  ∃ A c, v = .slice A l.length c ∧ l.length ≤ c ∧ (A = none → c = 0) ∧ ∀ a, A = some a → ∀ j (h : j < l.length), At3 w (a.add (j * 3)) l[j]
/-- a row of the call's own, from block B on -/
def Oc (w : World) (B : Nat) (v : Value) (l : List Cl) : Prop := w.ownsRow B 24 3 v l.length (clsL l)

theorem At3.keep {w w' : World} {a : Addr} {c : Cl} (h : At3 w a c) (hk : w'.heap[a.block]? = w.heap[a.block]?) : At3 w' a c := by
  obtain ⟨h0, h1, h2⟩ := h
  exact ⟨by rw [← h0]; exact World.cell?_of_block hk, by rw [← h1]; exact World.cell?_of_block (by rw [add_block]; exact hk), by rw [← h2]; exact World.cell?_of_block (by rw [add_block]; exact hk)⟩

theorem Cs.nil_ (w : World) : Cs w (.slice none 0 0) [] := ⟨none, 0, rfl, Nat.le_refl _, fun _ => rfl, fun _ h => by cases h⟩
theorem Cs.keep {w w' : World} {v : Value} {l : List Cl} (h : Cs w v l) (hk : ∀ k, v.ownBlock = some k → k < w.heap.size → w'.heap[k]? = w.heap[k]?) : Cs w' v l := by
  obtain ⟨A, c, rfl, h1, h2, h3⟩ := h
  refine ⟨A, c, rfl, h1, h2, fun a ha j hj => ?_⟩
  have := h3 a ha j hj
  subst ha
  have hb := World.block_lt_of_cell? w _ this.c0
  refine this.keep ?_
  rw [add_block] at hb ⊢
  exact hk _ rfl hb
theorem Cs.fr {S : Nat → Prop} {w w' : World} {v : Value} {l : List Cl} (h : Cs w v l) (hf : Fr S w w') (hn : ∀ k, v.ownBlock = some k → ¬ S k) : Cs w' v l :=
  h.keep fun k hk hlt => hf.block k hlt (hn k hk)
theorem Cs.non {w w' : World} {v : Value} {l : List Cl} (h : Cs w v l) (hf : Fr Non w w') : Cs w' v l := h.fr hf fun _ _ e => e
theorem Cs.drew {w : World} {v : Value} {l : List Cl} (h : Cs w v l) : Cs w.drew v l := h.keep fun _ _ _ => rfl
theorem Cs.shape {w : World} {v : Value} {l : List Cl} (h : Cs w v l) : ∃ A c, v = .slice A l.length c := by
  obtain ⟨A, c, rfl, _⟩ := h; exact ⟨A, c, rfl⟩
theorem Cs.addr {w : World} {A : Option Addr} {n c : Nat} {l : List Cl} (h : Cs w (.slice A n c) l) (hl : 0 < n) : ∃ a, A = some a ∧ n = l.length ∧ n ≤ c ∧ ∀ j (h : j < l.length), At3 w (a.add (j * 3)) l[j] := by
  obtain ⟨A0, c0, he, h1, h2, h3⟩ := h
  simp only [Value.slice.injEq] at he
  obtain ⟨rfl, rfl, rfl⟩ := he
  cases A with
  | none => have := h2 rfl; omega
  | some a => exact ⟨a, rfl, rfl, h1, h3 a rfl⟩
/-- what a walk asks of the element at j -/
theorem Cs.el {w : World} {a : Addr} {n c : Nat} {l : List Cl} (h : Cs w (.slice (some a) n c) l) (j : Nat) (x : Cl) (hx : l[j]? = some x) :
    w.cell? (a.add (j * 3)) = some (.bool x.null) ∧ w.cell? ((a.add (j * 3)).add 1) = some (.int .i64 x.num) ∧ w.cell? ((a.add (j * 3)).add 2) = some (.string ⟨x.txt.toArray⟩) := by
  obtain ⟨A0, c0, he, h1, h2, h3⟩ := h
  simp only [Value.slice.injEq] at he
  obtain ⟨rfl, rfl, rfl⟩ := he
  obtain ⟨hj, rfl⟩ := List.getElem?_eq_some_iff.1 hx
  have := h3 a rfl j hj
  exact ⟨this.c0, this.c1, this.c2⟩

theorem Fr.at3 {w w' : World} {a : Addr} {c : Cl} (hf : Fr Non w w') (h : At3 w a c) : At3 w' a c :=
  h.keep (hf.block _ (World.block_lt_of_cell? w _ h.c0) (fun e => e))
/-- as a walk spells them -/
theorem At3.lit {w : World} {a : Addr} {c : Cl} (h : At3 w a c) : w.cell? a = some (.bool c.null) ∧ w.cell? { block := a.block, off := a.off + 1 } = some (.int .i64 c.num) ∧ w.cell? { block := a.block, off := a.off + 2 } = some (.string ⟨c.txt.toArray⟩) := ⟨h.c0, h.c1, h.c2⟩
theorem Oc.lt {w : World} {B : Nat} {v : Value} {l : List Cl} (h : Oc w B v l) : ∀ k, v.ownBlock = some k → B ≤ k ∧ k < w.heap.size := World.ownsRow.lt h
theorem Oc.cs {w : World} {B : Nat} {v : Value} {l : List Cl} (h : Oc w B v l) : Cs w v l := by
  rcases h.2 with ⟨rfl, h0⟩ | ⟨g, cap, cur, rfl, _, _, hle, _, _, _⟩
  · have hl : l = [] := List.eq_nil_of_length_eq_zero h0
    subst hl; exact Cs.nil_ w
  · refine ⟨_, cap, rfl, hle, (fun h => by cases h), fun a ha j hj => ?_⟩
    cases ha
    have H := fun i hi => World.ownsRow.cells h (g := g) rfl (j * 3 + i) _ ((clsL_at l j i hj hi).trans (List.getElem?_eq_getElem (by simp [clL]; omega)))
    refine ⟨?_, ?_, ?_⟩
    · have := H 0 (by omega); simpa [clL] using this
    · rw [add_add]; have := H 1 (by omega); simpa [clL] using this
    · rw [add_add]; have := H 2 (by omega); simpa [clL] using this
theorem Oc.shape {w : World} {B : Nat} {v : Value} {l : List Cl} (h : Oc w B v l) : ∃ A c, v = .slice A l.length c := h.cs.shape
theorem Oc.keep {w w' : World} {B : Nat} {v : Value} {l : List Cl} (h : Oc w B v l) (hk : ∀ k, v.ownBlock = some k → w'.heap[k]? = w.heap[k]?) : Oc w' B v l := by
  refine ⟨h.1, ?_⟩
  rcases h.2 with h2 | ⟨g, cap, cur, hv, hb, hg, r⟩
  · exact .inl h2
  · exact .inr ⟨g, cap, cur, hv, hb, by rw [hk g (by rw [hv]; rfl)]; exact hg, r⟩
theorem Oc.fr {S : Nat → Prop} {w w' : World} {B : Nat} {v : Value} {l : List Cl} (h : Oc w B v l) (hf : Fr S w w') (hn : ∀ k, v.ownBlock = some k → ¬ S k) : Oc w' B v l :=
  h.keep fun k hk => hf.block k (h.lt k hk).2 (hn k hk)
theorem Oc.non {w w' : World} {B : Nat} {v : Value} {l : List Cl} (h : Oc w B v l) (hf : Fr Non w w') : Oc w' B v l := h.fr hf fun _ _ e => e
theorem Oc.alloc {w : World} {B : Nat} {v : Value} {l : List Cl} (h : Oc w B v l) (o : Obj) : Oc (w.alloc o) B v l := h.non ((Fr.refl _ _).alloc o)
theorem Oc.drew {w : World} {B : Nat} {v : Value} {l : List Cl} (h : Oc w B v l) : Oc w.drew B v l := h
theorem Oc.mono {w : World} {B B' : Nat} {v : Value} {l : List Cl} (h : Oc w B v l) (hB : B' ≤ B) : Oc w B' v l := by
  refine ⟨h.1, ?_⟩
  rcases h.2 with h2 | ⟨g, cap, cur, hv, hb, r⟩
  · exact .inl h2
  · exact .inr ⟨g, cap, cur, hv, by omega, r⟩
theorem Oc.kind {w : World} {B : Nat} {v : Value} {l : List Cl} (h : Oc w B v l) : ∀ k, v.ownBlock = some k → ∃ cur, w.heap[k]? = some (.cells cur 24 (0, 0)) := by
  intro k hk
  rcases h.2 with ⟨rfl, _⟩ | ⟨g, cap, cur, rfl, _, hg, _⟩
  · cases hk
  · obtain rfl : g = k := by simpa [Value.ownBlock] using hk
    exact ⟨cur, hg⟩
theorem Oc.row {w : World} {B : Nat} {v : Value} {l : List Cl} (h : Oc w B v l) (hn : 0 < l.length) : ∃ g cap, v = .slice (some ⟨g, 0, none⟩) l.length cap ∧ B ≤ g ∧ g < w.heap.size ∧ l.length ≤ cap ∧ cap ≤ maxLen := by
  rcases h.2 with ⟨rfl, h0⟩ | ⟨g, cap, cur, rfl, hb, hg, hle, hm, _⟩
  · omega
  · exact ⟨g, cap, rfl, hb, (Array.getElem?_eq_some_iff.1 hg).1, hle, hm⟩
/-- what a walk asks of a row's element at j -/
theorem Oc.el {w : World} {B g n cap : Nat} {l : List Cl} (h : Oc w B (.slice (some ⟨g, 0, none⟩) n cap) l) (hn : n = l.length) (j : Nat) (x : Cl) (hx : l[j]? = some x) :
    w.cell? ⟨g, j * 3, none⟩ = some (.bool x.null) ∧ w.cell? ⟨g, j * 3 + 1, none⟩ = some (.int .i64 x.num) ∧ w.cell? ⟨g, j * 3 + 2, none⟩ = some (.string ⟨x.txt.toArray⟩) := by
  subst hn
  obtain ⟨hj, rfl⟩ := List.getElem?_eq_some_iff.1 hx
  refine ⟨?_, ?_, ?_⟩
  · rw [World.ownsRow.cellAt h (j * 3) (by omega)]; have := clsL_at l j 0 hj (by omega); simpa [clL] using this
  · rw [World.ownsRow.cellAt h (j * 3 + 1) (by omega)]; have := clsL_at l j 1 hj (by omega); simpa [clL] using this
  · rw [World.ownsRow.cellAt h (j * 3 + 2) (by omega)]; have := clsL_at l j 2 hj (by omega); simpa [clL] using this
theorem Oc.frozen {w : World} {B g n cap : Nat} {l : List Cl} (h : Oc w B (.slice (some ⟨g, 0, none⟩) n cap) l) (hn : n = l.length) (j : Nat) : w.frozen? ⟨g, j, none⟩ = false := by
  subst hn; exact World.ownsRow.frozenAt h j
theorem info_cl : (Tryd.prog.info? 24).map (fun i => (i.zero, i.size, i.bytes)) = some (some (.agg #[.bool false, .int .i64 0, .string ⟨#[]⟩]), 3, 32) := by kernel_rfl
theorem oc_lit0 (w : World) (B g : Nat) (hg : g = w.heap.size) (hB : B ≤ g) : Oc (w.alloc (.cells #[] 24)) B (.slice (some ⟨g, 0, none⟩) 0 0) [] := by
  subst hg
  exact World.ownsRow_lit w #[] 0 hB (by unfold maxLen; omega) rfl
/-! ### Steps -/
/-- append of one cell, which was stored in a new block first -/
theorem wpList_pushC {w0 : World} {ops : Array Oper} {rest : List Oper} {o : Oper} {a : Act} {Q : Exit → Act → World → Prop} (hgd : o.guard = none) (s x : Operand)
    (ho : o.op = .call { callee := .builtin .append, args := #[s, x], argTypes := #[50, 50] })
    (B : Nat) (v : Value) (l : List Cl) (hs : a.eval s = v) (hown : Oc w0 B v l) (y : Cl) (b : Bool) (i : Int) (t : ByteArray) (hb : b = y.null) (hi : i = y.num) (ht : t = ⟨y.txt.toArray⟩) (g : Nat) (hx : a.eval x = .slice (some ⟨g, 0, none⟩) 1 1) (hg : g = w0.heap.size)
    (hl : l.length < 1099511627776) (hB : B ≤ w0.heap.size)
    (h : ∀ v' w', Oc w' B v' (l ++ [y]) → Fr (fun k => v.ownBlock = some k) w0 w' → wpList Tryd.prog ops Q rest (a.put o.dst v') w') :
    wpList Tryd.prog ops Q (o :: rest) a (w0.alloc (.cells #[.bool b, .int .i64 i, .string t] 24)) := by
  subst hb hi ht hg
  obtain ⟨ii, hi, hz0, hz1, hz2⟩ := info_parts info_cl
  have hbl := ((cl_new w0 y).facts)
  refine wpList_append_own _ hgd s x _ ho B 24 ii _ 3 32 Tryd.underlying50 hi hz0 hz1 hz2 rfl (by omega) v l.length (clsL l) hs (hown.alloc _) ⟨w0.heap.size, 0, none⟩ 1 1 (clL y) hx rfl ?_ ?_ (by unfold maxLen; omega) (by omega) (by simp; omega) ?_
  · intro j u hu
    rw [Addr.add_lit, Nat.zero_add]
    match j with
    | 0 => obtain rfl : _ = u := by simpa [clL] using hu
           exact hbl.1
    | 1 => obtain rfl : _ = u := by simpa [clL] using hu
           exact hbl.2.1
    | 2 => obtain rfl : _ = u := by simpa [clL] using hu
           exact hbl.2.2.1
    | j + 3 => simp [clL] at hu
  · intro u hu
    exact clsL_one' [y] u (by rw [clsL_one]; exact hu)
  · intro v' w' h1 h2 _
    refine h v' w' ?_ ?_
    · unfold Oc
      rw [clsL_app, clsL_one, List.length_append]
      exact h1
    · exact ((Fr.refl _ _).alloc _).join (Fr.of_grown h2) fun k hk e => e.symm ▸ rfl
end Go.Proofs.YtpmipdnmhffkeaaDoor


namespace Go.Proofs.YtpmipdnmhffkeaaDoor
set_option linter.unusedVariables false
set_option linter.unusedSimpArgs false
set_option maxRecDepth 100000
open Go.RowKit

/-- a zone stored whole, as a walk spells it -/
def setRN (w : World) (g : Nat) (r n : Int) : World := (w.setCell ⟨g, 0, none⟩ (.int .i64 r)).setCell ⟨g, 1, none⟩ (.int .i64 n)
theorem setRN_B {w : World} {g : Nat} {y : Zn} (h : ZnB w g y) (r n : Int) : ZnB (setRN w g r n) g ⟨r, n, y.low, y.high⟩ := (Blk.set h 0 _).set 1 _
theorem setRN_fr (w : World) (g : Nat) (r n : Int) : Fr (One g) w (setRN w g r n) := ((Fr.refl (One g) w).set1 0 _).set1 1 _
def setZn (w : World) (g : Nat) (z : Zn) : World := setHigh (setLow (setRN w g z.rows z.nulls) g z.low.null z.low.num z.low.txt) g z.high.null z.high.num z.high.txt
theorem setZn_B {w : World} {g : Nat} {y : Zn} (h : ZnB w g y) (z : Zn) : ZnB (setZn w g z) g z := setHigh_B (setLow_B (setRN_B h z.rows z.nulls) z.low) z.high
theorem setZn_fr (w : World) (g : Nat) (z : Zn) : Fr (One g) w (setZn w g z) := ((setRN_fr _ _ _ _).trans (setLow_fr _ _ _ _ _)).trans (setHigh_fr _ _ _ _ _)
theorem setNul_B {w : World} {g : Nat} {y : Zn} (h : ZnB w g y) (n : Int) : ZnB (w.setCell ⟨g, 1, none⟩ (.int .i64 n)) g ⟨y.rows, n, y.low, y.high⟩ := Blk.set h 1 _
/-- a call's end where its one result is a zone in a block -/
theorem ret_zn {fn : Func} {p : Tmp} (h : fn.results = #[.cell p 33]) (tmps : Array Value) (w : World) (g : Nat) (z : Zn)
    (hp : tmps.getD p undef = .pointer (some ⟨g, 0, none⟩)) (hg : ZnB w g z) : (results fn tmps).run Tryd.prog w = .ok (znV z) w :=
  results_cell_row h tmps w g 33 _ (0, 0) _ hp hg Tryd.underlying33 rfl (by kernel_rfl)

end Go.Proofs.YtpmipdnmhffkeaaDoor


namespace Go.Proofs.YtpmipdnmhffkeaaDoor
set_option linter.unusedVariables false
set_option linter.unusedSimpArgs false
set_option maxRecDepth 100000
open Go.RowKit

/-! ### Slices of zones -/
def znL (z : Zn) : List Value := [.int .i64 z.rows, .int .i64 z.nulls, .bool z.low.null, .int .i64 z.low.num, .string ⟨z.low.txt.toArray⟩, .bool z.high.null, .int .i64 z.high.num, .string ⟨z.high.txt.toArray⟩]
theorem fd_zn : Fd znL 8 := ⟨fun _ => rfl, fun x u hu => by simp [znL] at hu; rcases hu with rfl | rfl | rfl | rfl | rfl | rfl | rfl | rfl <;> rfl, by omega, by omega⟩
theorem eln_zn : Eln 28 33 (.agg #[.int .i64 0, .int .i64 0, .bool false, .int .i64 0, .string ⟨#[]⟩, .bool false, .int .i64 0, .string ⟨#[]⟩]) 8 80 := ⟨Tryd.underlying28, by kernel_rfl, rfl, by decide⟩
abbrev Zs (w : World) (v : Value) (l : List Zn) : Prop := Ns znL 8 w v l
abbrev Zo (w : World) (B : Nat) (v : Value) (l : List Zn) : Prop := No znL 8 33 w B v l
/-- a zone's cells, as a walk spells them -/
def ZAt (w : World) (a : Addr) (z : Zn) : Prop :=
  w.cell? a = some (.int .i64 z.rows) ∧ w.cell? { block := a.block, off := a.off + 1 } = some (.int .i64 z.nulls) ∧
  w.cell? { block := a.block, off := a.off + 2 } = some (.bool z.low.null) ∧ w.cell? { block := a.block, off := a.off + 3 } = some (.int .i64 z.low.num) ∧ w.cell? { block := a.block, off := a.off + 4 } = some (.string ⟨z.low.txt.toArray⟩) ∧
  w.cell? { block := a.block, off := a.off + 5 } = some (.bool z.high.null) ∧ w.cell? { block := a.block, off := a.off + 6 } = some (.int .i64 z.high.num) ∧ w.cell? { block := a.block, off := a.off + 7 } = some (.string ⟨z.high.txt.toArray⟩)
theorem zn_lit {w : World} {a : Addr} {z : Zn} (h : AtN w a (znL z)) : ZAt w a z :=
  ⟨h 0 _ rfl, h 1 _ rfl, h 2 _ rfl, h 3 _ rfl, h 4 _ rfl, h 5 _ rfl, h 6 _ rfl, h 7 _ rfl⟩
theorem ZAt.non {w w' : World} {a : Addr} {z : Zn} (h : ZAt w a z) (hf : Fr Non w w') : ZAt w' a z := by
  obtain ⟨h0, h1, h2, h3, h4, h5, h6, h7⟩ := h
  have k : ∀ {p : Addr} {u : Value}, w.cell? p = some u → w'.cell? p = some u := fun e => (hf.cell (World.block_lt_of_cell? _ _ e) (fun e => e)).trans e
  exact ⟨k h0, k h1, k h2, k h3, k h4, k h5, k h6, k h7⟩

/-- a cell of an old block, in a world behind -/
theorem Fr.at0 {w w' : World} (h : Fr Non w w') {p : Addr} {u : Value} (e : w.cell? p = some u) : w'.cell? p = some u := (h.cell (World.block_lt_of_cell? _ _ e) (fun e => e)).trans e
theorem add_none (a : Addr) : a.add 0 = a := by
  obtain ⟨B, o, e⟩ := a
  cases e <;> rfl

/-! ### Truths -/
def trV (t : Tr) : Value := .agg #[.bool t.yes, .bool t.no, .bool t.maybe]
/-- they lie in block g, of type E -/
abbrev TrB (E : TypeId) (w : World) (g : Nat) (t : Tr) : Prop := Blk w g E #[.bool t.yes, .bool t.no, .bool t.maybe]
theorem TrB.facts {E : TypeId} {w : World} {g : Nat} {t : Tr} (h : TrB E w g t) :
    w.cell? ⟨g, 0, none⟩ = some (.bool t.yes) ∧ w.cell? ⟨g, 1, none⟩ = some (.bool t.no) ∧ w.cell? ⟨g, 2, none⟩ = some (.bool t.maybe) ∧
    w.frozen? ⟨g, 0, none⟩ = false ∧ w.frozen? ⟨g, 1, none⟩ = false ∧ w.frozen? ⟨g, 2, none⟩ = false :=
  ⟨h.cell 0, h.cell 1, h.cell 2, h.frozen 0, h.frozen 1, h.frozen 2⟩
/-- stored whole, as a walk spells it -/
def setTr (w : World) (g : Nat) (a b c : Bool) : World := ((w.setCell ⟨g, 0, none⟩ (.bool a)).setCell ⟨g, 1, none⟩ (.bool b)).setCell ⟨g, 2, none⟩ (.bool c)
theorem setTr_B {E : TypeId} {w : World} {g : Nat} {t : Tr} (h : TrB E w g t) (a b c : Bool) : TrB E (setTr w g a b c) g ⟨a, b, c⟩ := ((Blk.set h 0 _).set 1 _).set 2 _
theorem setTr_fr (w : World) (g : Nat) (a b c : Bool) : Fr (One g) w (setTr w g a b c) := (((Fr.refl (One g) w).set1 0 _).set1 1 _).set1 2 _
theorem tr_newG (E : TypeId) (w : World) (t : Tr) (g : Nat) (hg : w.heap.size = g) : TrB E (w.alloc (.cells #[.bool t.yes, .bool t.no, .bool t.maybe] E)) g t := by subst hg; exact Blk.new _ _ _
theorem tr_new (E : TypeId) (w : World) (t : Tr) : TrB E (w.alloc (.cells #[.bool t.yes, .bool t.no, .bool t.maybe] E)) w.heap.size t := Blk.new _ _ _
/-- a call's end where its one result are truths in a block: the program's, the document's -/
theorem ret_tr {fn : Func} {p : Tmp} (h : fn.results = #[.cell p 35]) (tmps : Array Value) (w : World) (g : Nat) (t : Tr)
    (hp : tmps.getD p undef = .pointer (some ⟨g, 0, none⟩)) (hg : TrB 35 w g t) : (results fn tmps).run Tryd.prog w = .ok (trV t) w :=
  results_cell_row h tmps w g 35 _ (0, 0) _ hp hg Tryd.underlying35 rfl (by kernel_rfl)
theorem ret_tr2 {fn : Func} {p u : Tmp} (h : fn.results = #[.cell p 35, .tmp u]) (tmps : Array Value) (w : World) (g : Nat) (t : Tr) (v : Value)
    (hp : tmps.getD p undef = .pointer (some ⟨g, 0, none⟩)) (hv : tmps.getD u undef = v) (hg : TrB 35 w g t) : (results fn tmps).run Tryd.prog w = .ok (.tuple #[trV t, v]) w := by
  have hl : (loadVar 35 ⟨g, 0, none⟩).run Tryd.prog w = .ok (trV t) w :=
    run_loadVar_row w g 35 35 _ (0, 0) _ hg Tryd.underlying35 rfl (by kernel_rfl)
  rw [results_cell_tmp h, hp, hv]
  simp [asAddr, hl, Result.andThen]
/-! ### The opposites -/
def oppN (i : Nat) : Nat := [0, 2, 1, 6, 5, 4, 3].getD i 0
theorem oppN_is {q : Nat} (h : 1 ≤ q) (h2 : q ≤ 6) : ((oppN q : Nat) : Int) = oppI q := by
  have : q = 1 ∨ q = 2 ∨ q = 3 ∨ q = 4 ∨ q = 5 ∨ q = 6 := by omega
  rcases this with rfl | rfl | rfl | rfl | rfl | rfl <;> rfl
/-- the program's table lies where it was laid -/
def OppT (w : World) : Prop := ∀ i, i < 7 → w.cell? ⟨0, i, none⟩ = some (.int .i64 ((oppN i : Nat) : Int))
theorem OppT.non {w w' : World} (h : OppT w) (hf : Fr Non w w') : OppT w' := fun i hi => by
  have := h i hi
  rw [← this]
  exact hf.cell (p := ⟨_, i, none⟩) (World.block_lt_of_cell? w _ this) (fun e => e)

/-! ### What is joined -/
def andTr (a b : Tr) : Tr := ⟨a.yes && b.yes, a.no || b.no, a.maybe || b.maybe⟩
def orTr (a b : Tr) : Tr := ⟨a.yes || b.yes, a.no && b.no, a.maybe || b.maybe⟩
theorem allT_more (l : List Tr) (t : Tr) : allT2 (l ++ [t]) = andTr (allT2 l) t := by unfold allT2 andTr; simp
theorem anyT_more (l : List Tr) (t : Tr) : anyT2 (l ++ [t]) = orTr (anyT2 l) t := by unfold anyT2 orTr; simp
theorem allT_one (t : Tr) : allT2 [t] = t := by unfold allT2; simp
theorem anyT_one (t : Tr) : anyT2 [t] = t := by unfold anyT2; simp
theorem allT_take {t : Tr} {l : List Tr} {k : Nat} (h : k < l.length) : allT2 (t :: l.take (k + 1)) = andTr (allT2 (t :: l.take k)) l[k] := by
  rw [List.take_succ_eq_append_getElem h, ← List.cons_append, allT_more]
theorem anyT_take {t : Tr} {l : List Tr} {k : Nat} (h : k < l.length) : anyT2 (t :: l.take (k + 1)) = orTr (anyT2 (t :: l.take k)) l[k] := by
  rw [List.take_succ_eq_append_getElem h, ← List.cons_append, anyT_more]
end Go.Proofs.YtpmipdnmhffkeaaDoor


namespace Go.Proofs.YtpmipdnmhffkeaaDoor
set_option linter.unusedVariables false
set_option linter.unusedSimpArgs false
set_option maxRecDepth 100000
open Go.RowKit

set_option maxHeartbeats 1000000 in
theorem zhas_any (z : Zn) (c : Cl) (w : World) : Calls Tryd.prog 76 #[znV z, clV c] w fun e w' => e = .returned (.bool (hasZ z c)) ∧ Fr Non w w' := by
  have H0 := znCl_new w w.heap.size z c rfl
  have F0 : Fr Non w _ := ((Fr.refl Non w).alloc (.cells (znC z) 33)).alloc (.cells (clC c) 24)
  obtain ⟨n, i, t⟩ := c
  have B1 := fun W => bnd_any z W
  have O1 := fun W => order_any z.low ⟨n, i, t⟩ W
  have O2 := fun W => order_any ⟨n, i, t⟩ z.high W
  have HR0 := Lib.hid (show n = false → hasZ z ⟨n, i, t⟩ = (bndZ z && decide (ordC z.low ⟨n, i, t⟩ ≤ 0) && decide (ordC ⟨n, i, t⟩ z.high ≤ 0)) from fun e => by subst e; rfl)
  unfold znV clV at *
  unfold znC clC at *
  dsimp only at *
  have H0 := Lib.hid H0
  have F0 := Lib.hid F0
  cases n
  · have HR := Lib.hid (HR0.out rfl)
    clear HR0
    generalize bndZ z = b at *
    generalize ordC z.low ⟨false, i, t⟩ = x at *
    generalize ordC ⟨false, i, t⟩ z.high = y at *
    go_enter Tryd.func76, Tryd.ntmps76
    go_wp2_with fail
    refine (B1 _).mono ?_
    rintro e w1 ⟨rfl, f1⟩
    have h1 := H0.out.non f1
    have F1 := Lib.hid (F0.out.trans f1)
    cases b
    · clear B1 O1 O2
      go_wp2
      go_ret
      exact ⟨ret_boolE (by rw [HR.out]; rfl), F1.out⟩
    · obtain ⟨a0, a1, a2, a3, a4, a5, a6, a7⟩ := znB_cells h1.one
      obtain ⟨c0, c1, c2, _⟩ := h1.two.facts
      dsimp only at c0 c1 c2
      have h1 := Lib.hid h1
      clear B1 f1 F0
      go_wp2_with fail
      refine (O1 _).mono ?_
      rintro e w2 ⟨rfl, f2⟩
      have h2 := h1.out.non f2
      have F2 := Lib.hid (F1.out.trans f2)
      clear a0 a1 a2 a3 a4 a5 a6 a7 c0 c1 c2 O1 f2
      obtain ⟨a0, a1, a2, a3, a4, a5, a6, a7⟩ := znB_cells h2.one
      obtain ⟨c0, c1, c2, _⟩ := h2.two.facts
      dsimp only at c0 c1 c2
      have h2 := Lib.hid h2
      by_cases hx : x ≤ 0
      · have HE : Hid (hasZ z ⟨false, i, t⟩ = decide (y ≤ 0)) := Lib.hid (by rw [HR.out, decide_eq_true hx]; simp)
        go_wp2_with fail
        refine (O2 _).mono ?_
        rintro e w3 ⟨rfl, f3⟩
        have F3 := Lib.hid (F2.out.trans f3)
        clear O2 f3
        go_wp2
        go_ret
        exact ⟨ret_boolE HE.out.symm, F3.out⟩
      · have HE : Hid (hasZ z ⟨false, i, t⟩ = false) := Lib.hid (by rw [HR.out, decide_eq_false hx]; simp)
        clear O2
        go_wp2
        go_ret
        exact ⟨ret_boolE HE.out.symm, F2.out⟩
  · clear B1 O1 O2
    go_enter Tryd.func76, Tryd.ntmps76
    go_wp2
    go_ret
    exact ⟨ret_boolE rfl, F0.out⟩

end Go.Proofs.YtpmipdnmhffkeaaDoor


namespace Go.Proofs.YtpmipdnmhffkeaaDoor
set_option linter.unusedVariables false
set_option linter.unusedSimpArgs false
set_option maxRecDepth 100000
open Go.RowKit

theorem pzsome_any (z : Zn) (w : World) : Calls Tryd.prog 39 #[znV z] w fun e w' => e = .returned (.bool (someZ z)) ∧ Fr Non w w' := by
  unfold znV znC
  go_enter Tryd.func39, Tryd.ntmps39
  go_wp2
  go_ret
  exact ⟨rfl, (Fr.refl _ _).alloc _⟩

theorem pznot_any (t : Tr) (w : World) : Calls Tryd.prog 40 #[trV t] w fun e w' => e = .returned (trV (notT2 t)) ∧ Fr Non w w' := by
  obtain ⟨a, b, c⟩ := t
  unfold trV
  have hB := tr_newG 35 (w.alloc (.cells #[.bool a, .bool b, .bool c] 35)) ⟨b, a, c⟩ (w.heap.size + 1) (by simp)
  have hf := ((Fr.refl Non w).alloc (.cells #[.bool a, .bool b, .bool c] 35)).alloc (.cells #[.bool b, .bool a, .bool c] 35)
  replace hB := Lib.hid hB
  go_enter Tryd.func40, Tryd.ntmps40
  go_wp2
  exact bodyPost_ret (v := trV ⟨b, a, c⟩) (ret_tr (p := 2) rfl _ _ _ ⟨b, a, c⟩ (by rfl) hB.out) rfl ⟨rfl, hf⟩

/-- two truths boxed, and the answer's block -/
theorem pzand_any (s t : Tr) (w : World) : Calls Tryd.prog 42 #[trV s, trV t] w fun e w' => e = .returned (trV (andTr s t)) ∧ Fr Non w w' := by
  obtain ⟨a, b, c⟩ := s
  obtain ⟨d, e, f⟩ := t
  unfold trV
  have hB := tr_newG 35 ((w.alloc (.cells #[.bool a, .bool b, .bool c] 35)).alloc (.cells #[.bool d, .bool e, .bool f] 35)) ⟨a && d, b || e, c || f⟩ (w.heap.size + 1 + 1) (by simp)
  have hf := (((Fr.refl Non w).alloc (.cells #[.bool a, .bool b, .bool c] 35)).alloc (.cells #[.bool d, .bool e, .bool f] 35)).alloc (.cells #[.bool (a && d), .bool (b || e), .bool (c || f)] 35)
  dsimp only at hB
  replace hB := Lib.hid hB
  replace hf := Lib.hid hf
  cases a <;> cases b <;> cases c
  all_goals
    simp only [Bool.true_and, Bool.false_and, Bool.true_or, Bool.false_or] at hB hf
    go_enter Tryd.func42, Tryd.ntmps42
    go_wp2
    exact bodyPost_ret (v := trV _) (ret_tr (p := 4) rfl _ _ _ _ (by rfl) hB.out) rfl ⟨rfl, hf.out⟩
theorem pzor_any (s t : Tr) (w : World) : Calls Tryd.prog 43 #[trV s, trV t] w fun e w' => e = .returned (trV (orTr s t)) ∧ Fr Non w w' := by
  obtain ⟨a, b, c⟩ := s
  obtain ⟨d, e, f⟩ := t
  unfold trV
  have hB := tr_newG 35 ((w.alloc (.cells #[.bool a, .bool b, .bool c] 35)).alloc (.cells #[.bool d, .bool e, .bool f] 35)) ⟨a || d, b && e, c || f⟩ (w.heap.size + 1 + 1) (by simp)
  have hf := (((Fr.refl Non w).alloc (.cells #[.bool a, .bool b, .bool c] 35)).alloc (.cells #[.bool d, .bool e, .bool f] 35)).alloc (.cells #[.bool (a || d), .bool (b && e), .bool (c || f)] 35)
  dsimp only at hB
  replace hB := Lib.hid hB
  replace hf := Lib.hid hf
  cases a <;> cases b <;> cases c
  all_goals
    simp only [Bool.true_and, Bool.false_and, Bool.true_or, Bool.false_or] at hB hf
    go_enter Tryd.func43, Tryd.ntmps43
    go_wp2
    exact bodyPost_ret (v := trV _) (ret_tr (p := 4) rfl _ _ _ _ (by rfl) hB.out) rfl ⟨rfl, hf.out⟩

/-! ### A comparison, of what lies from low to high -/
theorem rng_1 (l h v : Cl) : rngI 1 l h v = (decide (ordC l v ≤ 0) && decide (0 ≤ ordC h v)) := rfl
theorem rng_2 (l h v : Cl) : rngI 2 l h v = (!ceq l v || !ceq h v) := by
  show (ordC l v != 0 || ordC h v != 0) = _
  rw [← ordC_zero l v, ← ordC_zero h v]; rfl
theorem rng_6 {op : Int} (l h v : Cl) (h1 : op ≠ 1) (h2 : op ≠ 2) (h3 : op ≠ 3) (h4 : op ≠ 4) (h5 : op ≠ 5) : rngI op l h v = decide (0 ≤ ordC h v) := by unfold rngI; rw [if_neg h1, if_neg h2, if_neg h3, if_neg h4, if_neg h5]
theorem has_rng {z : Zn} {c : Cl} (hn : c.null = false) (hb : bndZ z = true) : hasZ z c = rngI 1 z.low z.high c := by
  unfold hasZ
  rw [hn, hb, rng_1, ordC_neg z.high c]
  simp

set_option maxHeartbeats 1000000 in
theorem pzagrees_any (op : Int) (z : Zn) (c : Cl) (w : World) (hn : c.null = false) (hb : bndZ z = true) :
    Calls Tryd.prog 63 #[.int .i64 op, znV z, clV c] w fun e w' => e = .returned (.bool (rngI op z.low z.high c)) ∧ Fr Non w w' := by
  have H0 := znCl_new w w.heap.size z c rfl
  have F0 : Fr Non w _ := ((Fr.refl Non w).alloc (.cells (znC z) 33)).alloc (.cells (clC c) 24)
  have HH := Lib.hid (fun W => zhas_any z c W)
  rw [has_rng hn hb] at HH
  have HS1 := Lib.hid (fun W => csame_any z.low c W)
  have HS2 := Lib.hid (fun W => csame_any z.high c W)
  have HO1 := Lib.hid (fun W => order_any z.low c W)
  have HO2 := Lib.hid (fun W => order_any z.high c W)
  have HR2 := Lib.hid (rng_2 z.low z.high c)
  have HR6 := Lib.hid (fun a b d e f => rng_6 (op := op) z.low z.high c a b d e f)
  have HR3 : Hid (rngI 3 z.low z.high c = decide (ordC z.low c < 0)) := Lib.hid rfl
  have HR4 : Hid (rngI 4 z.low z.high c = decide (ordC z.low c ≤ 0)) := Lib.hid rfl
  have HR5 : Hid (rngI 5 z.low z.high c = decide (0 < ordC z.high c)) := Lib.hid rfl
  obtain ⟨n, i, t⟩ := c
  obtain ⟨r, u, ⟨ln, li, lt⟩, ⟨hn2, hi, ht⟩⟩ := z
  clear hn hb
  have hZ := znB_cells H0.one
  obtain ⟨c0, c1, c2, _⟩ := H0.two.facts
  unfold znV clV at *
  unfold znC clC at *
  unfold ZCells at hZ
  dsimp only at *
  obtain ⟨a0, a1, a2, a3, a4, a5, a6, a7⟩ := hZ
  replace H0 := Lib.hid H0
  replace F0 := Lib.hid F0
  by_cases h1 : op = 1
  · subst h1
    clear HS1 HS2 HO1 HO2 HR2 HR3 HR4 HR5 HR6
    generalize rngI 1 _ _ _ = y at *
    go_enter Tryd.func63, Tryd.ntmps63
    go_wp2_with fail
    refine (HH.out _).mono ?_
    rintro e w1 ⟨rfl, f1⟩
    go_wp2
    go_ret
    exact ⟨rfl, F0.out.trans f1⟩
  by_cases h2 : op = 2
  · subst h2
    clear HH HO1 HO2 HR3 HR4 HR5 HR6
    generalize rngI 2 _ _ _ = y at *
    generalize ceq ⟨ln, li, lt⟩ _ = b1 at *
    generalize ceq ⟨hn2, hi, ht⟩ _ = b2 at *
    go_enter Tryd.func63, Tryd.ntmps63
    go_wp2_with fail
    refine (HS1.out _).mono ?_
    rintro e w1 ⟨rfl, f1⟩
    have H1 := H0.out.non f1
    clear a0 a1 a2 a3 a4 a5 a6 a7 c0 c1 c2
    have hZ := znB_cells H1.one
    obtain ⟨c0, c1, c2, _⟩ := H1.two.facts
    unfold ZCells at hZ
    dsimp only at *
    obtain ⟨a0, a1, a2, a3, a4, a5, a6, a7⟩ := hZ
    have F1 := Lib.hid (F0.out.trans f1)
    clear f1 HS1 H1
    cases b1
    · go_wp2
      go_ret
      exact ⟨ret_boolE (by rw [HR2.out]; rfl), F1.out⟩
    · go_wp2_with fail
      refine (HS2.out _).mono ?_
      rintro e w2 ⟨rfl, f2⟩
      go_wp2
      go_ret
      exact ⟨ret_boolE (by rw [HR2.out]; rfl), F1.out.trans f2⟩
  clear HS1 HS2 HR2
  by_cases h3 : op = 3
  · subst h3
    clear HH HO2 HR4 HR5 HR6
    generalize rngI 3 _ _ _ = y at *
    generalize ordC ⟨ln, li, lt⟩ _ = x at *
    go_enter Tryd.func63, Tryd.ntmps63
    go_wp2_with fail
    refine (HO1.out _).mono ?_
    rintro e w1 ⟨rfl, f1⟩
    go_wp2
    go_ret
    exact ⟨ret_boolE HR3.out.symm, F0.out.trans f1⟩
  by_cases h4 : op = 4
  · subst h4
    clear HH HO2 HR3 HR5 HR6
    generalize rngI 4 _ _ _ = y at *
    generalize ordC ⟨ln, li, lt⟩ _ = x at *
    go_enter Tryd.func63, Tryd.ntmps63
    go_wp2_with fail
    refine (HO1.out _).mono ?_
    rintro e w1 ⟨rfl, f1⟩
    go_wp2
    go_ret
    exact ⟨ret_boolE HR4.out.symm, F0.out.trans f1⟩
  by_cases h5 : op = 5
  · subst h5
    clear HH HO1 HR3 HR4 HR6
    generalize rngI 5 _ _ _ = y at *
    generalize ordC ⟨hn2, hi, ht⟩ _ = x at *
    go_enter Tryd.func63, Tryd.ntmps63
    go_wp2_with fail
    refine (HO2.out _).mono ?_
    rintro e w1 ⟨rfl, f1⟩
    go_wp2
    go_ret
    exact ⟨ret_boolE HR5.out.symm, F0.out.trans f1⟩
  have HE := Lib.hid (HR6.out h1 h2 h3 h4 h5)
  have q1 : (op == 1) = false := by rw [beq_eq_false_iff_ne]; exact h1
  have q2 : (op == 2) = false := by rw [beq_eq_false_iff_ne]; exact h2
  have q3 : (op == 3) = false := by rw [beq_eq_false_iff_ne]; exact h3
  have q4 : (op == 4) = false := by rw [beq_eq_false_iff_ne]; exact h4
  have q5 : (op == 5) = false := by rw [beq_eq_false_iff_ne]; exact h5
  clear h1 h2 h3 h4 h5 HH HO1 HR3 HR4 HR5 HR6
  generalize rngI op _ _ _ = y at *
  generalize ordC ⟨hn2, hi, ht⟩ _ = x at *
  go_enter Tryd.func63, Tryd.ntmps63
  go_wp2_with fail
  refine (HO2.out _).mono ?_
  rintro e w1 ⟨rfl, f1⟩
  go_wp2
  go_ret
  exact ⟨ret_boolE HE.out.symm, F0.out.trans f1⟩
end Go.Proofs.YtpmipdnmhffkeaaDoor


namespace Go.Proofs.YtpmipdnmhffkeaaDoor
set_option linter.unusedVariables false
set_option linter.unusedSimpArgs false
set_option maxRecDepth 100000
open Go.RowKit

theorem ceq_no (c : Cl) (w : World) : Calls Tryd.prog 60 #[clV c, .agg #[.bool false, .int .i64 0, .string ⟨#[]⟩]] w fun e w' => e = .returned (.bool (ceq c noCl)) ∧ Fr Non w w' := csame_any c noCl w
/-- which zones, of a type's -/
theorem mayZ_is (ty : Int) (z : Zn) : mayZ ty z = (cntZ z && (isTy ty && (if bndZ z then mayC ty false z.low && (mayC ty false z.high && decide (ordC z.low z.high ≤ 0)) else ceq z.low noCl && ceq z.high noCl))) := by
  unfold mayZ
  cases cntZ z <;> cases isTy ty <;> cases bndZ z <;> simp [Bool.and_assoc]
set_option maxHeartbeats 1000000 in
theorem zmay_any (ty : Int) (z : Zn) (w : World) : Calls Tryd.prog 36 #[.int .i64 ty, znV z] w fun e w' => e = .returned (.bool (mayZ ty z)) ∧ Fr Non w w' := by
  have h0 : ZnB (w.alloc (.cells (znC z) 33)) w.heap.size z := Blk.new _ _ _
  have F0 : Fr Non w _ := (Fr.refl Non w).alloc (.cells (znC z) 33)
  have C1 := fun W => cnt_zn z W
  have T1 := fun W => ist_zn ty W
  have B1 := fun W => bnd_any z W
  have S1 := fun W => ceq_no z.low W
  have S2 := fun W => ceq_no z.high W
  have M1 := fun W => may_any ty false z.low W
  have M2 := fun W => may_any ty false z.high W
  have O1 := fun W => order_any z.low z.high W
  have HR := Lib.hid (mayZ_is ty z)
  unfold ZnB at h0
  unfold znV clV at *
  have h0 : Hid (ZnB _ w.heap.size z) := Lib.hid h0
  unfold znC clC at *
  have F0 := Lib.hid F0
  generalize cntZ z = c at *
  generalize isTy ty = t at *
  generalize bndZ z = b at *
  generalize ceq z.low noCl = e1 at *
  generalize ceq z.high noCl = e2 at *
  generalize mayC ty false z.low = m1 at *
  generalize mayC ty false z.high = m2 at *
  generalize ordC z.low z.high = x at *
  go_enter Tryd.func36, Tryd.ntmps36
  go_wp2_with fail
  refine (C1 _).mono ?_
  rintro e w1 ⟨rfl, f1⟩
  have h1 := h0.out.fr f1 (fun e => e)
  have F1 := Lib.hid (F0.out.trans f1)
  obtain ⟨a0, a1, a2, a3, a4, a5, a6, a7⟩ := znB_cells h1
  have h1 := Lib.hid h1
  clear f1
  clear C1
  cases c
  · clear T1 B1 S1 S2 M1 M2 O1
    go_wp2
    go_ret
    exact ⟨ret_boolE (by rw [HR.out]; rfl), F1.out⟩
  · skip
    go_wp2_with fail
    refine (T1 _).mono ?_
    rintro e w2 ⟨rfl, f2⟩
    have h2 := h1.out.fr f2 (fun e => e)
    have F2 := Lib.hid (F1.out.trans f2)
    clear a0 a1 a2 a3 a4 a5 a6 a7
    obtain ⟨a0, a1, a2, a3, a4, a5, a6, a7⟩ := znB_cells h2
    have h2 := Lib.hid h2
    clear f2
    clear T1
    cases t
    · clear B1 S1 S2 M1 M2 O1
      go_wp2
      go_ret
      exact ⟨ret_boolE (by rw [HR.out]; rfl), F2.out⟩
    · skip
      go_wp2_with fail
      refine (B1 _).mono ?_
      rintro e w3 ⟨rfl, f3⟩
      have h3 := h2.out.fr f3 (fun e => e)
      have F3 := Lib.hid (F2.out.trans f3)
      clear a0 a1 a2 a3 a4 a5 a6 a7
      obtain ⟨a0, a1, a2, a3, a4, a5, a6, a7⟩ := znB_cells h3
      have h3 := Lib.hid h3
      clear f3
      clear B1
      cases b
      · clear M1 M2 O1
        go_wp2_with fail
        refine (S1 _).mono ?_
        rintro e w4 ⟨rfl, f4⟩
        have h4 := h3.out.fr f4 (fun e => e)
        have F4 := Lib.hid (F3.out.trans f4)
        clear a0 a1 a2 a3 a4 a5 a6 a7
        obtain ⟨a0, a1, a2, a3, a4, a5, a6, a7⟩ := znB_cells h4
        have h4 := Lib.hid h4
        clear f4
        clear S1
        cases e1
        · clear S2
          go_wp2
          go_ret
          exact ⟨ret_boolE (by rw [HR.out]; rfl), F4.out⟩
        · skip
          go_wp2_with fail
          refine (S2 _).mono ?_
          rintro e w5 ⟨rfl, f5⟩
          have h5 := h4.out.fr f5 (fun e => e)
          have F5 := Lib.hid (F4.out.trans f5)
          clear a0 a1 a2 a3 a4 a5 a6 a7
          obtain ⟨a0, a1, a2, a3, a4, a5, a6, a7⟩ := znB_cells h5
          have h5 := Lib.hid h5
          clear f5
          go_wp2
          go_ret
          exact ⟨ret_boolE (by rw [HR.out]; rfl), F5.out⟩
      · clear S1 S2
        go_wp2_with fail
        refine (M1 _).mono ?_
        rintro e w4 ⟨rfl, f4⟩
        have h4 := h3.out.fr f4 (fun e => e)
        have F4 := Lib.hid (F3.out.trans f4)
        clear a0 a1 a2 a3 a4 a5 a6 a7
        obtain ⟨a0, a1, a2, a3, a4, a5, a6, a7⟩ := znB_cells h4
        have h4 := Lib.hid h4
        clear f4
        clear M1
        cases m1
        · clear M2 O1
          go_wp2
          go_ret
          exact ⟨ret_boolE (by rw [HR.out]; rfl), F4.out⟩
        · skip
          go_wp2_with fail
          refine (M2 _).mono ?_
          rintro e w5 ⟨rfl, f5⟩
          have h5 := h4.out.fr f5 (fun e => e)
          have F5 := Lib.hid (F4.out.trans f5)
          clear a0 a1 a2 a3 a4 a5 a6 a7
          obtain ⟨a0, a1, a2, a3, a4, a5, a6, a7⟩ := znB_cells h5
          have h5 := Lib.hid h5
          clear f5
          clear M2
          cases m2
          · clear O1
            go_wp2
            go_ret
            exact ⟨ret_boolE (by rw [HR.out]; rfl), F5.out⟩
          · skip
            go_wp2_with fail
            refine (O1 _).mono ?_
            rintro e w6 ⟨rfl, f6⟩
            have h6 := h5.out.fr f6 (fun e => e)
            have F6 := Lib.hid (F5.out.trans f6)
            clear a0 a1 a2 a3 a4 a5 a6 a7
            obtain ⟨a0, a1, a2, a3, a4, a5, a6, a7⟩ := znB_cells h6
            have h6 := Lib.hid h6
            clear f6
            go_wp2
            go_ret
            exact ⟨ret_boolE (by rw [HR.out]; rfl), F6.out⟩

end Go.Proofs.YtpmipdnmhffkeaaDoor


namespace Go.Proofs.YtpmipdnmhffkeaaDoor
set_option linter.unusedVariables false
set_option linter.unusedSimpArgs false
set_option maxRecDepth 100000
open Go.RowKit

/-- a slice's words -/
structure Kv where
  A : Option Addr
  n : Nat
  c : Nat
def kidV (s : Kv) : Value := .slice s.A s.n s.c
def noKv : Kv := ⟨none, 0, 0⟩
/-- a predicate's cells, and its value -/
def pdL (x : Ph × Kv) : List Value := [.int .i64 x.1.op, .string ⟨x.1.col.toArray⟩, .int .i64 x.1.cmp, .bool x.1.val.null, .int .i64 x.1.val.num, .string ⟨x.1.val.txt.toArray⟩, .int .i64 x.1.kind, .string ⟨x.1.pat.toArray⟩, kidV x.2]
def pdC (h : Ph) (s : Kv) : Array Value := #[.int .i64 h.op, .string ⟨h.col.toArray⟩, .int .i64 h.cmp, .bool h.val.null, .int .i64 h.val.num, .string ⟨h.val.txt.toArray⟩, .int .i64 h.kind, .string ⟨h.pat.toArray⟩, kidV s]
def pdV (h : Ph) (s : Kv) : Value := .agg (pdC h s)
/-- as a walk spells them -/
def PCells (w : World) (a : Addr) (h : Ph) (s : Kv) : Prop :=
  w.cell? a = some (.int .i64 h.op) ∧ w.cell? { block := a.block, off := a.off + 1 } = some (.string ⟨h.col.toArray⟩) ∧ w.cell? { block := a.block, off := a.off + 2 } = some (.int .i64 h.cmp) ∧
  w.cell? { block := a.block, off := a.off + 3 } = some (.bool h.val.null) ∧ w.cell? { block := a.block, off := a.off + 4 } = some (.int .i64 h.val.num) ∧ w.cell? { block := a.block, off := a.off + 5 } = some (.string ⟨h.val.txt.toArray⟩) ∧
  w.cell? { block := a.block, off := a.off + 6 } = some (.int .i64 h.kind) ∧ w.cell? { block := a.block, off := a.off + 7 } = some (.string ⟨h.pat.toArray⟩) ∧ w.cell? { block := a.block, off := a.off + 8 } = some (.slice s.A s.n s.c)
theorem pd_lit {w : World} {a : Addr} {h : Ph} {s : Kv} (e : AtN w a (pdL (h, s))) : PCells w a h s :=
  ⟨e 0 _ rfl, e 1 _ rfl, e 2 _ rfl, e 3 _ rfl, e 4 _ rfl, e 5 _ rfl, e 6 _ rfl, e 7 _ rfl, e 8 _ rfl⟩
/-- the predicate lies in block g -/
abbrev PdB (w : World) (g : Nat) (h : Ph) (s : Kv) : Prop := Blk w g 27 (pdC h s)
def PBlk (w : World) (g : Nat) (h : Ph) (s : Kv) : Prop :=
  w.cell? ⟨g, 0, none⟩ = some (.int .i64 h.op) ∧ w.cell? ⟨g, 1, none⟩ = some (.string ⟨h.col.toArray⟩) ∧ w.cell? ⟨g, 2, none⟩ = some (.int .i64 h.cmp) ∧
  w.cell? ⟨g, 3, none⟩ = some (.bool h.val.null) ∧ w.cell? ⟨g, 4, none⟩ = some (.int .i64 h.val.num) ∧ w.cell? ⟨g, 5, none⟩ = some (.string ⟨h.val.txt.toArray⟩) ∧
  w.cell? ⟨g, 6, none⟩ = some (.int .i64 h.kind) ∧ w.cell? ⟨g, 7, none⟩ = some (.string ⟨h.pat.toArray⟩) ∧ w.cell? ⟨g, 8, none⟩ = some (.slice s.A s.n s.c)
theorem pdB_cells {w : World} {g : Nat} {h : Ph} {s : Kv} (e : PdB w g h s) : PBlk w g h s :=
  ⟨e.cell 0, e.cell 1, e.cell 2, e.cell 3, e.cell 4, e.cell 5, e.cell 6, e.cell 7, e.cell 8⟩
theorem pd_new (w : World) (g : Nat) (h : Ph) (s : Kv) (hg : g = w.heap.size) : PdB (w.alloc (.cells (pdC h s) 27)) g h s := by subst hg; exact Blk.new _ _ _
theorem pd2_new (w : World) (g : Nat) (a b : Ph) (s t : Kv) (hg : g = w.heap.size) : PdB ((w.alloc (.cells (pdC a s) 27)).alloc (.cells (pdC b t) 27)) g a s ∧ PdB ((w.alloc (.cells (pdC a s) 27)).alloc (.cells (pdC b t) 27)) (g + 1) b t := by
  subst hg
  refine ⟨(Blk.new _ _ _).fr ((Fr.refl Non _).alloc _) (fun e => e), ?_⟩
  have h : PdB ((w.alloc (.cells (pdC a s) 27)).alloc (.cells (pdC b t) 27)) (w.alloc (.cells (pdC a s) 27)).heap.size b t := Blk.new _ _ _
  rw [show (w.alloc (.cells (pdC a s) 27)).heap.size = w.heap.size + 1 by simp] at h
  exact h

/-! ### Trees -/
/-- the slice s reads as the predicates ps, with all that is within them -/
inductive Kd (w : World) : Kv → List Pd → Prop
  | mk (s : Kv) (ns : List (Ph × Kv)) (ps : List Pd) (hl : ns.length = ps.length) (hN : Ns pdL 9 w (kidV s) ns)
    (hh : ∀ i (h1 : i < ns.length) (h2 : i < ps.length), ns[i].1 = ps[i].hd) (hb : ∀ i (h2 : i < ps.length), I64b ps[i].hd.val.num)
    (hk : ∀ i (h1 : i < ns.length) (h2 : i < ps.length), Kd w ns[i].2 ps[i].kids) : Kd w s ps
theorem Kd.non {w w' : World} {s : Kv} {ps : List Pd} (h : Kd w s ps) (hf : Fr Non w w') : Kd w' s ps := by
  induction h with
  | mk s ns ps hl hN hh hb hk ih => exact .mk s ns ps hl (hN.non hf) hh hb ih
theorem Kd.nil_ (w : World) : Kd w noKv [] := .mk _ [] [] rfl (Ns.nil_ w) (fun i h => by cases h) (fun i h => by cases h) (fun i h => by cases h)
theorem Kd.len {w : World} {s : Kv} {ps : List Pd} (h : Kd w s ps) : s.n = ps.length := by
  cases h with
  | mk s ns ps hl hN hh hb hk =>
    obtain ⟨A, c, e, _⟩ := hN
    unfold kidV at e
    simp only [Value.slice.injEq] at e
    omega
/-- the one at j -/
theorem Kd.el {w : World} {s : Kv} {ps : List Pd} (h : Kd w s ps) (j : Nat) (hj : j < ps.length) :
    ∃ a t, s.A = some a ∧ PCells w (a.add (j * 9)) ps[j].hd t ∧ Kd w t ps[j].kids ∧ I64b ps[j].hd.val.num := by
  cases h with
  | mk s ns ps hl hN hh hb hk =>
    have hj' : j < ns.length := by omega
    obtain ⟨a, ha, hc⟩ := hN.at_ j ns[j] (List.getElem?_eq_getElem hj')
    have e := hh j hj' hj
    refine ⟨a, ns[j].2, ha, ?_, hk j hj' hj, hb j hj⟩
    rw [← e]
    exact pd_lit hc

/-! ### Two compared -/
def peq (a b : Ph) : Bool := decide (a = b)
theorem ceq_unl {a b : Cl} (h : ceq a b = false) : a ≠ b := by simpa [ceq] using h
set_option maxHeartbeats 2000000 in
theorem alike_any (a b : Ph) (s t : Kv) (w : World) : Calls Tryd.prog 67 #[pdV a s, pdV b t] w fun e w' => e = .returned (.bool (peq a b)) ∧ Fr Non w w' := by
  have S1 := fun W => csame_any a.val b.val W
  have B0 := Lib.hid (pd2_new w _ a b s t rfl)
  have HN : Hid (a ≠ b → peq a b = false) := Lib.hid (fun h => decide_eq_false h)
  have HA : Hid (a = b → peq a b = true) := Lib.hid (fun h => decide_eq_true h)
  obtain ⟨ao, ac, am, ⟨an, ai, at_⟩, ak, ap⟩ := a
  obtain ⟨bo, bc, bm, ⟨bn, bi, bt⟩, bk, bp⟩ := b
  obtain ⟨sA, sn, sc⟩ := s
  obtain ⟨tA, tn, tc⟩ := t
  unfold pdV pdC kidV
  unfold PdB pdC kidV at B0
  unfold clV clC at S1
  dsimp only at *
  by_cases ho : ao = bo
  · subst ho
    by_cases hc : ac = bc
    · subst hc
      by_cases hm : am = bm
      · subst hm
        by_cases hk : ak = bk
        · subst hk
          cases hv : ceq ⟨an, ai, at_⟩ ⟨bn, bi, bt⟩
          · have HE : Hid (peq _ _ = false) := Lib.hid (HN.out (fun e => ceq_unl hv (by cases e; rfl)))
            simp only [hv] at S1
            clear HN HA hv B0
            replace S1 := Lib.hid S1
            go_enter Tryd.func67, Tryd.ntmps67
            go_wp2_with fail
            refine (S1.out _).mono ?_
            rintro e w1 ⟨rfl, f1⟩
            go_wp2
            go_ret
            exact ⟨ret_boolE HE.out.symm, (((Fr.refl _ _).alloc _).alloc _).trans f1⟩
          · simp only [hv] at S1
            have hv2 := ceq_is hv
            clear hv
            cases hv2
            have HE : Hid (peq ⟨ao, ac, am, ⟨an, ai, at_⟩, ak, ap⟩ ⟨ao, ac, am, ⟨an, ai, at_⟩, ak, bp⟩ = (ap == bp)) := Lib.hid (by
              by_cases e : ap = bp
              · subst e; rw [HA.out rfl]; simp
              · rw [HN.out (fun h => e (by cases h; rfl))]; symm; rw [beq_eq_false_iff_ne]; exact e)
            clear HN HA
            replace S1 := Lib.hid S1
            go_enter Tryd.func67, Tryd.ntmps67
            go_wp2_with fail
            refine (S1.out _).mono ?_
            rintro e w1 ⟨rfl, f1⟩
            have g1 := (B0.out.1.fr f1 (fun e => e)).cell 7
            have g2 := (B0.out.2.fr f1 (fun e => e)).cell 7
            simp at g1 g2
            clear B0
            go_wp2
            go_ret
            exact ⟨ret_boolE HE.out.symm, (((Fr.refl _ _).alloc _).alloc _).trans f1⟩
        · have ek : (ak == bk) = false := by rw [beq_eq_false_iff_ne]; exact hk
          have HE : Hid (peq _ _ = false) := Lib.hid (HN.out (fun e => hk (by cases e; rfl)))
          clear S1 hk HN HA B0
          go_enter Tryd.func67, Tryd.ntmps67
          go_wp2
          go_ret
          exact ⟨ret_boolE HE.out.symm, ((Fr.refl _ _).alloc _).alloc _⟩
      · have em : (am == bm) = false := by rw [beq_eq_false_iff_ne]; exact hm
        have HE : Hid (peq _ _ = false) := Lib.hid (HN.out (fun e => hm (by cases e; rfl)))
        clear S1 hm HN HA B0
        go_enter Tryd.func67, Tryd.ntmps67
        go_wp2
        go_ret
        exact ⟨ret_boolE HE.out.symm, ((Fr.refl _ _).alloc _).alloc _⟩
    · have ec : (ac == bc) = false := by rw [beq_eq_false_iff_ne]; exact hc
      have HE : Hid (peq _ _ = false) := Lib.hid (HN.out (fun e => hc (by cases e; rfl)))
      clear S1 hc HN HA B0
      go_enter Tryd.func67, Tryd.ntmps67
      go_wp2
      go_ret
      exact ⟨ret_boolE HE.out.symm, ((Fr.refl _ _).alloc _).alloc _⟩
  · have eo : (ao == bo) = false := by rw [beq_eq_false_iff_ne]; exact ho
    have HE : Hid (peq _ _ = false) := Lib.hid (HN.out (fun e => ho (by cases e; rfl)))
    clear S1 ho HN HA B0
    go_enter Tryd.func67, Tryd.ntmps67
    go_wp2
    go_ret
    exact ⟨ret_boolE HE.out.symm, ((Fr.refl _ _).alloc _).alloc _⟩

set_option maxHeartbeats 2000000 in
theorem flat_any (a b : Ph) (s t : Kv) (w : World) : Calls Tryd.prog 77 #[pdV a s, pdV b t] w fun e w' => e = .returned (.bool (peq a b)) ∧ Fr Non w w' := by
  have S1 := fun W => run_eql_cl W a.val b.val
  have B0 := Lib.hid (pd2_new w _ a b s t rfl)
  have HN : Hid (a ≠ b → peq a b = false) := Lib.hid (fun h => decide_eq_false h)
  have HA : Hid (a = b → peq a b = true) := Lib.hid (fun h => decide_eq_true h)
  obtain ⟨ao, ac, am, ⟨an, ai, at_⟩, ak, ap⟩ := a
  obtain ⟨bo, bc, bm, ⟨bn, bi, bt⟩, bk, bp⟩ := b
  obtain ⟨sA, sn, sc⟩ := s
  obtain ⟨tA, tn, tc⟩ := t
  unfold pdV pdC kidV
  unfold PdB pdC kidV at B0
  dsimp only at *
  by_cases ho : ao = bo
  · subst ho
    by_cases hc : ac = bc
    · subst hc
      by_cases hm : am = bm
      · subst hm
        cases hv : ceq ⟨an, ai, at_⟩ ⟨bn, bi, bt⟩
        · have HE : Hid (peq _ _ = false) := Lib.hid (HN.out (fun e => ceq_unl hv (by cases e; rfl)))
          simp only [hv] at S1
          clear HN HA hv B0
          go_enter Tryd.func77, Tryd.ntmps77
          go_wp2
          go_ret
          exact ⟨ret_boolE HE.out.symm, ((Fr.refl _ _).alloc _).alloc _⟩
        · simp only [hv] at S1
          have hv2 := ceq_is hv
          clear hv
          cases hv2
          by_cases hk : ak = bk
          · subst hk
            have HE : Hid (peq ⟨ao, ac, am, ⟨an, ai, at_⟩, ak, ap⟩ ⟨ao, ac, am, ⟨an, ai, at_⟩, ak, bp⟩ = (ap == bp)) := Lib.hid (by
              by_cases e : ap = bp
              · subst e; rw [HA.out rfl]; simp
              · rw [HN.out (fun h => e (by cases h; rfl))]; symm; rw [beq_eq_false_iff_ne]; exact e)
            clear HN HA
            clear B0
            go_enter Tryd.func77, Tryd.ntmps77
            go_wp2
            go_ret
            exact ⟨ret_boolE HE.out.symm, ((Fr.refl _ _).alloc _).alloc _⟩
          · have ek : (ak == bk) = false := by rw [beq_eq_false_iff_ne]; exact hk
            have HE : Hid (peq _ _ = false) := Lib.hid (HN.out (fun e => hk (by cases e; rfl)))
            clear S1 hk HN HA B0
            go_enter Tryd.func77, Tryd.ntmps77
            go_wp2
            go_ret
            exact ⟨ret_boolE HE.out.symm, ((Fr.refl _ _).alloc _).alloc _⟩
      · have em : (am == bm) = false := by rw [beq_eq_false_iff_ne]; exact hm
        have HE : Hid (peq _ _ = false) := Lib.hid (HN.out (fun e => hm (by cases e; rfl)))
        clear S1 hm HN HA B0
        go_enter Tryd.func77, Tryd.ntmps77
        go_wp2
        go_ret
        exact ⟨ret_boolE HE.out.symm, ((Fr.refl _ _).alloc _).alloc _⟩
    · have ec : (ac == bc) = false := by rw [beq_eq_false_iff_ne]; exact hc
      have HE : Hid (peq _ _ = false) := Lib.hid (HN.out (fun e => hc (by cases e; rfl)))
      clear S1 hc HN HA B0
      go_enter Tryd.func77, Tryd.ntmps77
      go_wp2
      go_ret
      exact ⟨ret_boolE HE.out.symm, ((Fr.refl _ _).alloc _).alloc _⟩
  · have eo : (ao == bo) = false := by rw [beq_eq_false_iff_ne]; exact ho
    have HE : Hid (peq _ _ = false) := Lib.hid (HN.out (fun e => ho (by cases e; rfl)))
    clear S1 ho HN HA B0
    go_enter Tryd.func77, Tryd.ntmps77
    go_wp2
    go_ret
    exact ⟨ret_boolE HE.out.symm, ((Fr.refl _ _).alloc _).alloc _⟩
end Go.Proofs.YtpmipdnmhffkeaaDoor


namespace Go.Proofs.YtpmipdnmhffkeaaDoor
set_option linter.unusedVariables false
set_option linter.unusedSimpArgs false
set_option maxRecDepth 100000
open Go.RowKit

/-- a text's cell -/
def sv (l : List UInt8) : Value := .string ⟨l.toArray⟩
end Go.Proofs.YtpmipdnmhffkeaaDoor


namespace Go.Proofs.YtpmipdnmhffkeaaDoor
set_option linter.unusedVariables false
set_option linter.unusedSimpArgs false
set_option maxRecDepth 100000
open Go.RowKit

theorem isletter_any (r : Int) (w : World) : Calls Tryd.prog 83 #[.int .i32 r] w fun e w' => e = .returned (.bool (ltrI r)) ∧ w = w' := by
  by_cases h1 : 97 ≤ r
  · by_cases h2 : r ≤ 122
    · have H := Lib.hid (show ltrI r = true by simp [ltrI, h1, h2])
      go_enter Tryd.func83, Tryd.ntmps83
      go_wp2
      go_ret
      exact ⟨ret_boolE H.out.symm, rfl⟩
    · have H := Lib.hid (show ltrI r = false by simp [ltrI, h1, h2])
      go_enter Tryd.func83, Tryd.ntmps83
      go_wp2
      go_ret
      exact ⟨ret_boolE H.out.symm, rfl⟩
  · have H := Lib.hid (show ltrI r = false by simp [ltrI, h1])
    go_enter Tryd.func83, Tryd.ntmps83
    go_wp2
    go_ret
    exact ⟨ret_boolE H.out.symm, rfl⟩
theorem isdigit_any (r : Int) (w : World) : Calls Tryd.prog 84 #[.int .i32 r] w fun e w' => e = .returned (.bool (dgtI r)) ∧ w = w' := by
  by_cases h1 : 48 ≤ r
  · by_cases h2 : r ≤ 57
    · have H := Lib.hid (show dgtI r = true by simp [dgtI, h1, h2])
      go_enter Tryd.func84, Tryd.ntmps84
      go_wp2
      go_ret
      exact ⟨ret_boolE H.out.symm, rfl⟩
    · have H := Lib.hid (show dgtI r = false by simp [dgtI, h1, h2])
      go_enter Tryd.func84, Tryd.ntmps84
      go_wp2
      go_ret
      exact ⟨ret_boolE H.out.symm, rfl⟩
  · have H := Lib.hid (show dgtI r = false by simp [dgtI, h1])
    go_enter Tryd.func84, Tryd.ntmps84
    go_wp2
    go_ret
    exact ⟨ret_boolE H.out.symm, rfl⟩

set_option maxHeartbeats 4000000 in
theorem isword_any (l : List UInt8) (w : World) : Calls Tryd.prog 82 #[.string ⟨l.toArray⟩] w fun e w' => e = .returned (.bool (decide (l ∈ wordsL))) ∧ w = w' := by
  go_enter Tryd.func82, Tryd.ntmps82
  go_wp2
  all_goals
    go_ret
    exact ⟨ret_boolE (by simp_all [wordsL]), rfl⟩

theorem words_any (w : World) : Calls Tryd.prog 78 #[] w fun e w' => ∃ v, e = .returned v ∧ Vs sv w' v wordsL ∧ Fr Non w w' := by
  have hv := ow_lit (f := sv) (E := 9) w 0 _ wordsL #[.string ⟨#[97, 110, 100]⟩, .string ⟨#[111, 114]⟩, .string ⟨#[110, 111, 116]⟩, .string ⟨#[105, 115]⟩, .string ⟨#[110, 117, 108, 108]⟩, .string ⟨#[108, 105, 107, 101]⟩, .string ⟨#[116, 114, 117, 101]⟩, .string ⟨#[102, 97, 108, 115, 101]⟩, .string ⟨#[115, 101, 108, 101, 99, 116]⟩, .string ⟨#[102, 114, 111, 109]⟩, .string ⟨#[119, 104, 101, 114, 101]⟩, .string ⟨#[103, 114, 111, 117, 112]⟩, .string ⟨#[98, 121]⟩, .string ⟨#[97, 108, 108]⟩, .string ⟨#[99, 111, 117, 110, 116]⟩, .string ⟨#[104, 97, 115]⟩, .string ⟨#[115, 117, 109]⟩, .string ⟨#[109, 105, 110]⟩, .string ⟨#[109, 97, 120]⟩] rfl rfl (Nat.zero_le _) (by unfold maxLen; decide)
  have HV := Lib.hid hv.vs
  clear hv
  go_enter Tryd.func78, Tryd.ntmps78
  go_wp2
  go_ret
  exact ⟨_, rfl, HV.out, (Fr.refl _ _).alloc _⟩
end Go.Proofs.YtpmipdnmhffkeaaDoor


namespace Go.Proofs.YtpmipdnmhffkeaaDoor
set_option linter.unusedVariables false
set_option linter.unusedSimpArgs false
set_option maxRecDepth 100000
open Go.RowKit

theorem slenN (l : List UInt8) : ByteArray.size ⟨l.toArray⟩ = l.length := by simp [ByteArray.size]
theorem not_word {l : List UInt8} (h : ∀ j (hj : j < wordsL.length), wordsL[j] ≠ l) : l ∉ wordsL := by
  intro hm
  obtain ⟨j, hj, e⟩ := List.mem_iff_getElem.1 hm
  exact h j hj e
theorem nmOk_more {l : List UInt8} {k : Nat} (h : ∀ j (hj : j < l.length), j < k → okI j (l[j]).toNat = true) (hk : k < l.length) (hc : okI k (l[k]).toNat = true) : ∀ j (hj : j < l.length), j < k + 1 → okI j (l[j]).toNat = true := by
  intro j hj hlt
  by_cases e : j = k
  · subst e; exact hc
  · exact h j hj (by omega)

set_option maxHeartbeats 2000000 in
theorem rname_any (l : List UInt8) (w : World) (hl : l.length ≤ 1000000000) : Calls Tryd.prog 66 #[.string ⟨l.toArray⟩] w fun e w' => e = .returned (.bool (nameB l)) ∧ Fr Non w w' := by
  have hs := slenN l
  go_enter Tryd.func66, Tryd.ntmps66
  go_wp2
  go_loop [3] (fun i => ∃ k : Nat, k ≤ l.length ∧ i = .int .i64 k ∧ Hid (∀ j (hj : j < l.length), j < k → okI j (l[j]).toNat = true)) (fun i => l.length - (intOf i).toNat)
  case atStart => exact ⟨0, by omega, rfl, Lib.hid (fun _ _ h => by omega)⟩
  case round =>
    obtain ⟨k, hk, rfl, hok⟩ := hrel
    by_cases hlt : k < l.length
    · obtain ⟨c, hc⟩ : ∃ c, l[k] = c := ⟨_, rfl⟩
      have hb := byte_at l k c hlt hc
      have HC := Lib.hid hc
      clear hc
      have HM := Lib.hid (fun (h : okI k c.toNat = true) => nmOk_more hok.out hlt (by rw [HC.out]; exact h))
      have HX := Lib.hid (fun (h : okI k c.toNat = false) => name_bad hlt (by rw [HC.out]; exact h))
      clear HC hok
      go_wp2
      all_goals first
        | (go_ret
           refine ⟨ret_boolE (HX.out ?_).symm, Fr.refl _ _⟩
           clear HX HM hb hs
           rw [Bool.eq_false_iff]
           intro hh
           simp [okI, ltrI, dgtI] at *
           done)
        | (go_ret
           refine ⟨ret_boolE (HX.out ?_).symm, Fr.refl _ _⟩
           clear HX HM hb hs
           rw [Bool.eq_false_iff]
           intro hh
           simp [okI, ltrI, dgtI] at *
           omega)
        | (go_roundw
           case rel =>
             refine ⟨k + 1, by omega, by go_num, Lib.hid (HM.out ?_)⟩
             clear HX HM hb hs
             simp [okI, ltrI, dgtI] at *
             omega
           case measure => simp [intOf]; omega)
        | (go_roundw
           case rel =>
             refine ⟨k + 1, by omega, by go_num, Lib.hid (HM.out ?_)⟩
             clear HX HM hb hs
             simp [okI, ltrI, dgtI] at *
             done
           case measure => simp [intOf]; omega)
    · have HO : Hid (nmOk l) := Lib.hid (fun j hj => hok.out j hj (by omega))
      clear hok
      go_wp2_with fail
      refine (words_any _).mono ?_
      rintro e w1 ⟨v, rfl, hv, hf1⟩
      have hw : wordsL.length = 19 := rfl
      obtain ⟨A, c, he, hc, hn, hcell⟩ := hv
      rw [hw] at he hc
      subst he
      have HN := Lib.hid hn
      have HCE := Lib.hid hcell
      have HF := Lib.hid hf1
      clear hn hcell hf1
      go_wp2
      go_loop [8] (fun i => ∃ q : Nat, q ≤ 19 ∧ i = .int .i64 q ∧ Hid (∀ j (hj : j < wordsL.length), j < q → wordsL[j] ≠ l)) (fun i => 19 - (intOf i).toNat)
      case atStart => exact ⟨0, by omega, rfl, Lib.hid (fun _ _ h => by omega)⟩
      case round =>
        obtain ⟨q, hq, rfl, hne⟩ := hrel
        by_cases hlq : q < 19
        · cases A with
          | none => have := HN.out rfl; omega
          | some a =>
            have hql : q < wordsL.length := by rw [hw]; exact hlq
            have hce := HCE.out a rfl q hql
            unfold sv at hce
            by_cases he : wordsL[q] = l
            · have HE := Lib.hid (name_word (l := l) (by rw [← he]; exact List.getElem_mem hql))
              rw [he] at hce
              clear he
              go_wp2
              go_ret
              exact ⟨ret_boolE HE.out.symm, HF.out⟩
            · have HE : Hid (∀ j (hj : j < wordsL.length), j < q + 1 → wordsL[j] ≠ l) := Lib.hid (fun j hj hlt => by
                by_cases e : j = q
                · subst e; exact he
                · exact hne.out j hj (by omega))
              have hb : (wordsL[q] == l) = false := by rw [beq_eq_false_iff_ne]; exact he
              clear he hne
              generalize wordsL[q] = x at *
              go_wp2
              go_roundw
              case rel => exact ⟨q + 1, by omega, by go_num, HE⟩
              case measure => simp [intOf]; omega
        · have HW : Hid (l ∉ wordsL) := Lib.hid (not_word fun j hj => hne.out j hj (by rw [hw] at hj; omega))
          clear hne
          by_cases h1 : 1 ≤ l.length
          · by_cases h2 : l.length ≤ 12
            · have H := Lib.hid (name_yes h1 h2 HW.out HO.out)
              go_wp2
              go_ret
              exact ⟨ret_boolE (by rw [H.out]; exact decide_eq_true (by omega)), HF.out⟩
            · have H := Lib.hid (name_long (l := l) (by omega))
              go_wp2
              go_ret
              exact ⟨ret_boolE (by rw [H.out]; exact decide_eq_false (by omega)), HF.out⟩
          · have H := Lib.hid (name_nil (l := l) (by omega))
            go_wp2
            go_ret
            exact ⟨ret_boolE H.out.symm, HF.out⟩

set_option maxHeartbeats 2000000 in
theorem sname_any (l : List UInt8) (w : World) (hl : l.length ≤ 1000000000) : Calls Tryd.prog 71 #[.string ⟨l.toArray⟩] w fun e w' => e = .returned (.bool (nameB l)) ∧ Fr Non w w' := by
  have hs := slenN l
  by_cases h0 : l = []
  · subst h0
    go_enter Tryd.func71, Tryd.ntmps71
    go_wp2
    go_ret
    exact ⟨rfl, Fr.refl _ _⟩
  · have h0b : (l == []) = false := by rw [beq_eq_false_iff_ne]; exact h0
    have HL : Hid (1 ≤ l.length) := Lib.hid (Nat.pos_of_ne_zero (fun e => h0 (List.eq_nil_of_length_eq_zero e)))
    clear h0
    by_cases h12 : 12 < l.length
    · have H := Lib.hid (name_long h12)
      go_enter Tryd.func71, Tryd.ntmps71
      go_wp2
      go_ret
      exact ⟨ret_boolE H.out.symm, Fr.refl _ _⟩
    · have HI := fun W => isword_any l W
      cases hw : decide (l ∈ wordsL)
      · simp only [hw] at HI
        have HW := Lib.hid (of_decide_eq_false hw)
        clear hw
        replace HI := Lib.hid HI
        go_enter Tryd.func71, Tryd.ntmps71
        go_wp2_with fail
        refine (HI.out _).mono ?_
        rintro e w1 ⟨rfl, rfl⟩
        clear HI
        go_wp2
        go_loopw [3, 4] (fun _ _ wr => ∃ k : Nat, k ≤ l.length ∧ wr = w.iter ⟨l.toArray⟩ k ∧ Hid (∀ j (hj : j < l.length), j < k → okI j (l[j]).toNat = true)) (fun _ _ wr => l.length - wr.iterPos w.heap.size)
        case atStart => exact ⟨0, by omega, rfl, Lib.hid (fun _ _ h => by omega)⟩
        case round =>
          obtain ⟨k, hk, rfl, hok⟩ := hrel
          by_cases hlt : k < l.length
          · obtain ⟨c, hc⟩ : ∃ c, l[k] = c := ⟨_, rfl⟩
            have hm := World.iterPos_iter w ⟨l.toArray⟩ k
            have HC := Lib.hid hc
            have hbk : (⟨l.toArray⟩ : ByteArray)[k]'(by rw [hs]; exact hlt) = c := hc
            clear hc
            have HM := Lib.hid (fun (h : okI k c.toNat = true) => nmOk_more hok.out hlt (by rw [HC.out]; exact h))
            have HX := Lib.hid (fun (h : okI k c.toNat = false) => name_bad hlt (by rw [HC.out]; exact h))
            clear HC hok
            by_cases hhi : c.toNat < 128
            · have hn := fun ty => run_next_ascii (P := Tryd.prog) w ⟨l.toArray⟩ k ty (by rw [hs]; exact hlt) (by rw [hbk]; exact hhi)
              rw [hbk] at hn
              clear hbk hhi
              have hm1 := World.iterPos_iter w ⟨l.toArray⟩ (k + 1)
              have FR1 := Lib.hid ((Fr.refl Non w).alloc (.stringIter ⟨l.toArray⟩ (k + 1)))
              replace hm1 := Lib.hid hm1
              change Hid (Fr Non w (w.iter ⟨l.toArray⟩ (k + 1))) at FR1
              have HM1 := hm1
              clear hm1
              have HL1 := fun W => isletter_any c.toNat W
              have HD1 := fun W => isdigit_any c.toNat W
              cases hL : ltrI c.toNat
              · simp only [hL] at HL1
                replace HL1 := Lib.hid HL1
                by_cases hk0 : k = 0
                · subst hk0
                  replace HX := Lib.hid (HX.out (by simp [okI, hL]))
                  clear HD1 HM hL
                  go_wp2_with fail
                  refine (HL1.out _).mono ?_
                  rintro e w1 ⟨rfl, rfl⟩
                  clear HL1
                  go_wp2
                  go_ret
                  exact ⟨ret_boolE HX.out.symm, FR1.out⟩
                · have hkb : ((k : Int) == 0) = false := by rw [beq_eq_false_iff_ne]; omega
                  have HK0 := Lib.hid hk0
                  clear hk0
                  cases hD : dgtI c.toNat
                  · simp only [hD] at HD1
                    replace HD1 := Lib.hid HD1
                    by_cases h95 : (c.toNat : Int) = 95
                    · replace HM := Lib.hid (HM.out (by simp [okI, hL, hD, h95]; exact .inr HK0.out))
                      have h95b : ((c.toNat : Int) == 95) = true := by rw [beq_iff_eq]; exact h95
                      clear HX hL hD h95
                      go_wp2_with fail
                      refine (HL1.out _).mono ?_
                      rintro e w1 ⟨rfl, rfl⟩
                      clear HL1
                      go_wp2_with fail
                      refine (HD1.out _).mono ?_
                      rintro e w1 ⟨rfl, rfl⟩
                      clear HD1
                      go_wp2
                      go_roundw
                      case rel => exact ⟨k + 1, by omega, rfl, HM⟩
                      case measure => rw [hm, HM1.out]; omega
                    · replace HX := Lib.hid (HX.out (by simp [okI, hL, hD, h95]))
                      have h95b : ((c.toNat : Int) == 95) = false := by rw [beq_eq_false_iff_ne]; exact h95
                      clear HM hL hD h95
                      go_wp2_with fail
                      refine (HL1.out _).mono ?_
                      rintro e w1 ⟨rfl, rfl⟩
                      clear HL1
                      go_wp2_with fail
                      refine (HD1.out _).mono ?_
                      rintro e w1 ⟨rfl, rfl⟩
                      clear HD1
                      go_wp2
                      go_ret
                      exact ⟨ret_boolE HX.out.symm, FR1.out⟩
                  · simp only [hD] at HD1
                    replace HD1 := Lib.hid HD1
                    replace HM := Lib.hid (HM.out (by simp [okI, hL, hD]; exact HK0.out))
                    clear HX hL hD
                    go_wp2_with fail
                    refine (HL1.out _).mono ?_
                    rintro e w1 ⟨rfl, rfl⟩
                    clear HL1
                    go_wp2_with fail
                    refine (HD1.out _).mono ?_
                    rintro e w1 ⟨rfl, rfl⟩
                    clear HD1
                    go_wp2
                    go_roundw
                    case rel => exact ⟨k + 1, by omega, rfl, HM⟩
                    case measure => rw [hm, HM1.out]; omega
              · simp only [hL] at HL1
                replace HL1 := Lib.hid HL1
                replace HM := Lib.hid (HM.out (by simp [okI, hL]))
                clear HX hL HD1
                go_wp2_with fail
                refine (HL1.out _).mono ?_
                rintro e w1 ⟨rfl, rfl⟩
                clear HL1
                go_wp2
                go_roundw
                case rel => exact ⟨k + 1, by omega, rfl, HM⟩
                case measure => rw [hm, HM1.out]; omega
            · have hn := fun ty => run_next_any (P := Tryd.prog) w ⟨l.toArray⟩ k ty (by rw [hs]; exact hlt)
              have hr := (decode_high ⟨l.toArray⟩ k (by rw [hs]; exact hlt) (by rw [hbk]; omega)).1
              replace HX := Lib.hid (HX.out (okI_high (by omega)))
              clear HM hbk
              generalize (Utf8.decode ⟨l.toArray⟩ k).1 = r at *
              generalize k + (Utf8.decode ⟨l.toArray⟩ k).2 = p at *
              have FR1 := Lib.hid ((Fr.refl Non w).alloc (.stringIter ⟨l.toArray⟩ p))
              change Hid (Fr Non w (w.iter ⟨l.toArray⟩ p)) at FR1
              have HL1 := fun W => isletter_any r W
              have HD1 := fun W => isdigit_any r W
              have e1 : ltrI r = false := by simp [ltrI]; omega
              have e2 : dgtI r = false := by simp [dgtI]; omega
              have h95b : ((r : Int) == 95) = false := by rw [beq_eq_false_iff_ne]; omega
              simp only [e1] at HL1
              simp only [e2] at HD1
              replace HL1 := Lib.hid HL1
              replace HD1 := Lib.hid HD1
              clear e1 e2 hr hhi
              by_cases hk0 : k = 0
              · subst hk0
                clear HD1
                go_wp2_with fail
                refine (HL1.out _).mono ?_
                rintro e w1 ⟨rfl, rfl⟩
                clear HL1
                go_wp2
                go_ret
                exact ⟨ret_boolE HX.out.symm, FR1.out⟩
              · have hkb : ((k : Int) == 0) = false := by rw [beq_eq_false_iff_ne]; omega
                clear hk0
                go_wp2_with fail
                refine (HL1.out _).mono ?_
                rintro e w1 ⟨rfl, rfl⟩
                clear HL1
                go_wp2_with fail
                refine (HD1.out _).mono ?_
                rintro e w1 ⟨rfl, rfl⟩
                clear HD1
                go_wp2
                go_ret
                exact ⟨ret_boolE HX.out.symm, FR1.out⟩
          · have hn := fun ty => run_next_end (P := Tryd.prog) w ⟨l.toArray⟩ k ty (by rw [hs]; exact hlt)
            have H := Lib.hid (name_yes HL.out (by omega) HW.out (fun j hj => hok.out j hj (by omega)))
            clear hok
            go_wp2
            go_ret
            exact ⟨ret_boolE H.out.symm, (Fr.refl _ _).alloc _⟩
      · simp only [hw] at HI
        have H := Lib.hid (name_word (of_decide_eq_true hw))
        clear hw
        replace HI := Lib.hid HI
        go_enter Tryd.func71, Tryd.ntmps71
        go_wp2_with fail
        refine (HI.out _).mono ?_
        rintro e w1 ⟨rfl, rfl⟩
        go_wp2
        go_ret
        exact ⟨ret_boolE H.out.symm, Fr.refl _ _⟩
end Go.Proofs.YtpmipdnmhffkeaaDoor


namespace Go.Proofs.YtpmipdnmhffkeaaDoor
set_option linter.unusedVariables false
set_option linter.unusedSimpArgs false
set_option maxRecDepth 100000
open Go.RowKit

theorem ask_no {h : Ph} (hn : nameB h.col = false) : askOk h = false := by unfold askOk; rw [hn]; rfl
theorem ask_cmp {h : Ph} (hn : nameB h.col = true) (h2 : h.op = 2) : askOk h = (decide (1 ≤ h.cmp ∧ h.cmp ≤ 6) && mayC h.kind false h.val && peq h ⟨h.op, h.col, h.cmp, h.val, h.kind, []⟩) := by
  unfold askOk; rw [hn, if_pos h2]; rfl
theorem ask_like {h : Ph} (hn : nameB h.col = true) (h2 : h.op = 4) : askOk h = (decide (h.pat.length ≤ 40) && peq h ⟨h.op, h.col, 0, zCl, 0, h.pat⟩) := by
  unfold askOk; rw [hn, if_neg (by omega), if_pos h2]; rfl
theorem ask_nul {h : Ph} (hn : nameB h.col = true) (h2 : ¬ h.op = 2) (h4 : ¬ h.op = 4) : askOk h = peq h ⟨h.op, h.col, 0, zCl, 0, []⟩ := by
  unfold askOk; rw [hn, if_neg h2, if_neg h4]; rfl

theorem iscmp_any (n : Int) (w : World) : Calls Tryd.prog 79 #[.int .i64 n] w fun e w' => e = .returned (.bool (decide (1 ≤ n ∧ n ≤ 6))) ∧ Fr Non w w' := by
  by_cases h : 1 ≤ n
  · go_enter Tryd.func79, Tryd.ntmps79
    go_wp2
    go_ret
    exact ⟨ret_boolE (by simp [h]), Fr.refl _ _⟩
  · go_enter Tryd.func79, Tryd.ntmps79
    go_wp2
    go_ret
    exact ⟨ret_boolE (by simp; omega), Fr.refl _ _⟩

set_option maxHeartbeats 2000000 in
theorem mayask_any (h : Ph) (s : Kv) (w : World) (hl : h.col.length ≤ 1000000000) : Calls Tryd.prog 68 #[pdV h s] w fun e w' => e = .returned (.bool (askOk h)) ∧ Fr Non w w' := by
  have N1 := fun W => sname_any h.col W hl
  have B0 := Lib.hid (pd_new w _ h s rfl)
  have F0 : Hid (Fr Non w _) := Lib.hid ((Fr.refl Non w).alloc (.cells (pdC h s) 27))
  have H1 := Lib.hid (fun hn => ask_no (h := h) hn)
  have H2 := Lib.hid (fun hn h2 => ask_cmp (h := h) hn h2)
  have H3 := Lib.hid (fun hn h2 => ask_like (h := h) hn h2)
  have H4 := Lib.hid (fun hn h2 h4 => ask_nul (h := h) hn h2 h4)
  have A2 := Lib.hid (fun W => alike_any h ⟨h.op, h.col, h.cmp, h.val, h.kind, []⟩ s noKv W)
  have A3 := Lib.hid (fun W => alike_any h ⟨h.op, h.col, 0, zCl, 0, h.pat⟩ s noKv W)
  have A4 := Lib.hid (fun W => alike_any h ⟨h.op, h.col, 0, zCl, 0, []⟩ s noKv W)
  have C1 := Lib.hid (fun W => iscmp_any h.cmp W)
  have C2 := Lib.hid (fun W => may_any h.kind false h.val W)
  obtain ⟨op, col, cmp, ⟨vn, vi, vt⟩, kind, pat⟩ := h
  obtain ⟨sA, sn, sc⟩ := s
  have hs := slen pat
  dsimp only at *
  unfold pdV pdC kidV at *
  unfold noKv at A2 A3 A4
  unfold zCl at A3 A4
  unfold clV clC at C2
  dsimp only at *
  cases hn : nameB col
  · have HE := Lib.hid (H1.out hn)
    simp only [hn] at N1
    replace N1 := Lib.hid N1
    clear H1 H2 H3 H4 A2 A3 A4 C1 C2 hn
    go_enter Tryd.func68, Tryd.ntmps68
    go_wp2_with fail
    refine (N1.out _).mono ?_
    rintro e w1 ⟨rfl, f1⟩
    go_wp2
    go_ret
    exact ⟨ret_boolE HE.out.symm, F0.out.trans f1⟩
  · simp only [hn] at N1
    replace N1 := Lib.hid N1
    by_cases h2 : op = 2
    · have HE := Lib.hid (H2.out hn h2)
      clear H1 H2 H3 H4 A3 A4 hn
      subst h2
      go_enter Tryd.func68, Tryd.ntmps68
      go_wp2_with fail
      refine (N1.out _).mono ?_
      rintro e w1 ⟨rfl, f1⟩
      obtain ⟨g0, g1, g2, g3, g4, g5, g6, g7, g8⟩ := pdB_cells (B0.out.fr f1 (fun e => e))
      have B1 := Lib.hid (B0.out.fr f1 (fun e => e))
      dsimp only at g0 g1 g2 g3 g4 g5 g6 g7 g8
      generalize hc : decide (1 ≤ cmp ∧ cmp ≤ 6) = b1 at *
      clear hc
      have F1 := Lib.hid (F0.out.trans f1)
      clear f1 F0 B0
      go_wp2_with fail
      refine (C1.out _).mono ?_
      rintro e w2 ⟨rfl, f2⟩
      clear g0 g1 g2 g3 g4 g5 g6 g7 g8
      obtain ⟨g0, g1, g2, g3, g4, g5, g6, g7, g8⟩ := pdB_cells (B1.out.fr f2 (fun e => e))
      have B2 := Lib.hid (B1.out.fr f2 (fun e => e))
      have F2 := Lib.hid (F1.out.trans f2)
      dsimp only at g0 g1 g2 g3 g4 g5 g6 g7 g8
      clear f2 F1 B1
      cases b1
      · go_wp2
        go_ret
        exact ⟨ret_boolE (by rw [HE.out]; rfl), F2.out⟩
      · generalize hc : mayC kind false ⟨vn, vi, vt⟩ = b2 at *
        clear hc
        go_wp2_with fail
        refine (C2.out _).mono ?_
        rintro e w3 ⟨rfl, f3⟩
        clear g0 g1 g2 g3 g4 g5 g6 g7 g8
        obtain ⟨g0, g1, g2, g3, g4, g5, g6, g7, g8⟩ := pdB_cells (B2.out.fr f3 (fun e => e))
        have F3 := Lib.hid (F2.out.trans f3)
        dsimp only at g0 g1 g2 g3 g4 g5 g6 g7 g8
        clear f3 F2 B2
        cases b2
        · go_wp2
          go_ret
          exact ⟨ret_boolE (by rw [HE.out]; rfl), F3.out⟩
        · go_wp2_with fail
          refine (A2.out _).mono ?_
          rintro e w4 ⟨rfl, f4⟩
          go_wp2
          go_ret
          exact ⟨ret_boolE (by rw [HE.out]; rfl), F3.out.trans f4⟩
    · by_cases h4 : op = 4
      · have HE := Lib.hid (H3.out hn h4)
        clear H1 H2 H3 H4 A2 A4 hn C1 C2 h2
        subst h4
        go_enter Tryd.func68, Tryd.ntmps68
        go_wp2_with fail
        refine (N1.out _).mono ?_
        rintro e w1 ⟨rfl, f1⟩
        obtain ⟨g0, g1, g2, g3, g4, g5, g6, g7, g8⟩ := pdB_cells (B0.out.fr f1 (fun e => e))
        dsimp only at g0 g1 g2 g3 g4 g5 g6 g7 g8
        have F1 := Lib.hid (F0.out.trans f1)
        clear f1 F0 B0
        by_cases h40 : pat.length ≤ 40
        · go_wp2_with fail
          refine (A3.out _).mono ?_
          rintro e w4 ⟨rfl, f4⟩
          go_wp2
          go_ret
          exact ⟨ret_boolE (by rw [HE.out, decide_eq_true h40]; rfl), F1.out.trans f4⟩
        · go_wp2
          go_ret
          exact ⟨ret_boolE (by rw [HE.out, decide_eq_false h40]; simp), F1.out⟩
      · have HE := Lib.hid (H4.out hn h2 h4)
        clear H1 H2 H3 H4 A2 A3 hn C1 C2
        go_enter Tryd.func68, Tryd.ntmps68
        go_wp2_with fail
        refine (N1.out _).mono ?_
        rintro e w1 ⟨rfl, f1⟩
        obtain ⟨g0, g1, g2, g3, g4, g5, g6, g7, g8⟩ := pdB_cells (B0.out.fr f1 (fun e => e))
        dsimp only at g0 g1 g2 g3 g4 g5 g6 g7 g8
        have F1 := Lib.hid (F0.out.trans f1)
        clear f1 F0 B0
        go_wp2_with fail
        refine (A4.out _).mono ?_
        rintro e w4 ⟨rfl, f4⟩
        go_wp2
        go_ret
        exact ⟨ret_boolE (by rw [HE.out]; rfl), F1.out.trans f4⟩

/-! ### One of those within -/
theorem haskid1_any (h : Ph) (s : Kv) (op : Int) (g : Nat) (w : World) (hg : Blk w g 3 #[.int .i64 op]) :
    Calls Tryd.prog 81 #[pdV h s, .pointer (some ⟨g, 0, none⟩)] w fun e w' => e = .returned (.bool (h.op == op)) ∧ Fr Non w w' := by
  have F0 : Hid (Fr Non w _) := Lib.hid ((Fr.refl Non w).alloc (.cells (pdC h s) 27))
  have g0 := (hg.fr (F0.out) (fun e => e)).cell 0
  simp at g0
  obtain ⟨hop, col, cmp, ⟨vn, vi, vt⟩, kind, pat⟩ := h
  obtain ⟨sA, sn, sc⟩ := s
  unfold pdV pdC kidV at *
  dsimp only at *
  go_enter Tryd.func81, Tryd.ntmps81
  go_wp2
  go_ret
  exact ⟨rfl, F0.out⟩
end Go.Proofs.YtpmipdnmhffkeaaDoor
