/-
  Joined: Predicates asked of rows: which truth. Nothing of the program but what a cell's value is. · Layer 15: words on runes and on a text's iterator; the walks of glob.small, glob.Fold, firkinref15.Fold. · Layer 15: the walks of firkinref15.Fold, glob.empty, glob.matches, glob.Match. · Layer 15: the walks of glob.matches, glob.Match. · Layer 15: the walk of firkinref15.Match: the way by beginnings. · Layer 20: truths told, turned, compared; orders of two values; both programs' small functions. · Layer 12: where a column is; which columns are the same; both programs'. · Slices of cells: what one reads as (Cs), a row of the call's own (Oc), and the steps over them. · Layer 12: which rows there may be, both programs'. · Layer 17: a predicate as a value; slices of them, read as trees; two compared but for what is within them, both programs'. · Slices of texts: a text's cell; what their type is. · Layer 12: letters, digits, words. · Layer 12: which texts may be names, both programs'. · Layer 17: which predicates may be but for what is within them, the program's.
-/
import Derived.Lib.Zigzag
import Derived.Deep.RegionWith
import Derived.Deep.RegionHeld3
import Derived.Deep.QuietTactic
import Derived.BigQuiet
import Derived.Test.YtnbhgkolfapblaaZ1
import Derived.Lib.OthersKept
import Derived.BigRegion
import Derived.Laws.ResultCell
import Derived.Laws.Rows
import Derived.Laws.RangeAny

namespace Go.Proofs.Ytnbhgkolfapblaa
set_option linter.unusedVariables false
set_option linter.unusedSimpArgs false
set_option maxRecDepth 100000
open Go.RowKit

def agrI (op n : Int) : Bool := if op = 1 then n == 0 else if op = 2 then n != 0 else if op = 3 then decide (n < 0) else if op = 4 then decide (n ≤ 0) else if op = 5 then decide (0 < n) else decide (0 ≤ n)
def yesI (b : Bool) : Int := if b then 1 else 0
def notI (t : Int) : Int := if t = 1 then 0 else if t = 0 then 1 else 2
/-- one that decides, if it is there; else the unknown, if it is there; else the other -/
def chnI (s k : Int) (l : List Int) : Int := if s ∈ l then s else if (2 : Int) ∈ l then 2 else k
/-- the row's cell in that column -/
def cellN (cols : List Co) (row : List Cl) (n : Tx) : Cl := match findC cols n with | some k => row.getD k zCl | none => zCl
def cmpR (op : Int) (c v : Cl) : Int := if c.null then 2 else yesI (agrI op (ordC c v))
def likR (c : Cl) (p : Tx) : Int := if c.null then 2 else yesI (matchU p c.txt)
def truH (cols : List Co) (row : List Cl) (h : Ph) (ts : List Int) : Int :=
  if h.op = 2 then cmpR h.cmp (cellN cols row h.col) h.val
  else if h.op = 3 then yesI (cellN cols row h.col).null
  else if h.op = 4 then likR (cellN cols row h.col) h.pat
  else if h.op = 5 then notI (ts.headD 0)
  else if h.op = 6 then chnI 0 1 ts
  else if h.op = 7 then chnI 1 0 ts
  else 1
mutual
def truP (cols : List Co) (row : List Cl) : Pd → Int | .mk h ks => truH cols row h (truL cols row ks)
def truL (cols : List Co) (row : List Cl) : List Pd → List Int | [] => [] | k :: r => truP cols row k :: truL cols row r
end
theorem truL_map (cols : List Co) (row : List Cl) (l : List Pd) : truL cols row l = l.map (truP cols row) := by
  induction l with
  | nil => rfl
  | cons k r ih => rw [truL, ih]; rfl
theorem tru_is (cols : List Co) (row : List Cl) (h : Ph) (ks : List Pd) : truP cols row (.mk h ks) = truH cols row h (ks.map (truP cols row)) := by rw [truP, truL_map]
/-- a truth -/
def Tru (t : Int) : Prop := t = 0 ∨ t = 1 ∨ t = 2
theorem tru_yes (b : Bool) : Tru (yesI b) := by cases b <;> simp [yesI, Tru]
theorem tru_not (t : Int) : Tru (notI t) := by unfold notI Tru; split <;> (try split) <;> simp
theorem tru_chn {s k : Int} (hs : Tru s) (hk : Tru k) (l : List Int) : Tru (chnI s k l) := by
  unfold chnI; split
  · exact hs
  · split
    · exact .inr (.inr rfl)
    · exact hk
theorem tru_cmp (op : Int) (c v : Cl) : Tru (cmpR op c v) := by
  unfold cmpR; split
  · exact .inr (.inr rfl)
  · exact tru_yes _
theorem tru_lik (c : Cl) (p : Tx) : Tru (likR c p) := by
  unfold likR; split
  · exact .inr (.inr rfl)
  · exact tru_yes _
theorem tru_head (cols : List Co) (row : List Cl) (h : Ph) (ts : List Int) : Tru (truH cols row h ts) := by
  unfold truH
  split
  · exact tru_cmp ..
  split
  · exact tru_yes _
  split
  · exact tru_lik ..
  split
  · exact tru_not _
  split
  · exact tru_chn (.inl rfl) (.inr (.inl rfl)) _
  split
  · exact tru_chn (.inr (.inl rfl)) (.inl rfl) _
  · exact .inr (.inl rfl)
theorem tru_one (cols : List Co) (row : List Cl) (p : Pd) : Tru (truP cols row p) := by obtain ⟨h, ks⟩ := p; rw [truP]; exact tru_head ..
theorem not_sub {t : Int} (h : Tru t) (h2 : t ≠ 2) : 1 - t = notI t := by rcases h with rfl | rfl | rfl <;> simp_all [notI]
/-! ### One by one -/
theorem chn_at {s k : Int} {l : List Int} {j : Nat} (h : j < l.length) (e : l[j] = s) : chnI s k l = s := by
  unfold chnI; rw [if_pos (by rw [← e]; exact List.getElem_mem h)]
/-- so far: the one that decides isn't there, and which it is -/
def ChnTo (s k : Int) (l : List Int) (j : Nat) (is : Int) : Prop := s ∉ l.take j ∧ is = if (2 : Int) ∈ l.take j then 2 else k
theorem chn_start (s k : Int) (l : List Int) : ChnTo s k l 0 k := ⟨by simp, by simp⟩
theorem take_mem {l : List Int} {j : Nat} (h : j < l.length) (x : Int) : x ∈ l.take (j + 1) ↔ x ∈ l.take j ∨ x = l[j] := by
  rw [List.take_add_one, List.getElem?_eq_getElem h, List.mem_append]; simp
theorem chn_more {s k : Int} {l : List Int} {j : Nat} {is : Int} (h : ChnTo s k l j is) (hj : j < l.length) (h1 : l[j] ≠ s) : ChnTo s k l (j + 1) (if l[j] = 2 then 2 else is) := by
  refine ⟨fun e => ?_, ?_⟩
  · rcases (take_mem hj s).1 e with e | e
    · exact h.1 e
    · exact h1 e.symm
  · rw [h.2]
    by_cases h2 : l[j] = 2
    · rw [if_pos h2, if_pos ((take_mem hj 2).2 (.inr h2.symm))]
    · rw [if_neg h2]
      by_cases h3 : (2 : Int) ∈ l.take j
      · rw [if_pos h3, if_pos ((take_mem hj 2).2 (.inl h3))]
      · rw [if_neg h3, if_neg]
        intro e
        rcases (take_mem hj 2).1 e with e | e
        · exact h3 e
        · exact h2 e.symm
theorem chn_end {s k : Int} {l : List Int} {j : Nat} {is : Int} (h : ChnTo s k l j is) (hj : l.length ≤ j) : chnI s k l = is := by
  obtain ⟨h1, h2⟩ := h
  rw [List.take_of_length_le hj] at h1 h2
  unfold chnI
  rw [if_neg h1, h2]
/-- which truths are among the first j -/
def HasTo (l : List Int) (j : Nat) (n m y : Bool) : Prop := n = decide ((0 : Int) ∈ l.take j) ∧ m = decide ((2 : Int) ∈ l.take j) ∧ y = decide ((1 : Int) ∈ l.take j)
theorem has_start (l : List Int) : HasTo l 0 false false false := ⟨by simp, by simp, by simp⟩
theorem has_more {l : List Int} {j : Nat} {n m y : Bool} (h : HasTo l j n m y) (hj : j < l.length) : HasTo l (j + 1) (n || l[j] == 0) (m || l[j] == 2) (y || l[j] == 1) := by
  have e : ∀ x : Int, (decide (x ∈ l.take j) || l[j] == x) = decide (x ∈ l.take (j + 1)) := fun x => by
    rw [Bool.eq_iff_iff]
    simp only [Bool.or_eq_true, decide_eq_true_eq, beq_iff_eq, take_mem hj x]
    constructor <;> (rintro (h | h)) <;> first | exact .inl h | exact .inr h.symm
  obtain ⟨rfl, rfl, rfl⟩ := h
  exact ⟨e 0, e 2, e 1⟩
theorem has_end {l : List Int} {j : Nat} {n m y : Bool} (h : HasTo l j n m y) (hj : l.length ≤ j) : chnI 0 1 l = (if n then 0 else if m then 2 else 1) ∧ chnI 1 0 l = (if y then 1 else if m then 2 else 0) := by
  obtain ⟨rfl, rfl, rfl⟩ := h
  rw [List.take_of_length_le hj]
  unfold chnI
  simp only [decide_eq_true_eq]
  exact ⟨trivial, trivial⟩

/-! ### What fits, and a row that may be -/
theorem row_at {cols : List Co} {row : List Cl} (h : rowB cols row = true) : cols.length = row.length ∧ ∀ j (h : j < cols.length) (h2 : j < row.length), mayC cols[j].ty cols[j].nl row[j] = true := of_decide_eq_true h
theorem hd_ways {h : Ph} {ks : List Pd} (e : hdOk h ks = true) :
    (h.op = 1 ∧ ks.length = 0 ∧ h.col = []) ∨ ((h.op = 2 ∨ h.op = 3 ∨ h.op = 4) ∧ ks.length = 0 ∧ askOk h = true) ∨ (h.op = 5 ∧ ks.length = 1 ∧ h.col = []) ∨ ((h.op = 6 ∨ h.op = 7) ∧ 1 < ks.length ∧ h.col = []) := by
  have bare : bareH h = true → h.col = [] := fun hb => by
    have := of_decide_eq_true hb
    rw [this]
  unfold hdOk at e
  split at e
  · rename_i h1
    rw [Bool.and_eq_true, decide_eq_true_eq] at e
    exact .inl ⟨h1, e.1, bare e.2⟩
  split at e
  · rename_i h1
    rw [Bool.and_eq_true, decide_eq_true_eq] at e
    exact .inr (.inl ⟨h1, e.1, e.2⟩)
  split at e
  · rename_i h1
    rw [Bool.and_eq_true, decide_eq_true_eq] at e
    exact .inr (.inr (.inl ⟨h1, e.1, bare e.2⟩))
  split at e
  · rename_i h1
    rw [Bool.and_eq_true, Bool.and_eq_true, decide_eq_true_eq] at e
    exact .inr (.inr (.inr ⟨h1, e.1.1, bare e.1.2⟩))
  · cases e
theorem one_kids {h : Ph} {ks : List Pd} (e : oneP (.mk h ks) = true) : hdOk h ks = true ∧ ∀ k ∈ ks, oneP k = true := by
  rw [oneP, Bool.and_eq_true, oneL_all] at e
  exact ⟨e.1, List.all_eq_true.1 e.2⟩
theorem typ_kids {cols : List Co} {h : Ph} {ks : List Pd} (e : typP cols (.mk h ks) = true) : okT cols h = true ∧ ∀ k ∈ ks, typP cols k = true := by
  rw [typP, Bool.and_eq_true, typL_all] at e
  exact ⟨e.1, List.all_eq_true.1 e.2⟩
theorem name_some {n : Tx} (h : nameB n = true) : n ≠ [] := by
  rintro rfl
  revert h
  decide
/-- one that asks of a column: the column is there, of the right type -/
theorem ask_col {cols : List Co} {row : List Cl} {h : Ph} (ho : h.op = 2 ∨ h.op = 3 ∨ h.op = 4) (ha : askOk h = true) (ht : okT cols h = true) (hr : rowB cols row = true) :
    h.col ≠ [] ∧ ∃ (k : Nat) (h1 : k < cols.length) (h2 : k < row.length), findC cols h.col = some k ∧ cellN cols row h.col = row[k] ∧ mayC cols[k].ty cols[k].nl row[k] = true ∧
      (h.op = 2 → cols[k].ty = h.kind ∧ mayC h.kind false h.val = true) ∧ (h.op = 4 → cols[k].ty = 3) := by
  obtain ⟨hl, hm⟩ := row_at hr
  unfold askOk at ha
  rw [Bool.and_eq_true] at ha
  have hne := name_some ha.1
  refine ⟨hne, ?_⟩
  unfold okT at ht
  rw [if_neg hne] at ht
  split at ht
  · cases ht
  · rename_i k hk
    have h1 := find_lt hk
    have h2 : k < row.length := by omega
    rw [List.getElem?_eq_getElem h1] at ht
    dsimp only at ht
    refine ⟨k, h1, h2, hk, ?_, hm k h1 h2, ?_, ?_⟩
    · unfold cellN; rw [hk]; dsimp only; rw [List.getD_eq_getElem?_getD, List.getElem?_eq_getElem h2]; rfl
    · intro e
      rw [if_pos e] at ht
      have ha2 := ha.2
      rw [if_pos e, Bool.and_eq_true, Bool.and_eq_true] at ha2
      exact ⟨by simpa using ht, ha2.1.2⟩
    · intro e
      rw [if_neg (by omega), if_pos e] at ht
      simpa using ht

/-! ### The orders of two values -/
def anO : An → An → Int
  | .int i, .int j => cmpI i j
  | .bool a, .bool b => cmpI (bitI a) (bitI b)
  | .text s, .text t => cmpT s t
  | _, _ => 0
theorem cmpI_self (i : Int) : cmpI i i = 0 := by unfold cmpI; rw [if_neg (by omega), if_neg (by omega)]
theorem bit_one {i : Int} (h : i = 0 ∨ i = 1) : bitI (i != 0) = i := by rcases h with rfl | rfl <;> rfl
/-- of one type, and neither is null: two that stand together, as their cells do -/
inductive AnT : An → An → Prop
  | int (i j : Int) : AnT (.int i) (.int j)
  | bool (a b : Bool) : AnT (.bool a) (.bool b)
  | text (s t : Tx) : AnT (.text s) (.text t)
theorem an_two {ty : Int} {nl ml : Bool} {c v : Cl} (hc : mayC ty nl c = true) (hv : mayC ty ml v = true) (nc : c.null = false) (nv : v.null = false) : AnT (toA ty c) (toA ty v) ∧ anO (toA ty c) (toA ty v) = ordC c v := by
  unfold mayC at hc hv
  unfold toA
  rw [ordC_null (by rw [nc, nv])]
  rw [nc] at hc ⊢
  rw [nv] at hv ⊢
  simp only [Bool.false_eq_true, if_false, Bool.and_eq_true] at hc hv ⊢
  obtain ⟨ht, hc⟩ := hc
  obtain ⟨_, hv⟩ := hv
  unfold isTy at ht
  simp only [Bool.or_eq_true, beq_iff_eq] at ht
  rcases ht with (rfl | rfl) | rfl
  · rw [if_neg (by decide)] at hc hv
    rw [Bool.and_eq_true] at hc hv
    have e1 : c.txt = [] := by simpa using hc.1
    have e2 : v.txt = [] := by simpa using hv.1
    rw [if_pos rfl, if_pos rfl, e1, e2]
    refine ⟨.int _ _, ?_⟩
    show cmpI c.num v.num = _
    split
    · rename_i e; rw [e, cmpI_self, cmpT_self]
    · rfl
  · rw [if_neg (by decide)] at hc hv
    rw [Bool.and_eq_true] at hc hv
    have e1 : c.txt = [] := by simpa using hc.1
    have e2 : v.txt = [] := by simpa using hv.1
    have b1 : c.num = 0 ∨ c.num = 1 := by simpa using hc.2
    have b2 : v.num = 0 ∨ v.num = 1 := by simpa using hv.2
    rw [if_neg (by decide), if_pos rfl, if_neg (by decide), if_pos rfl, e1, e2]
    refine ⟨.bool _ _, ?_⟩
    show cmpI (bitI (c.num != 0)) (bitI (v.num != 0)) = _
    rw [bit_one b1, bit_one b2]
    split
    · rename_i e; rw [e, cmpI_self, cmpT_self]
    · rfl
  · rw [if_pos rfl] at hc hv
    rw [Bool.and_eq_true] at hc hv
    have e1 : c.num = 0 := by simpa using hc.1
    have e2 : v.num = 0 := by simpa using hv.1
    rw [if_neg (by decide), if_neg (by decide), if_pos rfl, if_neg (by decide), if_neg (by decide), if_pos rfl, e1, e2, if_pos rfl]
    exact ⟨.text _ _, rfl⟩
theorem may_null {ty : Int} {c : Cl} (h : mayC ty false c = true) : c.null = false := by
  unfold mayC at h
  cases e : c.null
  · rfl
  · rw [e] at h; simp at h
theorem toA_null {ty : Int} {c : Cl} (h : c.null = true) : toA ty c = .nil := by unfold toA; rw [if_pos h]
theorem mayC_text {nl : Bool} {c : Cl} (h : mayC 3 nl c = true) : c.txt.length ≤ 40 := by
  unfold mayC at h
  cases e : c.null
  · rw [e] at h; simp at h; exact h.2.2
  · rw [e] at h; simp at h
    rw [h.2.2.2]; simp

/-! ### Of a row, of rows -/
def rowE (cols : List Co) (p : Pd) (row : List Cl) : Int × Int := if fitP cols p = 0 then (if rowB cols row = true then (truP cols row p, 0) else (0, 10)) else (0, fitP cols p)
theorem rowE_bad {cols : List Co} {p : Pd} {row : List Cl} (h : fitP cols p ≠ 0) : rowE cols p row = (0, fitP cols p) := by unfold rowE; rw [if_neg h]
theorem rowE_type {cols : List Co} {p : Pd} {row : List Cl} (h : fitP cols p = 0) (hr : rowB cols row = false) : rowE cols p row = (0, 10) := by unfold rowE; rw [if_pos h, if_neg (by rw [hr]; simp)]
theorem rowE_ok {cols : List Co} {p : Pd} {row : List Cl} (h : fitP cols p = 0) (hr : rowB cols row = true) : rowE cols p row = (truP cols row p, 0) := by unfold rowE; rw [if_pos h, if_pos hr]
def plcI (cols : List Co) (p : Pd) (rows : List (List Cl)) (n : Nat) : List Int := ((List.range n).filter fun i => truP cols (rows.getD i []) p == 1).map fun (i : Nat) => (i : Int)
theorem plc_yes {cols : List Co} {p : Pd} {rows : List (List Cl)} {n : Nat} (h : n < rows.length) (e : truP cols rows[n] p = 1) : plcI cols p rows (n + 1) = plcI cols p rows n ++ [(n : Int)] := by
  unfold plcI
  rw [List.range_succ, List.filter_append, List.map_append]
  congr 1
  rw [List.filter_cons, if_pos (by rw [List.getD_eq_getElem?_getD, List.getElem?_eq_getElem h]; simpa using e)]; rfl
theorem plc_no {cols : List Co} {p : Pd} {rows : List (List Cl)} {n : Nat} (h : n < rows.length) (e : truP cols rows[n] p ≠ 1) : plcI cols p rows (n + 1) = plcI cols p rows n := by
  unfold plcI
  rw [List.range_succ, List.filter_append, List.map_append]
  have : ([n].filter fun i => truP cols (rows.getD i []) p == 1) = [] := by
    rw [List.filter_cons, if_neg (by rw [List.getD_eq_getElem?_getD, List.getElem?_eq_getElem h]; simpa using e)]; rfl
  rw [this]; simp
theorem plcI_len (cols : List Co) (p : Pd) (rows : List (List Cl)) (n : Nat) : (plcI cols p rows n).length ≤ n := by
  unfold plcI
  rw [List.length_map]
  have := List.length_filter_le (fun i => truP cols (rows.getD i []) p == 1) (List.range n)
  rw [List.length_range] at this
  exact this
def rowsE (cols : List Co) (p : Pd) (rows : List (List Cl)) : List Int × Int := if fitP cols p = 0 then (if rows.all (rowB cols) = true then (plcI cols p rows rows.length, 0) else ([], 10)) else ([], fitP cols p)
theorem rowsE_bad {cols : List Co} {p : Pd} {rows : List (List Cl)} (h : fitP cols p ≠ 0) : rowsE cols p rows = ([], fitP cols p) := by unfold rowsE; rw [if_neg h]
theorem rowsE_type {cols : List Co} {p : Pd} {rows : List (List Cl)} {k : Nat} (h : fitP cols p = 0) (hk : k < rows.length) (hr : rowB cols rows[k] = false) : rowsE cols p rows = ([], 10) := by
  unfold rowsE; rw [if_pos h, if_neg]
  rw [List.all_eq_true]
  intro e
  have := e _ (List.getElem_mem hk)
  rw [hr] at this; cases this
theorem rowsE_ok {cols : List Co} {p : Pd} {rows : List (List Cl)} {k : Nat} (h : fitP cols p = 0) (hk : rows.length ≤ k) (hr : ∀ j (h : j < rows.length), j < k → rowB cols rows[j] = true) : rowsE cols p rows = (plcI cols p rows rows.length, 0) := by
  unfold rowsE; rw [if_pos h, if_pos]
  rw [List.all_eq_true]
  intro x hx
  obtain ⟨j, hj, rfl⟩ := List.mem_iff_getElem.1 hx
  exact hr j hj (by omega)
theorem rows_more {cols : List Co} {rows : List (List Cl)} {k : Nat} (hr : ∀ j (h : j < rows.length), j < k → rowB cols rows[j] = true) (hk : k < rows.length) (e : rowB cols rows[k] = true) : ∀ j (h : j < rows.length), j < k + 1 → rowB cols rows[j] = true := by
  intro j hj hlt
  by_cases e2 : j = k
  · subst e2; exact e
  · exact hr j hj (by omega)
theorem fit_zero {cols : List Co} {p : Pd} (h : fitP cols p = 0) : chkC cols = 0 ∧ oneP p = true ∧ typP cols p = true := by
  unfold fitP at h
  split at h
  · cases h
  · rename_i h1
    split at h
    · rename_i h2
      refine ⟨Classical.byContradiction fun e => h1 (.inr e), ?_, h2⟩
      have hm : mayP p = true := by
        cases e : mayP p
        · exact absurd (.inl e) h1
        · rfl
      unfold mayP at hm
      rw [Bool.and_eq_true] at hm
      exact hm.2
    · cases h

/-! ### Nots -/
end Go.Proofs.Ytnbhgkolfapblaa


namespace Go.Proofs.Ytnbhgkolfapblaa
set_option linter.unusedVariables false
set_option linter.unusedSimpArgs false
set_option maxRecDepth 100000
open Go.RowKit

/-- a rune's cell -/
def ruv (n : Nat) : Value := .int .i32 (n : Int)
theorem ruv_one (n : Nat) : (ruv n).oneCell' = true := rfl
theorem el_rune : El 82 21 (.int .i32 0) 4 := ⟨Try.underlying82, by kernel_rfl, rfl, by decide, by kernel_rfl, fun _ => by kernel_rfl⟩

/-- in block k lies an iterator over the text l, at place p -/
def ItU (w : World) (k : Nat) (l : List UInt8) (p : Nat) : Prop := w.heap[k]? = some (.stringIter ⟨l.toArray⟩ p)
theorem sizeU (l : List UInt8) : ByteArray.size ⟨l.toArray⟩ = l.length := by simp [ByteArray.size]
theorem ItU.new (w : World) (l : List UInt8) : ItU (w.iter ⟨l.toArray⟩ 0) w.heap.size l 0 := World.iter_heap w _ 0
theorem ItU.pos {w : World} {k p : Nat} {l : List UInt8} (h : ItU w k l p) : w.iterPos k = p := by
  unfold ItU at h; simp [World.iterPos, h]
theorem ItU.lt {w : World} {k p : Nat} {l : List UInt8} (h : ItU w k l p) : k < w.heap.size := (Array.getElem?_eq_some_iff.1 h).1
theorem ItU.fr {S : Nat → Prop} {w w' : World} {k p : Nat} {l : List UInt8} (h : ItU w k l p) (hf : Fr S w w') (hn : ¬ S k) : ItU w' k l p := (hf.block k h.lt hn).trans h
theorem fr_iterAt (w : World) (k : Nat) (s : ByteArray) (p : Nat) : Fr (One k) w (w.iterAt k s p) :=
  ⟨rfl, rfl, rfl, by rw [Lib.iterAt_size]; exact Nat.le_refl _, fun j _ hj => Lib.iterAt_other w k j s p hj⟩
/-- a step of the range -/
theorem nextU (wr : World) (k p : Nat) (l : List UInt8) (h : ItU wr k l p) (hp : p < l.length) :
    ∃ W, (∀ ty, (Instr.next (.pointer (some ⟨k, 0, none⟩)) true ty).run Try.prog wr = .ok (.tuple #[.bool true, .int .i64 p, .int .i32 ((dcU (l.drop p)).1 : Int)]) W) ∧
      ItU W k l (p + (dcU (l.drop p)).2) ∧ Fr (One k) wr W := by
  refine ⟨wr.iterAt k ⟨l.toArray⟩ (p + (dcU (l.drop p)).2), fun ty => ?_, Lib.iterAt_heap wr k _ p _ h, fr_iterAt _ _ _ _⟩
  rw [← dcU_at]
  exact Lib.run_next_any_at wr k _ p ty h (by rw [sizeU]; exact hp)
theorem nextU_end (wr : World) (k p : Nat) (l : List UInt8) (h : ItU wr k l p) (hp : ¬ p < l.length) (ty : TypeId) :
    (Instr.next (.pointer (some ⟨k, 0, none⟩)) true ty).run Try.prog wr = .ok (.tuple #[.bool false]) wr :=
  Lib.run_next_end_at wr k _ p ty h (by rw [sizeU]; exact hp)
theorem okU_le {r : Nat} (h : okU r) : r ≤ 1114111 := by unfold okU at h; omega

theorem smU_lt {r : Nat} (h1 : 65 ≤ r) (h2 : r ≤ 90) : smU r = r + 32 := by unfold smU; rw [if_pos ⟨h1, h2⟩]
theorem smU_lo {r : Nat} (h1 : r < 65) : smU r = r := by unfold smU; rw [if_neg (by omega)]
theorem smU_hi {r : Nat} (h1 : 90 < r) : smU r = r := by unfold smU; rw [if_neg (by omega)]

theorem gsmall_any (r : Nat) (w : World) (hr : r ≤ 1114111) : Calls Try.prog 86 #[.int .i32 r] w fun e w' => e = .returned (.int .i32 (smU r : Nat)) ∧ w = w' := by
  by_cases h1 : 65 ≤ r
  · by_cases h2 : r ≤ 90
    · have H := Lib.hid (smU_lt h1 h2)
      have hb1 : decide ((65 : Int) ≤ (r : Int)) = true := by simp; omega
      have hb2 : decide ((r : Int) ≤ 90) = true := by simp; omega
      have hw1 : IntKind.i32.wrap ((r : Int) - 65) = (r : Int) - 65 := by simp [IntKind.wrap, IntKind.bits, IntKind.signed]; omega
      have hw2 : IntKind.i32.wrap ((r : Int) - 65 + 97) = ((r + 32 : Nat) : Int) := by simp [IntKind.wrap, IntKind.bits, IntKind.signed]; omega
      clear h1 h2
      go_enter Try.func86, Try.ntmps86
      go_wp2
      go_ret
      exact ⟨ret_int (by rw [H.out]; push_cast; omega), rfl⟩
    · have H := Lib.hid (smU_hi (r := r) (by omega))
      have hb1 : decide ((65 : Int) ≤ (r : Int)) = true := by simp; omega
      have hb2 : decide ((r : Int) ≤ 90) = false := by simp; omega
      clear h1 h2
      go_enter Try.func86, Try.ntmps86
      go_wp2
      go_ret
      exact ⟨ret_int (by rw [H.out]), rfl⟩
  · have H := Lib.hid (smU_lo (r := r) (by omega))
    have hb1 : decide ((65 : Int) ≤ (r : Int)) = false := by simp; omega
    clear h1
    go_enter Try.func86, Try.ntmps86
    go_wp2
    go_ret
    exact ⟨ret_int (by rw [H.out]), rfl⟩

/-- so many runes are folded -/
def fdU (l : List UInt8) (k : Nat) (d : List Nat) : Prop := foldU l = d ++ (runesU (l.drop k)).map smU ∧ d.length ≤ k
theorem fdU_zero (l : List UInt8) : fdU l 0 [] := ⟨by simp [foldU], by simp⟩
theorem fdU_more {l : List UInt8} {k : Nat} {d : List Nat} (h : fdU l k d) (hk : k < l.length) : fdU l (k + (dcU (l.drop k)).2) (d ++ [smU (dcU (l.drop k)).1]) ∧ 1 ≤ (dcU (l.drop k)).2 ∧ k + (dcU (l.drop k)).2 ≤ l.length ∧ okU (dcU (l.drop k)).1 := by
  have hne : l.drop k ≠ [] := by intro e; have := congrArg List.length e; simp at this; omega
  have hw := dcU_w hne
  rw [List.length_drop] at hw
  refine ⟨⟨?_, ?_⟩, hw.1, by omega, dcU_ok _⟩
  · rw [h.1, runesU_drop hk]; simp
  · have := h.2; rw [List.length_append]; simp; omega
theorem fdU_end {l : List UInt8} {k : Nat} {d : List Nat} (h : fdU l k d) (hk : ¬ k < l.length) : d = foldU l := by rw [h.1, runesU_end hk]; simp

set_option maxHeartbeats 1000000 in
theorem gfold_any (l : List UInt8) (w : World) (hl : l.length ≤ 1000000000) : Calls Try.prog 80 #[.string ⟨l.toArray⟩] w fun e w' => ∃ u, e = .returned u ∧ Ow ruv 21 w' w.heap.size u (foldU l) ∧ Fr Non w w' := by
  go_enter Try.func80, Try.ntmps80
  go_wp2
  go_loopw [3] (fun v wr => ∃ k d, k ≤ l.length ∧ ItU wr w.heap.size l k ∧ Ow ruv 21 wr (w.heap.size + 1) v d ∧ Fr Non w wr ∧ Hid (fdU l k d)) (fun _ wr => l.length - wr.iterPos w.heap.size)
  case atStart => exact ⟨0, [], by omega, ItU.new w l, ow_nil _ _, (Fr.refl _ _).alloc _, Lib.hid (fdU_zero l)⟩
  case round =>
    obtain ⟨k, d, hk, hit, hown, hfr, hd⟩ := hrel
    have hp0 := hit.pos
    by_cases hlt : k < l.length
    · obtain ⟨hm, hw1, hw2, hok⟩ := fdU_more hd.out hlt
      obtain ⟨W, hnx, hitW, hfW⟩ := nextU wr w.heap.size k l hit hlt
      have HSm := Lib.hid (fun V => gsmall_any (dcU (l.drop k)).1 V (okU_le hok))
      have hownW := hown.fr hfW (fun q hq e => by have := (hown.lt q hq).1; have : q = w.heap.size := e; omega)
      have hfrW := hfr.fresh hfW (fun q e => by have : q = w.heap.size := e; omega)
      have hdl := hd.out.2
      have HM := Lib.hid hm
      clear hd hit hown hfr hfW hok hm
      generalize (dcU (l.drop k)).1 = r at *
      generalize hq : k + (dcU (l.drop k)).2 = q at *
      have hkq : k < q := by omega
      clear hq hw1
      go_wp2_with fail
      refine (HSm.out _).mono ?_
      rintro e w1 ⟨rfl, rfl⟩
      clear HSm
      have hB := hitW.lt
      go_wp2_with (at_builtin; refine wpList_pushG el_rune ruv_one rfl (.tmp 11) (.tmp 14) rfl (w.heap.size + 1) _ d rfl hownW _ (smU r) rfl rfl (by omega) (by omega) ?_; intro v5 w5 hown5 hf5)
      have hit5 := hitW.fr hf5 (fun e => by have := (hownW.lt _ e).1; omega)
      have hfr5 := hfrW.fresh hf5 (fun q hq => by have := (hownW.lt q hq).1; omega)
      go_roundw
      case rel => exact ⟨q, _, hw2, hit5, hown5, hfr5, HM⟩
      case measure => rw [hp0, hit5.pos]; omega
    · have hnx := fun ty => nextU_end wr w.heap.size k l hit hlt ty
      have HE := Lib.hid (fdU_end hd.out hlt)
      clear hd
      go_wp2
      go_ret
      exact ⟨_, rfl, by rw [← HE.out]; exact hown.mono (by omega), hfr⟩

end Go.Proofs.Ytnbhgkolfapblaa


namespace Go.Proofs.Ytnbhgkolfapblaa
set_option linter.unusedVariables false
set_option linter.unusedSimpArgs false
set_option maxRecDepth 100000
open Go.RowKit

theorem ow_not_it {α : Type} {f : α → Value} {E : TypeId} {w : World} {B : Nat} {v : Value} {d : List α} (h : Ow f E w B v d) {k p : Nat} {l : List UInt8} (hi : ItU w k l p) : ¬ v.ownBlock = some k := by
  intro e
  obtain ⟨cur, hc⟩ := h.kind k e
  unfold ItU at hi
  rw [hi] at hc
  cases hc

set_option maxHeartbeats 1000000 in
theorem rgfold_any (l : List UInt8) (w : World) (hl : l.length ≤ 1000000000) : Calls Try.prog 55 #[.string ⟨l.toArray⟩] w fun e w' => ∃ u, e = .returned u ∧ Ow ruv 21 w' w.heap.size u (foldU l) ∧ Fr Non w w' := by
  go_enter Try.func55, Try.ntmps55
  go_wp2
  have hst := (ow_lit0 (f := ruv) (E := 21) w w.heap.size w.heap.size rfl (Nat.le_refl _))
  have hit0 := ItU.new (w.alloc (.cells #[] 21)) l
  have hf0 : Fr Non w ((w.alloc (.cells #[] 21)).iter ⟨l.toArray⟩ 0) := ((Fr.refl Non w).alloc _).alloc _
  rw [show (w.alloc (.cells #[] 21)).heap.size = w.heap.size + 1 by simp] at hit0
  go_loopw [3] (fun v wr => ∃ k d, k ≤ l.length ∧ ItU wr (w.heap.size + 1) l k ∧ Ow ruv 21 wr w.heap.size v d ∧ Fr Non w wr ∧ Hid (fdU l k d)) (fun _ wr => l.length - wr.iterPos (w.heap.size + 1))
  case atStart => exact ⟨0, [], by omega, hit0, hst.alloc _, hf0, Lib.hid (fdU_zero l)⟩
  case round =>
    clear hst hit0 hf0
    obtain ⟨k, d, hk, hit, hown, hfr, hd⟩ := hrel
    have hp0 := hit.pos
    by_cases hlt : k < l.length
    · obtain ⟨hm, hw1, hw2, hok⟩ := fdU_more hd.out hlt
      obtain ⟨W, hnx, hitW, hfW⟩ := nextU wr (w.heap.size + 1) k l hit hlt
      have hnot := ow_not_it hown hit
      have hownW := hown.fr hfW (fun q hq e => hnot (by rw [hq, show q = w.heap.size + 1 from e]))
      have hfrW := hfr.fresh hfW (fun q e => by have : q = w.heap.size + 1 := e; omega)
      have hdl := hd.out.2
      have HM := Lib.hid hm
      have hr := okU_le hok
      clear hd hit hown hfr hfW hok hm hnot
      generalize (dcU (l.drop k)).1 = r at *
      generalize hq : k + (dcU (l.drop k)).2 = q at *
      have hkq : k < q := by omega
      have hB := hitW.lt
      clear hq hw1
      by_cases h1 : 65 ≤ r
      · have hb1 : decide ((65 : Int) ≤ (r : Int)) = true := by simp; omega
        by_cases h2 : r ≤ 90
        · rw [smU_lt h1 h2] at HM
          have hb2 : decide ((r : Int) ≤ 90) = true := by simp; omega
          have hw1 : IntKind.i32.wrap ((r : Int) - 65) = (r : Int) - 65 := by simp [IntKind.wrap, IntKind.bits, IntKind.signed]; omega
          have hw2 : IntKind.i32.wrap ((r : Int) - 65 + 97) = ((r + 32 : Nat) : Int) := by simp [IntKind.wrap, IntKind.bits, IntKind.signed]; omega
          clear h1 h2
          go_wp2_with (at_builtin; refine wpList_pushG el_rune ruv_one rfl (.tmp 21) (.tmp 23) rfl w.heap.size _ d rfl hownW _ (r + 32) rfl rfl (by omega) (by omega) ?_; intro v5 w5 hown5 hf5)
          have hnotW := ow_not_it hownW hitW
          have hit5 := hitW.fr hf5 hnotW
          have hfr5 := hfrW.fresh hf5 (fun q hq => by have := (hownW.lt q hq).1; omega)
          go_roundw
          case rel => exact ⟨q, _, by omega, hit5, hown5, hfr5, HM⟩
          case measure => rw [hp0, hit5.pos]; omega
        · rw [smU_hi (by omega)] at HM
          have hb2 : decide ((r : Int) ≤ 90) = false := by simp; omega
          clear h1 h2
          go_wp2_with (at_builtin; refine wpList_pushG el_rune ruv_one rfl (.tmp 21) (.tmp 23) rfl w.heap.size _ d rfl hownW _ r rfl rfl (by omega) (by omega) ?_; intro v5 w5 hown5 hf5)
          have hnotW := ow_not_it hownW hitW
          have hit5 := hitW.fr hf5 hnotW
          have hfr5 := hfrW.fresh hf5 (fun q hq => by have := (hownW.lt q hq).1; omega)
          go_roundw
          case rel => exact ⟨q, _, by omega, hit5, hown5, hfr5, HM⟩
          case measure => rw [hp0, hit5.pos]; omega
      · rw [smU_lo (by omega)] at HM
        have hb1 : decide ((65 : Int) ≤ (r : Int)) = false := by simp; omega
        clear h1
        go_wp2_with (at_builtin; refine wpList_pushG el_rune ruv_one rfl (.tmp 21) (.tmp 23) rfl w.heap.size _ d rfl hownW _ r rfl rfl (by omega) (by omega) ?_; intro v5 w5 hown5 hf5)
        have hnotW := ow_not_it hownW hitW
        have hit5 := hitW.fr hf5 hnotW
        have hfr5 := hfrW.fresh hf5 (fun q hq => by have := (hownW.lt q hq).1; omega)
        go_roundw
        case rel => exact ⟨q, _, by omega, hit5, hown5, hfr5, HM⟩
        case measure => rw [hp0, hit5.pos]; omega
    · have hnx := fun ty => nextU_end wr (w.heap.size + 1) k l hit hlt ty
      have HE := Lib.hid (fdU_end hd.out hlt)
      clear hd
      go_wp2
      go_ret
      exact ⟨_, rfl, by rw [← HE.out]; exact hown, hfr⟩

theorem empty_any (v : Value) (p : List Nat) (w : World) (hv : Vs ruv w v p) (hl : p.length ≤ 1000000000) : Calls Try.prog 85 #[v] w fun e w' => e = .returned (.bool (mtG p [])) ∧ w = w' := by
  rw [mtG_empty]
  obtain ⟨A, c, rfl, hlc, hn, hcell⟩ := hv
  have HC := Lib.hid hcell
  have HN := Lib.hid hn
  clear hcell hn
  go_enter Try.func85, Try.ntmps85
  go_wp2
  go_loop [7] (fun i => ∃ k : Nat, k ≤ p.length ∧ i = .int .i64 k ∧ Hid (∀ j (hj : j < p.length), j < k → p[j] = 37)) (fun i => p.length - (intOf i).toNat)
  case atStart => exact ⟨0, by omega, rfl, Lib.hid (fun _ _ h => by omega)⟩
  case round =>
    obtain ⟨k, hk, rfl, hok⟩ := hrel
    by_cases hlt : k < p.length
    · cases A with
      | none => have := HN.out rfl; omega
      | some a =>
        have hce := HC.out a rfl k hlt
        unfold ruv at hce
        by_cases h : p[k] = 37
        · have HM : Hid (∀ j (hj : j < p.length), j < k + 1 → p[j] = 37) := Lib.hid (fun j hj hlt2 => by
            by_cases e : j = k
            · subst e; exact h
            · exact hok.out j hj (by omega))
          have hb : ((p[k] : Nat) : Int) = 37 := by omega
          rw [hb] at hce
          clear h hb hok
          go_wp2
          go_roundw
          case rel => exact ⟨k + 1, by omega, by go_num, HM⟩
          case measure => simp [intOf]; omega
        · have HX : Hid (p.all (fun c => c == 37) = false) := Lib.hid (by
            rw [Bool.eq_false_iff]; intro e
            exact h (by simpa using List.all_eq_true.1 e _ (List.getElem_mem hlt)))
          have hb : (((p[k] : Nat) : Int) == 37) = false := by rw [beq_eq_false_iff_ne]; omega
          clear h hok
          generalize p[k] = x at *
          go_wp2
          go_ret
          exact ⟨ret_boolE HX.out.symm, rfl⟩
    · have HX : Hid (p.all (fun c => c == 37) = true) := Lib.hid (by
        rw [List.all_eq_true]; intro x hx
        obtain ⟨j, hj, rfl⟩ := List.mem_iff_getElem.1 hx
        simpa using hok.out j hj (by omega))
      clear hok
      go_wp2
      go_ret
      exact ⟨ret_boolE HX.out.symm, rfl⟩

end Go.Proofs.Ytnbhgkolfapblaa


namespace Go.Proofs.Ytnbhgkolfapblaa
set_option linter.unusedVariables false
set_option linter.unusedSimpArgs false
set_option maxRecDepth 100000
open Go.RowKit

/-- the measure of the way: what is left to take, and of the pattern -/
def msG (P T a k : Nat) : Nat := (T - k) * (P + 1) + (P - a)
theorem msG_at {P T a k : Nat} (ha : a < P) : msG P T (a + 1) k < msG P T a k := by unfold msG; omega
theorem msG_more {P T a k p : Nat} (ha : a < P) (hk : k ≤ p) : msG P T (a + 1) p < msG P T a k := by
  unfold msG
  have := Nat.mul_le_mul_right (P + 1) (show T - p ≤ T - k by omega)
  omega
theorem msG_back {P T a b k : Nat} (hk : k < T) : msG P T b (k + 1) < msG P T a k := by
  unfold msG
  have e : T - k = (T - (k + 1)) + 1 := by omega
  rw [e, Nat.succ_mul]
  omega
theorem stG_k {P T : List Nat} {a p k : Nat} {back : Int} (h : stG P T a p back k) : k ≤ p ∧ (back < 0 ∨ ∃ b : Nat, back = b ∧ b ≤ a) := by
  rcases h with ⟨h0, h1, _⟩ | ⟨b, h0, h1, h2, _⟩
  · exact ⟨by omega, .inl (by omega)⟩
  · exact ⟨h2, .inr ⟨b, h0, h1⟩⟩

set_option maxHeartbeats 2000000 in
theorem matches_any (v u : Value) (P T : List Nat) (w : World) (hv : Vs ruv w v P) (hu : Vs ruv w u T) (hl : P.length ≤ 1000000000) (hlt : T.length ≤ 1000000000) :
    Calls Try.prog 79 #[v, u] w fun e w' => e = .returned (.bool (mtG P T)) ∧ Fr Non w w' := by
  have HV := Lib.hid hv
  have HU := Lib.hid hu
  obtain ⟨A, c, rfl, hlc, hn, hcell⟩ := hv
  obtain ⟨A2, c2, rfl, hlc2, hn2, hcell2⟩ := hu
  have HC := Lib.hid hcell
  have HC2 := Lib.hid hcell2
  have HN := Lib.hid hn
  have HN2 := Lib.hid hn2
  clear hcell hn hcell2 hn2
  go_enter Try.func79, Try.ntmps79
  go_wp2
  go_loopw [5, 6, 7, 8] (fun ia ip ib ik wr => ∃ (a p k : Nat) (back : Int), a ≤ P.length ∧ p ≤ T.length ∧ ia = .int .i64 a ∧ ip = .int .i64 p ∧ ib = .int .i64 back ∧ ik = .int .i64 k ∧ Hid (stG P T a p back k) ∧ Fr Non w wr) (fun ia _ _ ik _ => msG P.length T.length (intOf ia).toNat (intOf ik).toNat)
  case atStart => exact ⟨0, 0, 0, -1, by omega, by omega, rfl, rfl, rfl, rfl, Lib.hid (stG_start P T), Fr.refl _ _⟩
  case round =>
    obtain ⟨a, p, k, back, ha, hp, rfl, rfl, rfl, rfl, hst, hfr⟩ := hrel
    obtain ⟨hkp, hba⟩ := stG_k hst.out
    have HB := Lib.hid hba
    have HF := Lib.hid hfr
    clear hba hfr
    by_cases hpl : p < T.length
    · obtain ⟨q2, rfl⟩ : ∃ q, A2 = some q := by
        cases A2 with
        | none => have := HN2.out rfl; omega
        | some q => exact ⟨q, rfl⟩
      have hcT := HF.out.cell (World.block_lt_of_cell? w _ (HC2.out q2 rfl p hpl)) (fun e => e) |>.trans (HC2.out q2 rfl p hpl)
      unfold ruv at hcT
      -- behind the last any, or nowhere
      by_cases hal : a < P.length
      · obtain ⟨q1, rfl⟩ : ∃ q, A = some q := by
          cases A with
          | none => have := HN.out rfl; omega
          | some q => exact ⟨q, rfl⟩
        have hcP := HF.out.cell (World.block_lt_of_cell? w _ (HC.out q1 rfl a hal)) (fun e => e) |>.trans (HC.out q1 rfl a hal)
        unfold ruv at hcP
        by_cases h37 : P[a] = 37
        · have HS := Lib.hid (stG_many hst.out hal hp h37)
          have HM := Lib.hid (msG_more (P := P.length) (T := T.length) hal hkp)
          have hb : ((P[a] : Nat) : Int) = 37 := by omega
          rw [hb] at hcP
          clear hb h37 hst
          go_wp2
          go_roundw
          case rel => exact ⟨a + 1, p, p, ((a + 1 : Nat) : Int), by omega, hp, by go_num, rfl, by go_num, rfl, HS, HF.out⟩
          case measure => simpa [intOf] using HM.out
        · have hb : (((P[a] : Nat) : Int) == 37) = false := by rw [beq_eq_false_iff_ne]; omega
          by_cases hm : P[a] = 95 ∨ P[a] = T[p]
          · have HS := Lib.hid (stG_one hst.out hal hpl h37 hm)
            have HM := Lib.hid (msG_at (P := P.length) (T := T.length) (k := k) hal)
            clear h37 hst HB
            by_cases h95 : P[a] = 95
            · have hb2 : ((P[a] : Nat) : Int) = 95 := by omega
              rw [hb2] at hcP
              clear hb hb2 h95 hm
              generalize T[p] = x at *
              go_wp2
              go_quiet (fail)
              go_wp2
              go_roundw
              case rel => exact ⟨a + 1, p + 1, k, back, by omega, by omega, by go_num, by go_num, rfl, rfl, HS, HF.out.drewN _⟩
              case measure => simpa [intOf] using HM.out
            · have hb2 : (((P[a] : Nat) : Int) == 95) = false := by rw [beq_eq_false_iff_ne]; omega
              have hx : T[p] = P[a] := by rcases hm with h | h; exact absurd h h95; exact h.symm
              rw [hx] at hcT
              clear h95 hm hx
              generalize P[a] = x at *
              go_wp2
              go_quiet (fail)
              go_wp2
              go_roundw
              case rel => exact ⟨a + 1, p + 1, k, back, by omega, by omega, by go_num, by go_num, rfl, rfl, HS, HF.out.drewN _⟩
              case measure => simpa [intOf] using HM.out
          · have hno := mtG_stop hpl (fun _ => ⟨h37, fun e => hm (.inl e), fun e => hm (.inr e)⟩)
            have hb2 : (((P[a] : Nat) : Int) == 95) = false := by rw [beq_eq_false_iff_ne]; intro e; exact hm (.inl (by omega))
            have hb3 : (((P[a] : Nat) : Int) == ((T[p] : Nat) : Int)) = false := by rw [beq_eq_false_iff_ne]; intro e; exact hm (.inr (by omega))
            rcases HB.out with hneg | ⟨b, rfl, hble⟩
            · have HX := Lib.hid (stG_no hst.out hneg hno)
              have hb4 : decide ((0 : Int) ≤ back) = false := by simp; omega
              clear h37 hm hst HB hno hneg
              generalize P[a] = x at *
              generalize T[p] = y at *
              go_wp2
              go_quiet (fail)
              go_wp2
              go_ret
              exact ⟨ret_boolE HX.out.symm, HF.out.drewN _⟩
            · have HS := Lib.hid (stG_back hst.out hpl hno).1
              have HM := Lib.hid (msG_back (P := P.length) (T := T.length) (a := a) (b := b) (k := k) (by omega))
              clear h37 hm hst HB hno
              generalize P[a] = x at *
              generalize T[p] = y at *
              go_wp2
              go_quiet (fail)
              go_wp2
              go_roundw
              case rel => exact ⟨b, k + 1, k + 1, (b : Int), by omega, by omega, rfl, by go_num, rfl, by go_num, HS, HF.out.drewN _⟩
              case measure => simpa [intOf] using HM.out
      · have hno := mtG_stop (P := P) (a := a) hpl (fun h => absurd h hal)
        rcases HB.out with hneg | ⟨b, rfl, hble⟩
        · have HX := Lib.hid (stG_no hst.out hneg hno)
          have hb4 : decide ((0 : Int) ≤ back) = false := by simp; omega
          clear hst HB hno hneg
          generalize T[p] = y at *
          go_wp2
          go_quiet (fail)
          go_wp2
          go_ret
          exact ⟨ret_boolE HX.out.symm, HF.out.drewN _⟩
        · have HS := Lib.hid (stG_back hst.out hpl hno).1
          have HM := Lib.hid (msG_back (P := P.length) (T := T.length) (a := a) (b := b) (k := k) (by omega))
          clear hst HB hno
          generalize T[p] = y at *
          go_wp2
          go_quiet (fail)
          go_wp2
          go_roundw
          case rel => exact ⟨b, k + 1, k + 1, (b : Int), by omega, by omega, rfl, by go_num, rfl, by go_num, HS, HF.out.drewN _⟩
          case measure => simpa [intOf] using HM.out
    · obtain rfl : p = T.length := by omega
      have HX := Lib.hid (stG_end hst.out ha)
      obtain ⟨A', c', hrun, hvs, _⟩ := slice_loG el_rune A P.length c a .i64 (a : Int) rfl ha hlc
      have hv2 := hvs ruv wr P rfl (HV.out.non HF.out)
      have HE := Lib.hid (empty_any _ _ wr hv2 (by rw [List.length_drop]; omega))
      clear hst HB hvs hv2
      go_wp2_with fail
      refine HE.out.mono ?_
      rintro e w1 ⟨rfl, rfl⟩
      go_wp2
      go_ret
      exact ⟨ret_boolE HX.out.symm, HF.out⟩

theorem gmatch_any (p s : List UInt8) (w : World) (hp : p.length ≤ 1000000000) (hs : s.length ≤ 1000000000) :
    Calls Try.prog 66 #[.string ⟨p.toArray⟩, .string ⟨s.toArray⟩] w fun e w' => e = .returned (.bool (matchU p s)) ∧ Fr Non w w' := by
  have HP := Lib.hid (fun W => gfold_any p W hp)
  have HS := Lib.hid (fun W => gfold_any s W hs)
  have hpl := foldU_le p
  have hsl := foldU_le s
  have HM := Lib.hid (fun v u W (h1 : Vs ruv W v (foldU p)) (h2 : Vs ruv W u (foldU s)) => matches_any v u _ _ W h1 h2 (by omega) (by omega))
  clear hpl hsl
  unfold matchU
  generalize foldU p = P at *
  generalize foldU s = T at *
  go_enter Try.func66, Try.ntmps66
  go_wp2_with fail
  refine (HP.out _).mono ?_
  rintro e w1 ⟨u1, rfl, o1, f1⟩
  go_wp2_with fail
  refine (HS.out _).mono ?_
  rintro e w2 ⟨u2, rfl, o2, f2⟩
  have H2 := Lib.hid (HM.out u1 u2 w2 (o1.vs.non f2) o2.vs)
  have F2 := Lib.hid (f1.trans f2)
  clear HP HS HM o1 o2 f1 f2
  go_wp2_with fail
  refine H2.out.mono ?_
  rintro e w3 ⟨rfl, f3⟩
  go_wp2
  go_ret
  exact ⟨rfl, F2.out.trans f3⟩

end Go.Proofs.Ytnbhgkolfapblaa


namespace Go.Proofs.Ytnbhgkolfapblaa
set_option linter.unusedVariables false
set_option linter.unusedSimpArgs false
set_option maxRecDepth 100000
open Go.RowKit

/-- a round's cell: what is stored there, and the row behind it -/
theorem canK_many {q T : List Nat} {k : Nat} {b : Bool} (hk : k ≤ T.length) (hb : b = (mtG q (T.take k) || (decide (0 < k) && mtG (q ++ [37]) (T.take (k - 1))))) : (canK (q ++ [37]) T k).set k b = canK (q ++ [37]) T (k + 1) :=
  canK_set _ _ _ _ hk (by rw [mtG_snoc_many _ _ _ hk, hb])
theorem canK_one {q T : List Nat} {c k : Nat} {b : Bool} (hc : c ≠ 37) (hk : k ≤ T.length) (hb : b = (decide (0 < k) && mtG q (T.take (k - 1)) && (c == 95 || c == T.getD (k - 1) 0))) : (canK (q ++ [c]) T k).set k b = canK (q ++ [c]) T (k + 1) :=
  canK_set _ _ _ _ hk (by rw [mtG_snoc_one _ _ _ _ hc hk, hb])
theorem canK_cur (q T : List Nat) (k : Nat) (hk : k ≤ T.length) : (canK q T k)[k]? = some false := by
  unfold canK
  rw [List.getElem?_append_right (by rw [List.length_take, canG_len]; omega), List.length_take, canG_len, List.getElem?_replicate, if_pos (by omega)]
set_option maxHeartbeats 4000000 in
theorem rgmatch_any (p s : List UInt8) (w : World) (hp : p.length ≤ 1000000) (hs : s.length ≤ 1000000) :
    Calls Try.prog 36 #[.string ⟨p.toArray⟩, .string ⟨s.toArray⟩] w fun e w' => e = .returned (.bool (matchU p s)) ∧ Fr Non w w' := by
  have HP := Lib.hid (fun W => rgfold_any p W (by omega))
  have HS := Lib.hid (fun W => rgfold_any s W (by omega))
  have hpl := foldU_le p
  have hsl := foldU_le s
  unfold matchU
  generalize foldU p = P at *
  generalize foldU s = T at *
  have hpP : P.length ≤ 1000000 := by omega
  have hpT : T.length ≤ 1000000 := by omega
  clear hpl hsl
  go_enter Try.func36, Try.ntmps36
  go_wp2_with fail
  refine (HP.out _).mono ?_
  rintro e w1 ⟨u1, rfl, o1, f1⟩
  go_wp2_with fail
  refine (HS.out _).mono ?_
  rintro e w2 ⟨u2, rfl, o2, f2⟩
  have HV1 := Lib.hid (o1.vs.non f2)
  have HV2 := Lib.hid o2.vs
  have HF2 := Lib.hid (f1.trans f2)
  have hn1 := HV1.out
  have hn2 := HV2.out
  clear HP HS o1 o2 f1 f2
  obtain ⟨A1, c1, rfl, hc1, hnn1, hcell1⟩ := hn1
  obtain ⟨A2, c2, rfl, hc2, hnn2, hcell2⟩ := hn2
  have HC1 := Lib.hid hcell1
  have HC2 := Lib.hid hcell2
  have HN1 := Lib.hid hnn1
  have HN2 := Lib.hid hnn2
  clear hcell1 hcell2 hnn1 hnn2
  go_wp2_with (at_make; refine wpList_mkfullG el_bool (f := tv) false rfl rfl _ _ rfl _ _ _ _ (T.length + 1) rfl rfl rfl rfl (by omega) ?_; intro w3 hown3 hfr3; have hce : w3.cell? ⟨w2.heap.size, 0, none⟩ = some (.bool false) := hown3.cell (by simp) 0 false (by simp); have hfz := hown3.frozen (by simp) 0; have hst := hown3.store (by simp) 0 true; rw [← canG_nil] at hst; have HO3 := Lib.hid hst; have hF4 : Fr Non w2 (w3.setCell ⟨w2.heap.size, 0, none⟩ (tv true)) := hfr3.setCell (p := ⟨w2.heap.size, 0, none⟩) (fun h => absurd h (Nat.lt_irrefl _)) _; have HF4 := Lib.hid hF4; clear hst hfr3 hown3 hF4)
  go_loopw [7, 8] (fun vc vi wr => ∃ i : Nat, i ≤ P.length ∧ vi = .int .i64 i ∧ Ow tv 4 wr w2.heap.size vc (canG (P.take i) T) ∧ Fr Non w2 wr) (fun _ vi _ => P.length - (intOf vi).toNat)
  case atStart => exact ⟨0, by omega, rfl, HO3.out, HF4.out⟩
  case round =>
    clear HO3 HF4
    rename World => wo
    obtain ⟨i, hi, rfl, hown, hfr⟩ := hrel
    obtain ⟨g0, cap, rfl, hg0, hg0s, hcl, _⟩ := hown.row (by rw [canG_len]; omega)
    rw [canG_len] at hcl hown
    rw [canG_len]
    have HF := Lib.hid hfr
    have HC := Lib.hid hown
    clear hown hfr
    by_cases hlt : i < P.length
    · obtain ⟨q1, rfl⟩ : ∃ q, A1 = some q := by
        cases A1 with
        | none => have := HN1.out rfl; omega
        | some q => exact ⟨q, rfl⟩
      have HTk := Lib.hid (take_snocG hlt)
      obtain ⟨c, hc⟩ : ∃ c, P[i] = c := ⟨_, rfl⟩
      have hcP := HC1.out q1 rfl i hlt
      rw [hc] at hcP HTk
      have HcP := Lib.hid hcP
      clear hcP hc
      obtain ⟨Q, hQ⟩ : ∃ Q, P.take i = Q := ⟨_, rfl⟩
      rw [hQ] at HTk HC
      clear hQ
      go_wp2_with (at_make; refine wpList_mkfullG el_bool (f := tv) false rfl rfl _ _ rfl _ _ _ _ (T.length + 1) rfl rfl rfl rfl (by omega) ?_; intro w4 hown4 hfr4; have HO4 := Lib.hid hown4; have HF4 := Lib.hid hfr4; clear hown4 hfr4)
      clear hce hfz
      go_loopw [10] (fun vk wr => ∃ k : Nat, k ≤ T.length + 1 ∧ vk = .int .i64 k ∧ Ow tv 4 wr wo.heap.size (.slice (some ⟨wo.heap.size, 0, none⟩) (T.length + 1) (T.length + 1)) (canK (Q ++ [c]) T k) ∧ Fr Non wo wr) (fun vk _ => T.length + 1 - (intOf vk).toNat)
      case atStart => exact ⟨0, by omega, rfl, by rw [canK_zero]; exact HO4.out, HF4.out⟩
      case round =>
        clear HO4 HF4
        obtain ⟨k, hk, rfl, hown, hfr⟩ := hrel
        have HFx := Lib.hid hfr
        have HOx := Lib.hid hown
        clear hown hfr
        by_cases hlk : k < T.length + 1
        · have hkT : k ≤ T.length := by omega
          have hnK : wr.cell? ⟨wo.heap.size, k, none⟩ = some (.bool false) := HOx.out.cell (canK_len _ _ _ hk).symm k false (canK_cur _ _ _ hkT)
          have hzK := HOx.out.frozen (canK_len _ _ _ hk).symm k
          have HST := Lib.hid (fun b => HOx.out.store (canK_len _ _ _ hk).symm k b)
          have HFS : Hid (∀ b, Fr Non wo (wr.setCell ⟨wo.heap.size, k, none⟩ (tv b))) := Lib.hid (fun b => HFx.out.setCell (p := ⟨wo.heap.size, k, none⟩) (fun h => absurd h (Nat.lt_irrefl _)) _)
          have hcP := HF.out.trans HFx.out |>.cell (World.block_lt_of_cell? _ _ HcP.out) (fun e => e) |>.trans HcP.out
          have HCx := Lib.hid (HC.out.non HFx.out)
          unfold ruv at hcP
          unfold tv at HST HFS
          by_cases h37 : c = 37
          · subst h37
            have hcK := HCx.out.cell (canG_len _ _).symm k _ (canG_get Q T k hkT)
            unfold tv at hcK
            cases hm : mtG Q (T.take k) with
            | true =>
              have HS := Lib.hid (canK_many (q := Q) hkT (b := true) (by rw [hm]; rfl))
              rw [hm] at hcK
              clear hm
              go_wp2
              go_roundw
              case rel => exact ⟨k + 1, by omega, by go_num, by rw [← HS.out]; exact HST.out true, HFS.out true⟩
              case measure => simp [intOf]; omega
            | false =>
              rw [hm] at hcK
              cases k with
              | zero =>
                have HS := Lib.hid (canK_many (q := Q) hkT (b := false) (by rw [hm]; rfl))
                clear hm
                go_wp2
                go_roundw
                case rel => exact ⟨0 + 1, by omega, by go_num, by rw [← HS.out]; exact HST.out false, HFS.out false⟩
                case measure => simp [intOf]
              | succ m =>
                have hcM : wr.cell? ⟨wo.heap.size, m, none⟩ = some (.bool (mtG (Q ++ [37]) (T.take m))) := HOx.out.cell (canK_len _ _ _ hk).symm m _ (canK_at _ _ _ _ (by omega) (by omega))
                have HS := Lib.hid (canK_many (q := Q) hkT (b := mtG (Q ++ [37]) (T.take m)) (by rw [hm]; simp))
                clear hm
                generalize mtG (Q ++ [37]) (T.take m) = b at *
                go_wp2
                go_roundw
                case rel => exact ⟨m + 1 + 1, by omega, by go_num, by rw [← HS.out]; exact HST.out b, HFS.out b⟩
                case measure => simp [intOf]; omega
          · have hb : ((c : Int) == 37) = false := by rw [beq_eq_false_iff_ne]; omega
            cases k with
            | zero =>
              have HS := Lib.hid (canK_one (q := Q) h37 hkT (b := false) rfl)
              clear h37
              go_wp2
              go_region
              go_wp2
              go_roundw
              case rel => exact ⟨0 + 1, by omega, by go_num, by rw [← HS.out]; exact (HST.out false).drew, (HFS.out false).drew⟩
              case measure => simp [intOf]
            | succ m =>
              have hcM := HCx.out.cell (canG_len _ _).symm m _ (canG_get Q T m (by omega))
              unfold tv at hcM
              have hmT : m < T.length := by omega
              obtain ⟨q2, rfl⟩ : ∃ q, A2 = some q := by
                cases A2 with
                | none => have := HN2.out rfl; omega
                | some q => exact ⟨q, rfl⟩
              have hc2x := HC2.out q2 rfl m hmT
              have hcT := HF.out.trans HFx.out |>.cell (World.block_lt_of_cell? _ _ hc2x) (fun e => e) |>.trans hc2x
              unfold ruv at hcT
              clear hc2x
              have hgd : T.getD m 0 = T[m] := by simp [List.getD_eq_getElem?_getD, hmT]
              cases hm : mtG Q (T.take m) with
              | false =>
                have HS := Lib.hid (canK_one (q := Q) (T := T) (k := m + 1) h37 hkT (b := false) (by rw [Nat.add_sub_cancel, hm]; simp))
                rw [hm] at hcM
                clear hm h37 hgd
                generalize T[m] = x at *
                go_wp2
                go_region
                go_wp2
                go_roundw
                case rel => exact ⟨m + 1 + 1, by omega, by go_num, by rw [← HS.out]; exact (HST.out false).drew, (HFS.out false).drew⟩
                case measure => simp [intOf]; omega
              | true =>
                rw [hm] at hcM
                by_cases h95 : c = 95
                · have HS := Lib.hid (canK_one (q := Q) (T := T) (k := m + 1) h37 hkT (b := true) (by rw [Nat.add_sub_cancel, hm, h95]; simp))
                  have hb2 : ((c : Int) == 95) = true := by rw [beq_iff_eq]; omega
                  clear hm h37 hgd h95
                  generalize T[m] = x at *
                  go_wp2
                  go_region
                  go_wp2
                  go_roundw
                  case rel => exact ⟨m + 1 + 1, by omega, by go_num, by rw [← HS.out]; exact (HST.out true).drew, (HFS.out true).drew⟩
                  case measure => simp [intOf]; omega
                · have hb2 : ((c : Int) == 95) = false := by rw [beq_eq_false_iff_ne]; omega
                  have HS := Lib.hid (canK_one (q := Q) (T := T) (k := m + 1) h37 hkT (b := c == T[m]) (by rw [Nat.add_sub_cancel, hm, hgd, beq_eq_false_iff_ne.2 h95]; simp))
                  by_cases hx : c = T[m]
                  · rw [beq_iff_eq.2 hx] at HS
                    rw [← hx] at hcT
                    clear hm h37 hgd h95 hx
                    go_wp2
                    go_region
                    go_wp2
                    go_roundw
                    case rel => exact ⟨m + 1 + 1, by omega, by go_num, by rw [← HS.out]; exact (HST.out true).drew, (HFS.out true).drew⟩
                    case measure => simp [intOf]; omega
                  · rw [beq_eq_false_iff_ne.2 hx] at HS
                    have hb3 : ((c : Int) == ((T[m] : Nat) : Int)) = false := by rw [beq_eq_false_iff_ne]; omega
                    clear hm h37 hgd h95 hx
                    generalize T[m] = x at *
                    go_wp2
                    go_region
                    go_wp2
                    go_roundw
                    case rel => exact ⟨m + 1 + 1, by omega, by go_num, by rw [← HS.out]; exact (HST.out false).drew, (HFS.out false).drew⟩
                    case measure => simp [intOf]; omega
        · obtain rfl : k = T.length + 1 := by omega
          have HN := Lib.hid HOx.out
          rw [canK_all, ← HTk.out] at HN
          go_wp2
          go_roundw
          case rel => exact ⟨i + 1, by omega, by go_num, HN.out.mono (HF.out.size), HF.out.trans HFx.out⟩
          case measure => simp [intOf]; omega
    · obtain rfl : i = P.length := by omega
      rw [List.take_length] at HC
      have hcK := HC.out.cell (canG_len _ _).symm T.length _ (canG_last P T)
      unfold tv at hcK
      have HE := Lib.hid ((HF2.out.trans HF.out))
      clear hce hfz
      go_wp2
      go_ret
      exact ⟨rfl, HE.out⟩

end Go.Proofs.Ytnbhgkolfapblaa


namespace Go.Proofs.Ytnbhgkolfapblaa
set_option linter.unusedVariables false
set_option linter.unusedSimpArgs false
set_option maxRecDepth 100000
open Go.RowKit

theorem etold_any (b : Bool) (w : World) : Calls Try.prog 47 #[.bool b] w fun e w' => e = .returned (.int .i64 (yesI b)) ∧ w = w' := by
  cases b
  all_goals
    go_enter Try.func47, Try.ntmps47
    go_wp2
    go_ret
    exact ⟨rfl, rfl⟩
theorem ryes_any (b : Bool) (w : World) : Calls Try.prog 34 #[.bool b] w fun e w' => e = .returned (.int .i64 (yesI b)) ∧ w = w' := by
  cases b
  all_goals
    go_enter Try.func34, Try.ntmps34
    go_wp2
    go_ret
    exact ⟨rfl, rfl⟩
theorem erank_any (b : Bool) (w : World) : Calls Try.prog 77 #[.bool b] w fun e w' => e = .returned (.int .i64 (bitI b)) ∧ w = w' := by
  cases b
  all_goals
    go_enter Try.func77, Try.ntmps77
    go_wp2
    go_ret
    exact ⟨rfl, rfl⟩
theorem enot_any (t : Int) (w : World) : Calls Try.prog 49 #[.int .i64 t] w fun e w' => e = .returned (.int .i64 (notI t)) ∧ w = w' := by
  by_cases h1 : t = 1
  · subst h1
    go_enter Try.func49, Try.ntmps49
    go_wp2
    go_ret
    exact ⟨rfl, rfl⟩
  · by_cases h0 : t = 0
    · subst h0
      go_enter Try.func49, Try.ntmps49
      go_wp2
      go_ret
      exact ⟨rfl, rfl⟩
    · have b1 : (t == 1) = false := by rw [beq_eq_false_iff_ne]; exact h1
      have b0 : (t == 0) = false := by rw [beq_eq_false_iff_ne]; exact h0
      have HE : Hid (notI t = 2) := Lib.hid (by unfold notI; rw [if_neg h1, if_neg h0])
      clear h1 h0
      go_enter Try.func49, Try.ntmps49
      go_wp2
      go_ret
      exact ⟨ret_int HE.out.symm, rfl⟩
theorem agr_6 {op : Int} (n : Int) (h1 : op ≠ 1) (h2 : op ≠ 2) (h3 : op ≠ 3) (h4 : op ≠ 4) (h5 : op ≠ 5) : agrI op n = decide (0 ≤ n) := by unfold agrI; rw [if_neg h1, if_neg h2, if_neg h3, if_neg h4, if_neg h5]
theorem eagrees_any (op n : Int) (w : World) : Calls Try.prog 64 #[.int .i64 op, .int .i64 n] w fun e w' => e = .returned (.bool (agrI op n)) ∧ w = w' := by
  by_cases h1 : op = 1
  · subst h1
    go_enter Try.func64, Try.ntmps64
    go_wp2
    go_ret
    exact ⟨rfl, rfl⟩
  by_cases h2 : op = 2
  · subst h2
    go_enter Try.func64, Try.ntmps64
    go_wp2
    go_ret
    exact ⟨rfl, rfl⟩
  by_cases h3 : op = 3
  · subst h3
    go_enter Try.func64, Try.ntmps64
    go_wp2
    go_ret
    exact ⟨rfl, rfl⟩
  by_cases h4 : op = 4
  · subst h4
    go_enter Try.func64, Try.ntmps64
    go_wp2
    go_ret
    exact ⟨rfl, rfl⟩
  by_cases h5 : op = 5
  · subst h5
    go_enter Try.func64, Try.ntmps64
    go_wp2
    go_ret
    exact ⟨rfl, rfl⟩
  have HE := Lib.hid (agr_6 n h1 h2 h3 h4 h5)
  have b1 : (op == 1) = false := by rw [beq_eq_false_iff_ne]; exact h1
  have b2 : (op == 2) = false := by rw [beq_eq_false_iff_ne]; exact h2
  have b3 : (op == 3) = false := by rw [beq_eq_false_iff_ne]; exact h3
  have b4 : (op == 4) = false := by rw [beq_eq_false_iff_ne]; exact h4
  have b5 : (op == 5) = false := by rw [beq_eq_false_iff_ne]; exact h5
  clear h1 h2 h3 h4 h5
  go_enter Try.func64, Try.ntmps64
  go_wp2
  go_ret
  exact ⟨ret_boolE HE.out.symm, rfl⟩

theorem nanj_any (x : Int) (w : World) : Calls Try.prog 83 #[.int .i64 x] w fun e w' => e = .returned (.bool false) ∧ w = w' := by
  have h : (x != x) = false := by simp
  go_enter Try.func83, Try.ntmps83
  go_wp2
  go_ret
  exact ⟨ret_boolE (by simp), rfl⟩
theorem cmpj_any (x y : Int) (w : World) : Calls Try.prog 76 #[.int .i64 x, .int .i64 y] w fun e w' => e = .returned (.int .i64 (cmpI x y)) ∧ w = w' := by
  go_enter Try.func76, Try.ntmps76
  go_wp2_with fail
  refine (nanj_any x w).mono ?_
  rintro e w1 ⟨rfl, rfl⟩
  go_wp2_with fail
  refine (nanj_any y w).mono ?_
  rintro e w1 ⟨rfl, rfl⟩
  go_wp2
  all_goals
    go_ret
    exact ⟨ret_int (by unfold cmpI; first | (rw [if_pos (by omega)]; done) | (rw [if_neg (by omega), if_pos (by omega)]; done) | (rw [if_neg (by omega), if_neg (by omega)]; done)), rfl⟩

set_option maxHeartbeats 1000000 in
theorem eorder_any (a b : An) (h : AnT a b) (w : World) : Calls Try.prog 65 #[anV a, anV b] w fun e w' => e = .returned (.int .i64 (anO a b)) ∧ Fr Non w w' := by
  cases h with
  | int i j =>
    have A1 := fun W v => as_int_int W v
    have A2 := fun W v => is_int W v
    have HC := Lib.hid (fun W => cmpi_any i j W)
    simp only [anV, anO]
    generalize cmpI i j = z at *
    go_enter Try.func65, Try.ntmps65
    go_wp2_with fail
    refine (HC.out _).mono ?_
    rintro e w1 ⟨rfl, rfl⟩
    go_wp2
    go_ret
    exact ⟨rfl, Fr.refl _ _⟩
  | bool x y =>
    have A1 := fun W v => as_bool_int W v
    have A3 := fun W v => as_bool_bool W v
    have A2 := fun W v => is_bool W v
    have HC := Lib.hid (fun W => cmpj_any (bitI x) (bitI y) W)
    have HX := Lib.hid (fun W => erank_any x W)
    have HY := Lib.hid (fun W => erank_any y W)
    simp only [anV, anO]
    generalize cmpI _ _ = z at *
    generalize bitI x = x1 at *
    generalize bitI y = y1 at *
    go_enter Try.func65, Try.ntmps65
    go_wp2
    go_quiet (first | (go_at_call 77; exact quietly (HX.out _)) | (go_at_call 77; exact quietly (HY.out _)) | (go_at_call 76; exact quietly (HC.out _)))
    go_wp2
    go_ret
    exact ⟨rfl, (Fr.refl _ _).drewN _⟩
  | text s t =>
    have A1 := fun W v => as_str_int W v
    have A3 := fun W v => as_str_bool W v
    have A2 := fun W v => is_str W v
    have HC := Lib.hid (fun W => cmpt_any s t W)
    simp only [anV, anO]
    generalize cmpT s t = z at *
    go_enter Try.func65, Try.ntmps65
    go_wp2
    go_quiet (first | (go_at_call 78; exact quietly (HC.out _)))
    go_wp2
    go_ret
    exact ⟨rfl, (Fr.refl _ _).drewN _⟩
end Go.Proofs.Ytnbhgkolfapblaa


namespace Go.Proofs.Ytnbhgkolfapblaa
set_option linter.unusedVariables false
set_option linter.unusedSimpArgs false
set_option maxRecDepth 100000
open Go.RowKit

/-- what Find tells -/
def findV : Option Nat → Value
  | some k => .tuple #[.int .i64 k, .bool true]
  | none => .tuple #[.int .i64 0, .bool false]
def findI : Option Nat → Int
  | some k => k
  | none => -1
set_option maxHeartbeats 1000000 in
theorem sfind_any (v : Value) (l : List Co) (n : Tx) (w : World) (hv : Ks w v l) (hl : l.length ≤ 1000000000) :
    Calls Try.prog 42 #[v, .string ⟨n.toArray⟩] w fun e w' => e = .returned (findV (findC l n)) ∧ Fr Non w w' := by
  obtain ⟨A, c, rfl, hlc, hn, hcell⟩ := hv
  have HC := Lib.hid hcell
  have HN := Lib.hid hn
  clear hcell hn
  go_enter Try.func42, Try.ntmps42
  go_wp2
  go_loopw [10] (fun i wr => ∃ (k : Nat), k ≤ l.length ∧ i = .int .i64 k ∧ Hid (∀ j (hj : j < l.length), j < k → l[j].name ≠ n) ∧ Fr Non w wr) (fun i _ => l.length - (intOf i).toNat)
  case atStart => exact ⟨0, Nat.zero_le _, rfl, Lib.hid (fun _ _ h => by omega), Fr.refl _ _⟩
  case round =>
    obtain ⟨k, hk, rfl, hne, hfr⟩ := hrel
    by_cases hlt : k < l.length
    · cases A with
      | none => have := HN.out rfl; omega
      | some a =>
        obtain ⟨hc0, hc1, hc2⟩ := co_lit ((HC.out a rfl k hlt).non hfr)
        have HY := Lib.hid (fun h => find_at hlt h hne.out)
        have HX := Lib.hid (fun h => ne_more hlt hne.out h)
        clear hne
        generalize l[k] = x at *
        obtain ⟨xn, xt, xb⟩ := x
        dsimp only at hc0 hc1 hc2 HY HX
        have hfr2 := Lib.hid (hfr.alloc (.cells #[.string ⟨xn.toArray⟩, .int .i64 xt, .bool xb] 51))
        have g0 := (co_new wr ⟨xn, xt, xb⟩).cell 0
        simp at g0
        by_cases he : xn = n
        · have hb : (xn == n) = true := by rw [beq_iff_eq]; exact he
          have HE := Lib.hid (HY.out he)
          clear HY HX he hfr
          go_wp2
          go_ret2
          refine ⟨?_, hfr2.out⟩
          rw [HE.out]; rfl
        · have hb : (xn == n) = false := by rw [beq_eq_false_iff_ne]; exact he
          have HE := Lib.hid (HX.out he)
          clear HY HX he hfr
          go_wp2
          go_roundw
          case rel => exact ⟨k + 1, by omega, by go_num, HE, hfr2.out⟩
          case measure => simp [intOf]; omega
    · have HE := Lib.hid (find_no (l := l) (n := n) (fun j hj => hne.out j hj (by omega)))
      clear hne
      go_wp2
      go_ret2
      refine ⟨?_, hfr⟩
      rw [HE.out]; rfl

set_option maxHeartbeats 1000000 in
theorem rfind_any (v : Value) (l : List Co) (n : Tx) (w : World) (hv : Ks w v l) (hl : l.length ≤ 1000000000) :
    Calls Try.prog 33 #[v, .string ⟨n.toArray⟩] w fun e w' => e = .returned (.int .i64 (findI (findC l n))) ∧ Fr Non w w' := by
  obtain ⟨A, c, rfl, hlc, hn, hcell⟩ := hv
  have HC := Lib.hid hcell
  have HN := Lib.hid hn
  clear hcell hn
  go_enter Try.func33, Try.ntmps33
  go_wp2
  go_loop [5] (fun i => ∃ (k : Nat), k ≤ l.length ∧ i = .int .i64 k ∧ Hid (∀ j (hj : j < l.length), j < k → l[j].name ≠ n)) (fun i => l.length - (intOf i).toNat)
  case atStart => exact ⟨0, Nat.zero_le _, rfl, Lib.hid (fun _ _ h => by omega)⟩
  case round =>
    obtain ⟨k, hk, rfl, hne⟩ := hrel
    by_cases hlt : k < l.length
    · cases A with
      | none => have := HN.out rfl; omega
      | some a =>
        obtain ⟨hc0, hc1, hc2⟩ := co_lit (HC.out a rfl k hlt)
        have HY := Lib.hid (fun h => find_at hlt h hne.out)
        have HX := Lib.hid (fun h => ne_more hlt hne.out h)
        clear hne
        generalize l[k] = x at *
        obtain ⟨xn, xt, xb⟩ := x
        dsimp only at hc0 hc1 hc2 HY HX
        by_cases he : xn = n
        · have hb : (xn == n) = true := by rw [beq_iff_eq]; exact he
          have HE := Lib.hid (HY.out he)
          clear HY HX he
          go_wp2
          go_ret
          refine ⟨?_, Fr.refl _ _⟩
          rw [HE.out]; rfl
        · have hb : (xn == n) = false := by rw [beq_eq_false_iff_ne]; exact he
          have HE := Lib.hid (HX.out he)
          clear HY HX he
          go_wp2
          go_roundw
          case rel => exact ⟨k + 1, by omega, by go_num, HE⟩
          case measure => simp [intOf]; omega
    · have HE := Lib.hid (find_no (l := l) (n := n) (fun j hj => hne.out j hj (by omega)))
      clear hne
      go_wp2
      go_ret
      refine ⟨?_, Fr.refl _ _⟩
      rw [HE.out]; rfl

end Go.Proofs.Ytnbhgkolfapblaa


namespace Go.Proofs.Ytnbhgkolfapblaa
set_option linter.unusedVariables false
set_option linter.unusedSimpArgs false
set_option maxRecDepth 100000
open Go.RowKit

/-- a cell's three values, and those of many -/
def clL (c : Cl) : List Value := [.bool c.null, .int .i64 c.num, .string ⟨c.txt.toArray⟩]
def clsL (l : List Cl) : List Value := l.flatMap clL
theorem clsL_cons (c : Cl) (l : List Cl) : clsL (c :: l) = clL c ++ clsL l := by simp [clsL]
theorem clsL_len (l : List Cl) : (clsL l).length = l.length * 3 := by
  induction l with
  | nil => rfl
  | cons c l ih => rw [clsL_cons, List.length_append, ih, List.length_cons]; simp [clL]; omega
theorem clsL_at (l : List Cl) (j : Nat) (i : Nat) (hj : j < l.length) (hi : i < 3) : (clsL l)[j * 3 + i]? = (clL l[j])[i]? := by
  induction l generalizing j with
  | nil => cases hj
  | cons c l ih =>
    rw [clsL_cons]
    cases j with
    | zero => rw [List.getElem?_append_left (by simp [clL]; omega)]; simp
    | succ j =>
      rw [List.getElem?_append_right (by simp [clL]; omega)]
      rw [show (j + 1) * 3 + i - (clL c).length = j * 3 + i by simp [clL]; omega]
      exact ih j (by simpa using hj)
/-- three cells, one behind the other, that hold c -/
structure At3 (w : World) (a : Addr) (c : Cl) : Prop where
  c0 : w.cell? a = some (.bool c.null)
  c1 : w.cell? (a.add 1) = some (.int .i64 c.num)
  c2 : w.cell? (a.add 2) = some (.string ⟨c.txt.toArray⟩)

/-- the slice v reads as the cells l -/
def Cs (w : World) (v : Value) (l : List Cl) : Prop :=
  ∃ A c, v = .slice A l.length c ∧ l.length ≤ c ∧ (A = none → c = 0) ∧ ∀ a, A = some a → ∀ j (h : j < l.length), At3 w (a.add (j * 3)) l[j]
/-- a row of the call's own, from block B on -/
def Oc (w : World) (B : Nat) (v : Value) (l : List Cl) : Prop := w.ownsRow B 24 3 v l.length (clsL l)

theorem At3.keep {w w' : World} {a : Addr} {c : Cl} (h : At3 w a c) (hk : w'.heap[a.block]? = w.heap[a.block]?) : At3 w' a c := by
  obtain ⟨h0, h1, h2⟩ := h
  exact ⟨by rw [← h0]; exact World.cell?_of_block hk, by rw [← h1]; exact World.cell?_of_block (by rw [add_block]; exact hk), by rw [← h2]; exact World.cell?_of_block (by rw [add_block]; exact hk)⟩

theorem Cs.nil_ (w : World) : Cs w (.slice none 0 0) [] := ⟨none, 0, rfl, Nat.le_refl _, fun _ => rfl, fun _ h => by cases h⟩
theorem Cs.keep {w w' : World} {v : Value} {l : List Cl} (h : Cs w v l) (hk : ∀ k, v.ownBlock = some k → k < w.heap.size → w'.heap[k]? = w.heap[k]?) : Cs w' v l := by
  obtain ⟨A, c, rfl, h1, h2, h3⟩ := h
  refine ⟨A, c, rfl, h1, h2, fun a ha j hj => ?_⟩
  have := h3 a ha j hj
  subst ha
  have hb := World.block_lt_of_cell? w _ this.c0
  refine this.keep ?_
  rw [add_block] at hb ⊢
  exact hk _ rfl hb
theorem Cs.fr {S : Nat → Prop} {w w' : World} {v : Value} {l : List Cl} (h : Cs w v l) (hf : Fr S w w') (hn : ∀ k, v.ownBlock = some k → ¬ S k) : Cs w' v l :=
  h.keep fun k hk hlt => hf.block k hlt (hn k hk)
theorem Cs.non {w w' : World} {v : Value} {l : List Cl} (h : Cs w v l) (hf : Fr Non w w') : Cs w' v l := h.fr hf fun _ _ e => e
theorem Cs.drew {w : World} {v : Value} {l : List Cl} (h : Cs w v l) : Cs w.drew v l := h.keep fun _ _ _ => rfl
theorem Cs.shape {w : World} {v : Value} {l : List Cl} (h : Cs w v l) : ∃ A c, v = .slice A l.length c := by
  obtain ⟨A, c, rfl, _⟩ := h; exact ⟨A, c, rfl⟩
theorem Cs.addr {w : World} {A : Option Addr} {n c : Nat} {l : List Cl} (h : Cs w (.slice A n c) l) (hl : 0 < n) : ∃ a, A = some a ∧ n = l.length ∧ n ≤ c ∧ ∀ j (h : j < l.length), At3 w (a.add (j * 3)) l[j] := by
  obtain ⟨A0, c0, he, h1, h2, h3⟩ := h
  simp only [Value.slice.injEq] at he
  obtain ⟨rfl, rfl, rfl⟩ := he
  cases A with
  | none => have := h2 rfl; omega
  | some a => exact ⟨a, rfl, rfl, h1, h3 a rfl⟩
/-- what a walk asks of the element at j -/
theorem Cs.el {w : World} {a : Addr} {n c : Nat} {l : List Cl} (h : Cs w (.slice (some a) n c) l) (j : Nat) (x : Cl) (hx : l[j]? = some x) :
    w.cell? (a.add (j * 3)) = some (.bool x.null) ∧ w.cell? ((a.add (j * 3)).add 1) = some (.int .i64 x.num) ∧ w.cell? ((a.add (j * 3)).add 2) = some (.string ⟨x.txt.toArray⟩) := by
  obtain ⟨A0, c0, he, h1, h2, h3⟩ := h
  simp only [Value.slice.injEq] at he
  obtain ⟨rfl, rfl, rfl⟩ := he
  obtain ⟨hj, rfl⟩ := List.getElem?_eq_some_iff.1 hx
  have := h3 a rfl j hj
  exact ⟨this.c0, this.c1, this.c2⟩

theorem Fr.at3 {w w' : World} {a : Addr} {c : Cl} (hf : Fr Non w w') (h : At3 w a c) : At3 w' a c :=
  h.keep (hf.block _ (World.block_lt_of_cell? w _ h.c0) (fun e => e))
/-- as a walk spells them -/
theorem At3.lit {w : World} {a : Addr} {c : Cl} (h : At3 w a c) : w.cell? a = some (.bool c.null) ∧ w.cell? { block := a.block, off := a.off + 1 } = some (.int .i64 c.num) ∧ w.cell? { block := a.block, off := a.off + 2 } = some (.string ⟨c.txt.toArray⟩) := ⟨h.c0, h.c1, h.c2⟩
theorem Oc.lt {w : World} {B : Nat} {v : Value} {l : List Cl} (h : Oc w B v l) : ∀ k, v.ownBlock = some k → B ≤ k ∧ k < w.heap.size := World.ownsRow.lt h
theorem Oc.cs {w : World} {B : Nat} {v : Value} {l : List Cl} (h : Oc w B v l) : Cs w v l := by
  rcases h.2 with ⟨rfl, h0⟩ | ⟨g, cap, cur, rfl, _, _, hle, _, _, _⟩
  · have hl : l = [] := List.eq_nil_of_length_eq_zero h0
    subst hl; exact Cs.nil_ w
  · refine ⟨_, cap, rfl, hle, (fun h => by cases h), fun a ha j hj => ?_⟩
    cases ha
    have H := fun i hi => World.ownsRow.cells h (g := g) rfl (j * 3 + i) _ ((clsL_at l j i hj hi).trans (List.getElem?_eq_getElem (by simp [clL]; omega)))
    refine ⟨?_, ?_, ?_⟩
    · have := H 0 (by omega); simpa [clL] using this
    · rw [add_add]; have := H 1 (by omega); simpa [clL] using this
    · rw [add_add]; have := H 2 (by omega); simpa [clL] using this
theorem Oc.shape {w : World} {B : Nat} {v : Value} {l : List Cl} (h : Oc w B v l) : ∃ A c, v = .slice A l.length c := h.cs.shape
theorem Oc.keep {w w' : World} {B : Nat} {v : Value} {l : List Cl} (h : Oc w B v l) (hk : ∀ k, v.ownBlock = some k → w'.heap[k]? = w.heap[k]?) : Oc w' B v l := by
  refine ⟨h.1, ?_⟩
  rcases h.2 with h2 | ⟨g, cap, cur, hv, hb, hg, r⟩
  · exact .inl h2
  · exact .inr ⟨g, cap, cur, hv, hb, by rw [hk g (by rw [hv]; rfl)]; exact hg, r⟩
theorem Oc.fr {S : Nat → Prop} {w w' : World} {B : Nat} {v : Value} {l : List Cl} (h : Oc w B v l) (hf : Fr S w w') (hn : ∀ k, v.ownBlock = some k → ¬ S k) : Oc w' B v l :=
  h.keep fun k hk => hf.block k (h.lt k hk).2 (hn k hk)
theorem Oc.non {w w' : World} {B : Nat} {v : Value} {l : List Cl} (h : Oc w B v l) (hf : Fr Non w w') : Oc w' B v l := h.fr hf fun _ _ e => e
theorem Oc.alloc {w : World} {B : Nat} {v : Value} {l : List Cl} (h : Oc w B v l) (o : Obj) : Oc (w.alloc o) B v l := h.non ((Fr.refl _ _).alloc o)
theorem Oc.drew {w : World} {B : Nat} {v : Value} {l : List Cl} (h : Oc w B v l) : Oc w.drew B v l := h
theorem Oc.mono {w : World} {B B' : Nat} {v : Value} {l : List Cl} (h : Oc w B v l) (hB : B' ≤ B) : Oc w B' v l := by
  refine ⟨h.1, ?_⟩
  rcases h.2 with h2 | ⟨g, cap, cur, hv, hb, r⟩
  · exact .inl h2
  · exact .inr ⟨g, cap, cur, hv, by omega, r⟩
theorem Oc.kind {w : World} {B : Nat} {v : Value} {l : List Cl} (h : Oc w B v l) : ∀ k, v.ownBlock = some k → ∃ cur, w.heap[k]? = some (.cells cur 24 (0, 0)) := by
  intro k hk
  rcases h.2 with ⟨rfl, _⟩ | ⟨g, cap, cur, rfl, _, hg, _⟩
  · cases hk
  · obtain rfl : g = k := by simpa [Value.ownBlock] using hk
    exact ⟨cur, hg⟩
theorem Oc.row {w : World} {B : Nat} {v : Value} {l : List Cl} (h : Oc w B v l) (hn : 0 < l.length) : ∃ g cap, v = .slice (some ⟨g, 0, none⟩) l.length cap ∧ B ≤ g ∧ g < w.heap.size ∧ l.length ≤ cap ∧ cap ≤ maxLen := by
  rcases h.2 with ⟨rfl, h0⟩ | ⟨g, cap, cur, rfl, hb, hg, hle, hm, _⟩
  · omega
  · exact ⟨g, cap, rfl, hb, (Array.getElem?_eq_some_iff.1 hg).1, hle, hm⟩
/-- what a walk asks of a row's element at j -/
theorem Oc.el {w : World} {B g n cap : Nat} {l : List Cl} (h : Oc w B (.slice (some ⟨g, 0, none⟩) n cap) l) (hn : n = l.length) (j : Nat) (x : Cl) (hx : l[j]? = some x) :
    w.cell? ⟨g, j * 3, none⟩ = some (.bool x.null) ∧ w.cell? ⟨g, j * 3 + 1, none⟩ = some (.int .i64 x.num) ∧ w.cell? ⟨g, j * 3 + 2, none⟩ = some (.string ⟨x.txt.toArray⟩) := by
  subst hn
  obtain ⟨hj, rfl⟩ := List.getElem?_eq_some_iff.1 hx
  refine ⟨?_, ?_, ?_⟩
  · rw [World.ownsRow.cellAt h (j * 3) (by omega)]; have := clsL_at l j 0 hj (by omega); simpa [clL] using this
  · rw [World.ownsRow.cellAt h (j * 3 + 1) (by omega)]; have := clsL_at l j 1 hj (by omega); simpa [clL] using this
  · rw [World.ownsRow.cellAt h (j * 3 + 2) (by omega)]; have := clsL_at l j 2 hj (by omega); simpa [clL] using this
theorem Oc.frozen {w : World} {B g n cap : Nat} {l : List Cl} (h : Oc w B (.slice (some ⟨g, 0, none⟩) n cap) l) (hn : n = l.length) (j : Nat) : w.frozen? ⟨g, j, none⟩ = false := by
  subst hn; exact World.ownsRow.frozenAt h j
theorem oc_lit (w : World) (B g : Nat) (l : List Cl) (cs : Array Value) (hcs : cs.toList = clsL l) (hg : g = w.heap.size) (hB : B ≤ g) (hm : l.length ≤ 1000000) : Oc (w.alloc (.cells cs 24)) B (.slice (some ⟨g, 0, none⟩) l.length l.length) l := by
  subst hg
  have h := World.ownsRow_lit (e := 24) (size := 3) w cs l.length hB (by unfold maxLen; omega) (by rw [← Array.length_toList, hcs, clsL_len])
  rw [hcs] at h
  exact h
/-! ### Steps -/
end Go.Proofs.Ytnbhgkolfapblaa


namespace Go.Proofs.Ytnbhgkolfapblaa
set_option linter.unusedVariables false
set_option linter.unusedSimpArgs false
set_option maxRecDepth 100000
open Go.RowKit

/-- a column in a block, a cell at an address -/
structure RowAt (w : World) (g : Nat) (a : Addr) (x : Co) (y : Cl) : Prop where
  col : CoB w g x
  row : At3 w a y
theorem RowAt.non {w w' : World} {g : Nat} {a : Addr} {x : Co} {y : Cl} (h : RowAt w g a x y) (hf : Fr Non w w') : RowAt w' g a x y := ⟨h.col.fr hf (fun e => e), hf.at3 h.row⟩

set_option maxHeartbeats 4000000 in
theorem srow_any (v1 v2 : Value) (l : List Co) (row : List Cl) (w : World) (h1 : Ks w v1 l) (h2 : Cs w v2 row) (hl : l.length ≤ 1000000000) :
    Calls Try.prog 27 #[v1, v2] w fun e w' => e = .returned (.bool (rowB l row)) ∧ Fr Non w w' := by
  obtain ⟨A1, c1, rfl, hc1, hn1, hcell1⟩ := h1
  obtain ⟨A2, c2, rfl, hc2, hn2, hcell2⟩ := h2
  have HN1 := Lib.hid hn1
  have HN2 := Lib.hid hn2
  have HC1 := Lib.hid hcell1
  have HC2 := Lib.hid hcell2
  clear hn1 hn2 hcell1 hcell2
  by_cases hlen : l.length = row.length
  · have HL := Lib.hid hlen
    have hb : ((row.length : Int) != l.length) = false := by rw [hlen]; simp
    have hle : l.length ≤ row.length := by omega
    have hge : row.length ≤ l.length := by omega
    clear hlen
    go_enter Try.func27, Try.ntmps27
    go_wp2
    go_loopw [14] (fun i wr => ∃ k : Nat, k ≤ l.length ∧ i = .int .i64 k ∧ Hid (∀ j (h : j < l.length) (h2 : j < row.length), j < k → mayC l[j].ty l[j].nl row[j] = true) ∧ Fr Non w wr) (fun i _ => l.length - (intOf i).toNat)
    case atStart => exact ⟨0, Nat.zero_le _, rfl, Lib.hid (fun _ _ _ h => by omega), Fr.refl _ _⟩
    case round =>
      obtain ⟨k, hk, rfl, HT, hfr⟩ := hrel
      by_cases hlt : k < l.length
      · cases A1 with
        | none => have := HN1.out rfl; omega
        | some a1 =>
          cases A2 with
          | none => have := HN2.out rfl; omega
          | some a2 =>
            have hlt2 : k < row.length := by omega
            obtain ⟨g0, g1, g2⟩ := co_lit ((HC1.out a1 rfl k hlt).non hfr)
            have hr := hfr.at3 (HC2.out a2 rfl k hlt2)
            have HY := Lib.hid (fun h => row_more hlt hlt2 HT.out h)
            have HX := Lib.hid (fun h => row_bad hlt hlt2 h)
            clear HT
            generalize l[k] = x at *
            generalize row[k] = y at *
            obtain ⟨xn, xt, xb⟩ := x
            obtain ⟨yn, yt, yb⟩ := y
            dsimp only at g0 g1 g2 HY HX
            have f1 := (Fr.refl Non wr).alloc (.cells #[.string ⟨xn.toArray⟩, .int .i64 xt, .bool xb] 51)
            have hD : RowAt _ wr.heap.size _ _ _ := ⟨co_new wr ⟨xn, xt, xb⟩, f1.at3 hr⟩
            have FD := Lib.hid (hfr.trans f1)
            replace hD := Lib.hid hD
            clear hr f1 hfr
            go_wp2
            obtain ⟨V, hV⟩ : ∃ V, wr.alloc (.cells #[.string ⟨xn.toArray⟩, .int .i64 xt, .bool xb] 51) = V := ⟨_, rfl⟩
            rw [hV] at hD FD ⊢
            clear hV
            have hD := hD.out
            have FD := FD.out
            generalize wr.heap.size = g at *
            replace hD : RowAt V.drew g _ _ _ := ⟨hD.col, hD.row.keep rfl⟩
            replace FD := FD.drew
            have M := fun W => may_any xt xb ⟨yn, yt, yb⟩ W
            unfold clV clC at M
            dsimp only at M
            replace M := Lib.hid M
            have t1 : V.drew.cell? ⟨g, 1, none⟩ = some (.int .i64 xt) := hD.col.cell 1
            have t2 : V.drew.cell? ⟨g, 2, none⟩ = some (.bool xb) := hD.col.cell 2
            obtain ⟨t3, t4, t5⟩ := hD.row.lit
            dsimp only at t3 t4 t5
            replace hD := Lib.hid hD
            replace FD := Lib.hid FD
            go_region_held3 (fun W => W.cell? ⟨g, 1, none⟩ = some (.int .i64 xt) ∧ W.cell? ⟨g, 2, none⟩ = some (.bool xb) ∧ W.cell? (a2.add (k * 3)) = some (.bool yn) ∧ W.cell? { block := (a2.add (k * 3)).block, off := (a2.add (k * 3)).off + 1 } = some (.int .i64 yt) ∧ W.cell? { block := (a2.add (k * 3)).block, off := (a2.add (k * 3)).off + 2 } = some (.string ⟨yb.toArray⟩)) (first | exact ⟨t1, t2, t3, t4, t5⟩ | exact ⟨u1, u2, u3, u4, u5⟩ | fail) (first | (go_at_call 43; refine (M.out _).mono ?_; rintro e w4 ⟨rfl, f4⟩; have F4 := Lib.hid (FD.out.trans f4); have h4 := hD.out.non f4; have u1 : w4.cell? ⟨g, 1, none⟩ = some (.int .i64 xt) := h4.col.cell 1; have u2 : w4.cell? ⟨g, 2, none⟩ = some (.bool xb) := h4.col.cell 2; obtain ⟨u3, u4, u5⟩ := h4.row.lit))
            clear u1 u2 u3 u4 u5 h4 f4 t1 t2 t3 t4 t5 hD FD M
            cases hM : mayC xt xb ⟨yn, yt, yb⟩
            · have HE := Lib.hid (HX.out hM)
              clear HX HY hM
              go_wp2
              go_ret
              exact ⟨ret_boolE HE.out.symm, F4.out⟩
            · have HE := Lib.hid (HY.out hM)
              clear HX HY hM
              go_wp2
              go_roundw
              case rel => exact ⟨k + 1, by omega, by go_num, HE, F4.out⟩
              case measure => simp [intOf]; omega
      · have HE := Lib.hid (row_yes HL.out (fun j h h2 => HT.out j h h2 (by omega)))
        clear HT
        go_wp2
        go_ret
        exact ⟨ret_boolE HE.out.symm, hfr⟩
  · have hb : ((row.length : Int) != l.length) = true := by rw [bne_iff_ne]; omega
    have HE := Lib.hid (row_len hlen)
    clear hlen
    go_enter Try.func27, Try.ntmps27
    go_wp2
    go_ret
    exact ⟨ret_boolE HE.out.symm, Fr.refl _ _⟩

set_option maxHeartbeats 4000000 in
theorem rrow_any (v1 v2 : Value) (l : List Co) (row : List Cl) (w : World) (h1 : Ks w v1 l) (h2 : Cs w v2 row) (hl : l.length ≤ 1000000000) :
    Calls Try.prog 20 #[v1, v2] w fun e w' => e = .returned (.bool (rowB l row)) ∧ Fr Non w w' := by
  obtain ⟨A1, c1, rfl, hc1, hn1, hcell1⟩ := h1
  obtain ⟨A2, c2, rfl, hc2, hn2, hcell2⟩ := h2
  have HN1 := Lib.hid hn1
  have HN2 := Lib.hid hn2
  have HC1 := Lib.hid hcell1
  have HC2 := Lib.hid hcell2
  clear hn1 hn2 hcell1 hcell2
  by_cases hlen : l.length = row.length
  · have HL := Lib.hid hlen
    have hb : ((l.length : Int) != row.length) = false := by rw [hlen]; simp
    have hle : l.length ≤ row.length := by omega
    have hge : row.length ≤ l.length := by omega
    clear hlen
    go_enter Try.func20, Try.ntmps20
    go_wp2
    go_loopw [5] (fun i wr => ∃ k : Nat, k ≤ l.length ∧ i = .int .i64 k ∧ Hid (∀ j (h : j < l.length) (h2 : j < row.length), j < k → mayC l[j].ty l[j].nl row[j] = true) ∧ Fr Non w wr) (fun i _ => l.length - (intOf i).toNat)
    case atStart => exact ⟨0, Nat.zero_le _, rfl, Lib.hid (fun _ _ _ h => by omega), Fr.refl _ _⟩
    case round =>
      obtain ⟨k, hk, rfl, HT, hfr⟩ := hrel
      by_cases hlt : k < l.length
      · cases A1 with
        | none => have := HN1.out rfl; omega
        | some a1 =>
          cases A2 with
          | none => have := HN2.out rfl; omega
          | some a2 =>
            have hlt2 : k < row.length := by omega
            obtain ⟨g0, g1, g2⟩ := co_lit ((HC1.out a1 rfl k hlt).non hfr)
            have hr := hfr.at3 (HC2.out a2 rfl k hlt2)
            have HY := Lib.hid (fun h => row_more hlt hlt2 HT.out h)
            have HX := Lib.hid (fun h => row_bad hlt hlt2 h)
            clear HT
            generalize l[k] = x at *
            generalize row[k] = y at *
            obtain ⟨xn, xt, xb⟩ := x
            obtain ⟨yn, yt, yb⟩ := y
            dsimp only at g0 g1 g2 HY HX
            have FD := Lib.hid hfr.drew
            have M := fun W => rmay_any xt xb ⟨yn, yt, yb⟩ W
            unfold clV clC at M
            dsimp only at M
            replace M := Lib.hid M
            obtain ⟨t3, t4, t5⟩ := (hr.keep (w' := wr.drew) rfl).lit
            replace g1 : wr.drew.cell? _ = _ := g1
            replace g2 : wr.drew.cell? _ = _ := g2
            clear g0 hr hfr
            dsimp only at t3 t4 t5
            go_wp2
            go_region_held3 (fun W => W.cell? { block := (a1.add (k * 3)).block, off := (a1.add (k * 3)).off + 1 } = some (.int .i64 xt) ∧ W.cell? { block := (a1.add (k * 3)).block, off := (a1.add (k * 3)).off + 2 } = some (.bool xb) ∧ W.cell? (a2.add (k * 3)) = some (.bool yn) ∧ W.cell? { block := (a2.add (k * 3)).block, off := (a2.add (k * 3)).off + 1 } = some (.int .i64 yt) ∧ W.cell? { block := (a2.add (k * 3)).block, off := (a2.add (k * 3)).off + 2 } = some (.string ⟨yb.toArray⟩)) (first | exact ⟨g1, g2, t3, t4, t5⟩ | exact ⟨u1, u2, u3, u4, u5⟩ | fail) (first | (go_at_call 32; refine (M.out _).mono ?_; rintro e w4 ⟨rfl, f4⟩; have F4 := Lib.hid (FD.out.trans f4); have u1 := (f4.cell (World.block_lt_of_cell? _ _ g1) (fun e => e)).trans g1; have u2 := (f4.cell (World.block_lt_of_cell? _ _ g2) (fun e => e)).trans g2; have u3 := (f4.cell (World.block_lt_of_cell? _ _ t3) (fun e => e)).trans t3; have u4 := (f4.cell (World.block_lt_of_cell? _ _ t4) (fun e => e)).trans t4; have u5 := (f4.cell (World.block_lt_of_cell? _ _ t5) (fun e => e)).trans t5))
            clear u1 u2 u3 u4 u5 f4 g1 g2 t3 t4 t5 FD M
            cases hM : mayC xt xb ⟨yn, yt, yb⟩
            · have HE := Lib.hid (HX.out hM)
              clear HX HY hM
              go_wp2
              go_ret
              exact ⟨ret_boolE HE.out.symm, F4.out⟩
            · have HE := Lib.hid (HY.out hM)
              clear HX HY hM
              go_wp2
              go_roundw
              case rel => exact ⟨k + 1, by omega, by go_num, HE, F4.out⟩
              case measure => simp [intOf]; omega
      · have HE := Lib.hid (row_yes HL.out (fun j h h2 => HT.out j h h2 (by omega)))
        clear HT
        go_wp2
        go_ret
        exact ⟨ret_boolE HE.out.symm, hfr⟩
  · have hb : ((l.length : Int) != row.length) = true := by rw [bne_iff_ne]; omega
    have HE := Lib.hid (row_len hlen)
    clear hlen
    go_enter Try.func20, Try.ntmps20
    go_wp2
    go_ret
    exact ⟨ret_boolE HE.out.symm, Fr.refl _ _⟩
end Go.Proofs.Ytnbhgkolfapblaa


namespace Go.Proofs.Ytnbhgkolfapblaa
set_option linter.unusedVariables false
set_option linter.unusedSimpArgs false
set_option maxRecDepth 100000
open Go.RowKit

/-- a slice's words -/
structure Kv where
  A : Option Addr
  n : Nat
  c : Nat
def kidV (s : Kv) : Value := .slice s.A s.n s.c
def noKv : Kv := ⟨none, 0, 0⟩
/-- a predicate's cells, and its value -/
def pdL (x : Ph × Kv) : List Value := [.int .i64 x.1.op, .string ⟨x.1.col.toArray⟩, .int .i64 x.1.cmp, .bool x.1.val.null, .int .i64 x.1.val.num, .string ⟨x.1.val.txt.toArray⟩, .int .i64 x.1.kind, .string ⟨x.1.pat.toArray⟩, kidV x.2]
def pdC (h : Ph) (s : Kv) : Array Value := #[.int .i64 h.op, .string ⟨h.col.toArray⟩, .int .i64 h.cmp, .bool h.val.null, .int .i64 h.val.num, .string ⟨h.val.txt.toArray⟩, .int .i64 h.kind, .string ⟨h.pat.toArray⟩, kidV s]
def pdV (h : Ph) (s : Kv) : Value := .agg (pdC h s)
theorem fd_pd : Fd pdL 9 := ⟨fun _ => rfl, fun x u hu => by simp [pdL] at hu; rcases hu with rfl | rfl | rfl | rfl | rfl | rfl | rfl | rfl | rfl <;> rfl, by omega, by omega⟩
/-- as a walk spells them -/
def PCells (w : World) (a : Addr) (h : Ph) (s : Kv) : Prop :=
  w.cell? a = some (.int .i64 h.op) ∧ w.cell? { block := a.block, off := a.off + 1 } = some (.string ⟨h.col.toArray⟩) ∧ w.cell? { block := a.block, off := a.off + 2 } = some (.int .i64 h.cmp) ∧
  w.cell? { block := a.block, off := a.off + 3 } = some (.bool h.val.null) ∧ w.cell? { block := a.block, off := a.off + 4 } = some (.int .i64 h.val.num) ∧ w.cell? { block := a.block, off := a.off + 5 } = some (.string ⟨h.val.txt.toArray⟩) ∧
  w.cell? { block := a.block, off := a.off + 6 } = some (.int .i64 h.kind) ∧ w.cell? { block := a.block, off := a.off + 7 } = some (.string ⟨h.pat.toArray⟩) ∧ w.cell? { block := a.block, off := a.off + 8 } = some (.slice s.A s.n s.c)
theorem pd_lit {w : World} {a : Addr} {h : Ph} {s : Kv} (e : AtN w a (pdL (h, s))) : PCells w a h s :=
  ⟨e 0 _ rfl, e 1 _ rfl, e 2 _ rfl, e 3 _ rfl, e 4 _ rfl, e 5 _ rfl, e 6 _ rfl, e 7 _ rfl, e 8 _ rfl⟩
/-- the predicate lies in block g -/
abbrev PdB (w : World) (g : Nat) (h : Ph) (s : Kv) : Prop := Blk w g 27 (pdC h s)
def PBlk (w : World) (g : Nat) (h : Ph) (s : Kv) : Prop :=
  w.cell? ⟨g, 0, none⟩ = some (.int .i64 h.op) ∧ w.cell? ⟨g, 1, none⟩ = some (.string ⟨h.col.toArray⟩) ∧ w.cell? ⟨g, 2, none⟩ = some (.int .i64 h.cmp) ∧
  w.cell? ⟨g, 3, none⟩ = some (.bool h.val.null) ∧ w.cell? ⟨g, 4, none⟩ = some (.int .i64 h.val.num) ∧ w.cell? ⟨g, 5, none⟩ = some (.string ⟨h.val.txt.toArray⟩) ∧
  w.cell? ⟨g, 6, none⟩ = some (.int .i64 h.kind) ∧ w.cell? ⟨g, 7, none⟩ = some (.string ⟨h.pat.toArray⟩) ∧ w.cell? ⟨g, 8, none⟩ = some (.slice s.A s.n s.c)
theorem pdB_cells {w : World} {g : Nat} {h : Ph} {s : Kv} (e : PdB w g h s) : PBlk w g h s :=
  ⟨e.cell 0, e.cell 1, e.cell 2, e.cell 3, e.cell 4, e.cell 5, e.cell 6, e.cell 7, e.cell 8⟩
theorem pd_new (w : World) (g : Nat) (h : Ph) (s : Kv) (hg : g = w.heap.size) : PdB (w.alloc (.cells (pdC h s) 27)) g h s := by subst hg; exact Blk.new _ _ _
theorem pd2_new (w : World) (g : Nat) (a b : Ph) (s t : Kv) (hg : g = w.heap.size) : PdB ((w.alloc (.cells (pdC a s) 27)).alloc (.cells (pdC b t) 27)) g a s ∧ PdB ((w.alloc (.cells (pdC a s) 27)).alloc (.cells (pdC b t) 27)) (g + 1) b t := by
  subst hg
  refine ⟨(Blk.new _ _ _).fr ((Fr.refl Non _).alloc _) (fun e => e), ?_⟩
  have h : PdB ((w.alloc (.cells (pdC a s) 27)).alloc (.cells (pdC b t) 27)) (w.alloc (.cells (pdC a s) 27)).heap.size b t := Blk.new _ _ _
  rw [show (w.alloc (.cells (pdC a s) 27)).heap.size = w.heap.size + 1 by simp] at h
  exact h

/-! ### Trees -/
/-- the slice s reads as the predicates ps, with all that is within them -/
inductive Kd (w : World) : Kv → List Pd → Prop
  | mk (s : Kv) (ns : List (Ph × Kv)) (ps : List Pd) (hl : ns.length = ps.length) (hN : Ns pdL 9 w (kidV s) ns)
    (hh : ∀ i (h1 : i < ns.length) (h2 : i < ps.length), ns[i].1 = ps[i].hd) (hb : ∀ i (h2 : i < ps.length), I64b ps[i].hd.val.num)
    (hk : ∀ i (h1 : i < ns.length) (h2 : i < ps.length), Kd w ns[i].2 ps[i].kids) : Kd w s ps
theorem Kd.non {w w' : World} {s : Kv} {ps : List Pd} (h : Kd w s ps) (hf : Fr Non w w') : Kd w' s ps := by
  induction h with
  | mk s ns ps hl hN hh hb hk ih => exact .mk s ns ps hl (hN.non hf) hh hb ih
theorem Kd.nil_ (w : World) : Kd w noKv [] := .mk _ [] [] rfl (Ns.nil_ w) (fun i h => by cases h) (fun i h => by cases h) (fun i h => by cases h)
theorem Kd.len {w : World} {s : Kv} {ps : List Pd} (h : Kd w s ps) : s.n = ps.length := by
  cases h with
  | mk s ns ps hl hN hh hb hk =>
    obtain ⟨A, c, e, _⟩ := hN
    unfold kidV at e
    simp only [Value.slice.injEq] at e
    omega
/-- the one at j -/
theorem Kd.el {w : World} {s : Kv} {ps : List Pd} (h : Kd w s ps) (j : Nat) (hj : j < ps.length) :
    ∃ a t, s.A = some a ∧ PCells w (a.add (j * 9)) ps[j].hd t ∧ Kd w t ps[j].kids ∧ I64b ps[j].hd.val.num := by
  cases h with
  | mk s ns ps hl hN hh hb hk =>
    have hj' : j < ns.length := by omega
    obtain ⟨a, ha, hc⟩ := hN.at_ j ns[j] (List.getElem?_eq_getElem hj')
    have e := hh j hj' hj
    refine ⟨a, ns[j].2, ha, ?_, hk j hj' hj, hb j hj⟩
    rw [← e]
    exact pd_lit hc

/-! ### Two compared -/
def peq (a b : Ph) : Bool := decide (a = b)
theorem ceq_unl {a b : Cl} (h : ceq a b = false) : a ≠ b := by simpa [ceq] using h
set_option maxHeartbeats 2000000 in
theorem alike_any (a b : Ph) (s t : Kv) (w : World) : Calls Try.prog 56 #[pdV a s, pdV b t] w fun e w' => e = .returned (.bool (peq a b)) ∧ Fr Non w w' := by
  have S1 := fun W => csame_any a.val b.val W
  have B0 := Lib.hid (pd2_new w _ a b s t rfl)
  have HN : Hid (a ≠ b → peq a b = false) := Lib.hid (fun h => decide_eq_false h)
  have HA : Hid (a = b → peq a b = true) := Lib.hid (fun h => decide_eq_true h)
  obtain ⟨ao, ac, am, ⟨an, ai, at_⟩, ak, ap⟩ := a
  obtain ⟨bo, bc, bm, ⟨bn, bi, bt⟩, bk, bp⟩ := b
  obtain ⟨sA, sn, sc⟩ := s
  obtain ⟨tA, tn, tc⟩ := t
  unfold pdV pdC kidV
  unfold PdB pdC kidV at B0
  unfold clV clC at S1
  dsimp only at *
  by_cases ho : ao = bo
  · subst ho
    by_cases hc : ac = bc
    · subst hc
      by_cases hm : am = bm
      · subst hm
        by_cases hk : ak = bk
        · subst hk
          cases hv : ceq ⟨an, ai, at_⟩ ⟨bn, bi, bt⟩
          · have HE : Hid (peq _ _ = false) := Lib.hid (HN.out (fun e => ceq_unl hv (by cases e; rfl)))
            simp only [hv] at S1
            clear HN HA hv B0
            replace S1 := Lib.hid S1
            go_enter Try.func56, Try.ntmps56
            go_wp2_with fail
            refine (S1.out _).mono ?_
            rintro e w1 ⟨rfl, f1⟩
            go_wp2
            go_ret
            exact ⟨ret_boolE HE.out.symm, (((Fr.refl _ _).alloc _).alloc _).trans f1⟩
          · simp only [hv] at S1
            have hv2 := ceq_is hv
            clear hv
            cases hv2
            have HE : Hid (peq ⟨ao, ac, am, ⟨an, ai, at_⟩, ak, ap⟩ ⟨ao, ac, am, ⟨an, ai, at_⟩, ak, bp⟩ = (ap == bp)) := Lib.hid (by
              by_cases e : ap = bp
              · subst e; rw [HA.out rfl]; simp
              · rw [HN.out (fun h => e (by cases h; rfl))]; symm; rw [beq_eq_false_iff_ne]; exact e)
            clear HN HA
            replace S1 := Lib.hid S1
            go_enter Try.func56, Try.ntmps56
            go_wp2_with fail
            refine (S1.out _).mono ?_
            rintro e w1 ⟨rfl, f1⟩
            have g1 := (B0.out.1.fr f1 (fun e => e)).cell 7
            have g2 := (B0.out.2.fr f1 (fun e => e)).cell 7
            simp at g1 g2
            clear B0
            go_wp2
            go_ret
            exact ⟨ret_boolE HE.out.symm, (((Fr.refl _ _).alloc _).alloc _).trans f1⟩
        · have ek : (ak == bk) = false := by rw [beq_eq_false_iff_ne]; exact hk
          have HE : Hid (peq _ _ = false) := Lib.hid (HN.out (fun e => hk (by cases e; rfl)))
          clear S1 hk HN HA B0
          go_enter Try.func56, Try.ntmps56
          go_wp2
          go_ret
          exact ⟨ret_boolE HE.out.symm, ((Fr.refl _ _).alloc _).alloc _⟩
      · have em : (am == bm) = false := by rw [beq_eq_false_iff_ne]; exact hm
        have HE : Hid (peq _ _ = false) := Lib.hid (HN.out (fun e => hm (by cases e; rfl)))
        clear S1 hm HN HA B0
        go_enter Try.func56, Try.ntmps56
        go_wp2
        go_ret
        exact ⟨ret_boolE HE.out.symm, ((Fr.refl _ _).alloc _).alloc _⟩
    · have ec : (ac == bc) = false := by rw [beq_eq_false_iff_ne]; exact hc
      have HE : Hid (peq _ _ = false) := Lib.hid (HN.out (fun e => hc (by cases e; rfl)))
      clear S1 hc HN HA B0
      go_enter Try.func56, Try.ntmps56
      go_wp2
      go_ret
      exact ⟨ret_boolE HE.out.symm, ((Fr.refl _ _).alloc _).alloc _⟩
  · have eo : (ao == bo) = false := by rw [beq_eq_false_iff_ne]; exact ho
    have HE : Hid (peq _ _ = false) := Lib.hid (HN.out (fun e => ho (by cases e; rfl)))
    clear S1 ho HN HA B0
    go_enter Try.func56, Try.ntmps56
    go_wp2
    go_ret
    exact ⟨ret_boolE HE.out.symm, ((Fr.refl _ _).alloc _).alloc _⟩

set_option maxHeartbeats 2000000 in
theorem flat_any (a b : Ph) (s t : Kv) (w : World) : Calls Try.prog 67 #[pdV a s, pdV b t] w fun e w' => e = .returned (.bool (peq a b)) ∧ Fr Non w w' := by
  have S1 := fun W => run_eql_cl W a.val b.val
  have B0 := Lib.hid (pd2_new w _ a b s t rfl)
  have HN : Hid (a ≠ b → peq a b = false) := Lib.hid (fun h => decide_eq_false h)
  have HA : Hid (a = b → peq a b = true) := Lib.hid (fun h => decide_eq_true h)
  obtain ⟨ao, ac, am, ⟨an, ai, at_⟩, ak, ap⟩ := a
  obtain ⟨bo, bc, bm, ⟨bn, bi, bt⟩, bk, bp⟩ := b
  obtain ⟨sA, sn, sc⟩ := s
  obtain ⟨tA, tn, tc⟩ := t
  unfold pdV pdC kidV
  unfold PdB pdC kidV at B0
  dsimp only at *
  by_cases ho : ao = bo
  · subst ho
    by_cases hc : ac = bc
    · subst hc
      by_cases hm : am = bm
      · subst hm
        cases hv : ceq ⟨an, ai, at_⟩ ⟨bn, bi, bt⟩
        · have HE : Hid (peq _ _ = false) := Lib.hid (HN.out (fun e => ceq_unl hv (by cases e; rfl)))
          simp only [hv] at S1
          clear HN HA hv B0
          go_enter Try.func67, Try.ntmps67
          go_wp2
          go_ret
          exact ⟨ret_boolE HE.out.symm, ((Fr.refl _ _).alloc _).alloc _⟩
        · simp only [hv] at S1
          have hv2 := ceq_is hv
          clear hv
          cases hv2
          by_cases hk : ak = bk
          · subst hk
            have HE : Hid (peq ⟨ao, ac, am, ⟨an, ai, at_⟩, ak, ap⟩ ⟨ao, ac, am, ⟨an, ai, at_⟩, ak, bp⟩ = (ap == bp)) := Lib.hid (by
              by_cases e : ap = bp
              · subst e; rw [HA.out rfl]; simp
              · rw [HN.out (fun h => e (by cases h; rfl))]; symm; rw [beq_eq_false_iff_ne]; exact e)
            clear HN HA
            clear B0
            go_enter Try.func67, Try.ntmps67
            go_wp2
            go_ret
            exact ⟨ret_boolE HE.out.symm, ((Fr.refl _ _).alloc _).alloc _⟩
          · have ek : (ak == bk) = false := by rw [beq_eq_false_iff_ne]; exact hk
            have HE : Hid (peq _ _ = false) := Lib.hid (HN.out (fun e => hk (by cases e; rfl)))
            clear S1 hk HN HA B0
            go_enter Try.func67, Try.ntmps67
            go_wp2
            go_ret
            exact ⟨ret_boolE HE.out.symm, ((Fr.refl _ _).alloc _).alloc _⟩
      · have em : (am == bm) = false := by rw [beq_eq_false_iff_ne]; exact hm
        have HE : Hid (peq _ _ = false) := Lib.hid (HN.out (fun e => hm (by cases e; rfl)))
        clear S1 hm HN HA B0
        go_enter Try.func67, Try.ntmps67
        go_wp2
        go_ret
        exact ⟨ret_boolE HE.out.symm, ((Fr.refl _ _).alloc _).alloc _⟩
    · have ec : (ac == bc) = false := by rw [beq_eq_false_iff_ne]; exact hc
      have HE : Hid (peq _ _ = false) := Lib.hid (HN.out (fun e => hc (by cases e; rfl)))
      clear S1 hc HN HA B0
      go_enter Try.func67, Try.ntmps67
      go_wp2
      go_ret
      exact ⟨ret_boolE HE.out.symm, ((Fr.refl _ _).alloc _).alloc _⟩
  · have eo : (ao == bo) = false := by rw [beq_eq_false_iff_ne]; exact ho
    have HE : Hid (peq _ _ = false) := Lib.hid (HN.out (fun e => ho (by cases e; rfl)))
    clear S1 ho HN HA B0
    go_enter Try.func67, Try.ntmps67
    go_wp2
    go_ret
    exact ⟨ret_boolE HE.out.symm, ((Fr.refl _ _).alloc _).alloc _⟩
end Go.Proofs.Ytnbhgkolfapblaa


namespace Go.Proofs.Ytnbhgkolfapblaa
set_option linter.unusedVariables false
set_option linter.unusedSimpArgs false
set_option maxRecDepth 100000
open Go.RowKit

/-- a text's cell -/
def sv (l : List UInt8) : Value := .string ⟨l.toArray⟩
end Go.Proofs.Ytnbhgkolfapblaa


namespace Go.Proofs.Ytnbhgkolfapblaa
set_option linter.unusedVariables false
set_option linter.unusedSimpArgs false
set_option maxRecDepth 100000
open Go.RowKit

theorem isletter_any (r : Int) (w : World) : Calls Try.prog 73 #[.int .i32 r] w fun e w' => e = .returned (.bool (ltrI r)) ∧ w = w' := by
  by_cases h1 : 97 ≤ r
  · by_cases h2 : r ≤ 122
    · have H := Lib.hid (show ltrI r = true by simp [ltrI, h1, h2])
      go_enter Try.func73, Try.ntmps73
      go_wp2
      go_ret
      exact ⟨ret_boolE H.out.symm, rfl⟩
    · have H := Lib.hid (show ltrI r = false by simp [ltrI, h1, h2])
      go_enter Try.func73, Try.ntmps73
      go_wp2
      go_ret
      exact ⟨ret_boolE H.out.symm, rfl⟩
  · have H := Lib.hid (show ltrI r = false by simp [ltrI, h1])
    go_enter Try.func73, Try.ntmps73
    go_wp2
    go_ret
    exact ⟨ret_boolE H.out.symm, rfl⟩
theorem isdigit_any (r : Int) (w : World) : Calls Try.prog 74 #[.int .i32 r] w fun e w' => e = .returned (.bool (dgtI r)) ∧ w = w' := by
  by_cases h1 : 48 ≤ r
  · by_cases h2 : r ≤ 57
    · have H := Lib.hid (show dgtI r = true by simp [dgtI, h1, h2])
      go_enter Try.func74, Try.ntmps74
      go_wp2
      go_ret
      exact ⟨ret_boolE H.out.symm, rfl⟩
    · have H := Lib.hid (show dgtI r = false by simp [dgtI, h1, h2])
      go_enter Try.func74, Try.ntmps74
      go_wp2
      go_ret
      exact ⟨ret_boolE H.out.symm, rfl⟩
  · have H := Lib.hid (show dgtI r = false by simp [dgtI, h1])
    go_enter Try.func74, Try.ntmps74
    go_wp2
    go_ret
    exact ⟨ret_boolE H.out.symm, rfl⟩

set_option maxHeartbeats 4000000 in
theorem isword_any (l : List UInt8) (w : World) : Calls Try.prog 72 #[.string ⟨l.toArray⟩] w fun e w' => e = .returned (.bool (decide (l ∈ wordsL))) ∧ w = w' := by
  go_enter Try.func72, Try.ntmps72
  go_wp2
  all_goals
    go_ret
    exact ⟨ret_boolE (by simp_all [wordsL]), rfl⟩

theorem words_any (w : World) : Calls Try.prog 68 #[] w fun e w' => ∃ v, e = .returned v ∧ Vs sv w' v wordsL ∧ Fr Non w w' := by
  have hv := ow_lit (f := sv) (E := 9) w 0 _ wordsL #[.string ⟨#[97, 110, 100]⟩, .string ⟨#[111, 114]⟩, .string ⟨#[110, 111, 116]⟩, .string ⟨#[105, 115]⟩, .string ⟨#[110, 117, 108, 108]⟩, .string ⟨#[108, 105, 107, 101]⟩, .string ⟨#[116, 114, 117, 101]⟩, .string ⟨#[102, 97, 108, 115, 101]⟩, .string ⟨#[115, 101, 108, 101, 99, 116]⟩, .string ⟨#[102, 114, 111, 109]⟩, .string ⟨#[119, 104, 101, 114, 101]⟩, .string ⟨#[103, 114, 111, 117, 112]⟩, .string ⟨#[98, 121]⟩, .string ⟨#[97, 108, 108]⟩, .string ⟨#[99, 111, 117, 110, 116]⟩, .string ⟨#[104, 97, 115]⟩, .string ⟨#[115, 117, 109]⟩, .string ⟨#[109, 105, 110]⟩, .string ⟨#[109, 97, 120]⟩] rfl rfl (Nat.zero_le _) (by unfold maxLen; decide)
  have HV := Lib.hid hv.vs
  clear hv
  go_enter Try.func68, Try.ntmps68
  go_wp2
  go_ret
  exact ⟨_, rfl, HV.out, (Fr.refl _ _).alloc _⟩
end Go.Proofs.Ytnbhgkolfapblaa


namespace Go.Proofs.Ytnbhgkolfapblaa
set_option linter.unusedVariables false
set_option linter.unusedSimpArgs false
set_option maxRecDepth 100000
open Go.RowKit

theorem slenN (l : List UInt8) : ByteArray.size ⟨l.toArray⟩ = l.length := by simp [ByteArray.size]
theorem not_word {l : List UInt8} (h : ∀ j (hj : j < wordsL.length), wordsL[j] ≠ l) : l ∉ wordsL := by
  intro hm
  obtain ⟨j, hj, e⟩ := List.mem_iff_getElem.1 hm
  exact h j hj e
theorem nmOk_more {l : List UInt8} {k : Nat} (h : ∀ j (hj : j < l.length), j < k → okI j (l[j]).toNat = true) (hk : k < l.length) (hc : okI k (l[k]).toNat = true) : ∀ j (hj : j < l.length), j < k + 1 → okI j (l[j]).toNat = true := by
  intro j hj hlt
  by_cases e : j = k
  · subst e; exact hc
  · exact h j hj (by omega)

set_option maxHeartbeats 2000000 in
theorem rname_any (l : List UInt8) (w : World) (hl : l.length ≤ 1000000000) : Calls Try.prog 53 #[.string ⟨l.toArray⟩] w fun e w' => e = .returned (.bool (nameB l)) ∧ Fr Non w w' := by
  have hs := slenN l
  go_enter Try.func53, Try.ntmps53
  go_wp2
  go_loop [3] (fun i => ∃ k : Nat, k ≤ l.length ∧ i = .int .i64 k ∧ Hid (∀ j (hj : j < l.length), j < k → okI j (l[j]).toNat = true)) (fun i => l.length - (intOf i).toNat)
  case atStart => exact ⟨0, by omega, rfl, Lib.hid (fun _ _ h => by omega)⟩
  case round =>
    obtain ⟨k, hk, rfl, hok⟩ := hrel
    by_cases hlt : k < l.length
    · obtain ⟨c, hc⟩ : ∃ c, l[k] = c := ⟨_, rfl⟩
      have hb := byte_at l k c hlt hc
      have HC := Lib.hid hc
      clear hc
      have HM := Lib.hid (fun (h : okI k c.toNat = true) => nmOk_more hok.out hlt (by rw [HC.out]; exact h))
      have HX := Lib.hid (fun (h : okI k c.toNat = false) => name_bad hlt (by rw [HC.out]; exact h))
      clear HC hok
      go_wp2
      all_goals first
        | (go_ret
           refine ⟨ret_boolE (HX.out ?_).symm, Fr.refl _ _⟩
           clear HX HM hb hs
           rw [Bool.eq_false_iff]
           intro hh
           simp [okI, ltrI, dgtI] at *
           done)
        | (go_ret
           refine ⟨ret_boolE (HX.out ?_).symm, Fr.refl _ _⟩
           clear HX HM hb hs
           rw [Bool.eq_false_iff]
           intro hh
           simp [okI, ltrI, dgtI] at *
           omega)
        | (go_roundw
           case rel =>
             refine ⟨k + 1, by omega, by go_num, Lib.hid (HM.out ?_)⟩
             clear HX HM hb hs
             simp [okI, ltrI, dgtI] at *
             omega
           case measure => simp [intOf]; omega)
        | (go_roundw
           case rel =>
             refine ⟨k + 1, by omega, by go_num, Lib.hid (HM.out ?_)⟩
             clear HX HM hb hs
             simp [okI, ltrI, dgtI] at *
             done
           case measure => simp [intOf]; omega)
    · have HO : Hid (nmOk l) := Lib.hid (fun j hj => hok.out j hj (by omega))
      clear hok
      go_wp2_with fail
      refine (words_any _).mono ?_
      rintro e w1 ⟨v, rfl, hv, hf1⟩
      have hw : wordsL.length = 19 := rfl
      obtain ⟨A, c, he, hc, hn, hcell⟩ := hv
      rw [hw] at he hc
      subst he
      have HN := Lib.hid hn
      have HCE := Lib.hid hcell
      have HF := Lib.hid hf1
      clear hn hcell hf1
      go_wp2
      go_loop [8] (fun i => ∃ q : Nat, q ≤ 19 ∧ i = .int .i64 q ∧ Hid (∀ j (hj : j < wordsL.length), j < q → wordsL[j] ≠ l)) (fun i => 19 - (intOf i).toNat)
      case atStart => exact ⟨0, by omega, rfl, Lib.hid (fun _ _ h => by omega)⟩
      case round =>
        obtain ⟨q, hq, rfl, hne⟩ := hrel
        by_cases hlq : q < 19
        · cases A with
          | none => have := HN.out rfl; omega
          | some a =>
            have hql : q < wordsL.length := by rw [hw]; exact hlq
            have hce := HCE.out a rfl q hql
            unfold sv at hce
            by_cases he : wordsL[q] = l
            · have HE := Lib.hid (name_word (l := l) (by rw [← he]; exact List.getElem_mem hql))
              rw [he] at hce
              clear he
              go_wp2
              go_ret
              exact ⟨ret_boolE HE.out.symm, HF.out⟩
            · have HE : Hid (∀ j (hj : j < wordsL.length), j < q + 1 → wordsL[j] ≠ l) := Lib.hid (fun j hj hlt => by
                by_cases e : j = q
                · subst e; exact he
                · exact hne.out j hj (by omega))
              have hb : (wordsL[q] == l) = false := by rw [beq_eq_false_iff_ne]; exact he
              clear he hne
              generalize wordsL[q] = x at *
              go_wp2
              go_roundw
              case rel => exact ⟨q + 1, by omega, by go_num, HE⟩
              case measure => simp [intOf]; omega
        · have HW : Hid (l ∉ wordsL) := Lib.hid (not_word fun j hj => hne.out j hj (by rw [hw] at hj; omega))
          clear hne
          by_cases h1 : 1 ≤ l.length
          · by_cases h2 : l.length ≤ 12
            · have H := Lib.hid (name_yes h1 h2 HW.out HO.out)
              go_wp2
              go_ret
              exact ⟨ret_boolE (by rw [H.out]; exact decide_eq_true (by omega)), HF.out⟩
            · have H := Lib.hid (name_long (l := l) (by omega))
              go_wp2
              go_ret
              exact ⟨ret_boolE (by rw [H.out]; exact decide_eq_false (by omega)), HF.out⟩
          · have H := Lib.hid (name_nil (l := l) (by omega))
            go_wp2
            go_ret
            exact ⟨ret_boolE H.out.symm, HF.out⟩

set_option maxHeartbeats 2000000 in
theorem sname_any (l : List UInt8) (w : World) (hl : l.length ≤ 1000000000) : Calls Try.prog 60 #[.string ⟨l.toArray⟩] w fun e w' => e = .returned (.bool (nameB l)) ∧ Fr Non w w' := by
  have hs := slenN l
  by_cases h0 : l = []
  · subst h0
    go_enter Try.func60, Try.ntmps60
    go_wp2
    go_ret
    exact ⟨rfl, Fr.refl _ _⟩
  · have h0b : (l == []) = false := by rw [beq_eq_false_iff_ne]; exact h0
    have HL : Hid (1 ≤ l.length) := Lib.hid (Nat.pos_of_ne_zero (fun e => h0 (List.eq_nil_of_length_eq_zero e)))
    clear h0
    by_cases h12 : 12 < l.length
    · have H := Lib.hid (name_long h12)
      go_enter Try.func60, Try.ntmps60
      go_wp2
      go_ret
      exact ⟨ret_boolE H.out.symm, Fr.refl _ _⟩
    · have HI := fun W => isword_any l W
      cases hw : decide (l ∈ wordsL)
      · simp only [hw] at HI
        have HW := Lib.hid (of_decide_eq_false hw)
        clear hw
        replace HI := Lib.hid HI
        go_enter Try.func60, Try.ntmps60
        go_wp2_with fail
        refine (HI.out _).mono ?_
        rintro e w1 ⟨rfl, rfl⟩
        clear HI
        go_wp2
        go_loopw [3, 4] (fun _ _ wr => ∃ k : Nat, k ≤ l.length ∧ wr = w.iter ⟨l.toArray⟩ k ∧ Hid (∀ j (hj : j < l.length), j < k → okI j (l[j]).toNat = true)) (fun _ _ wr => l.length - wr.iterPos w.heap.size)
        case atStart => exact ⟨0, by omega, rfl, Lib.hid (fun _ _ h => by omega)⟩
        case round =>
          obtain ⟨k, hk, rfl, hok⟩ := hrel
          by_cases hlt : k < l.length
          · obtain ⟨c, hc⟩ : ∃ c, l[k] = c := ⟨_, rfl⟩
            have hm := World.iterPos_iter w ⟨l.toArray⟩ k
            have HC := Lib.hid hc
            have hbk : (⟨l.toArray⟩ : ByteArray)[k]'(by rw [hs]; exact hlt) = c := hc
            clear hc
            have HM := Lib.hid (fun (h : okI k c.toNat = true) => nmOk_more hok.out hlt (by rw [HC.out]; exact h))
            have HX := Lib.hid (fun (h : okI k c.toNat = false) => name_bad hlt (by rw [HC.out]; exact h))
            clear HC hok
            by_cases hhi : c.toNat < 128
            · have hn := fun ty => run_next_ascii (P := Try.prog) w ⟨l.toArray⟩ k ty (by rw [hs]; exact hlt) (by rw [hbk]; exact hhi)
              rw [hbk] at hn
              clear hbk hhi
              have hm1 := World.iterPos_iter w ⟨l.toArray⟩ (k + 1)
              have FR1 := Lib.hid ((Fr.refl Non w).alloc (.stringIter ⟨l.toArray⟩ (k + 1)))
              replace hm1 := Lib.hid hm1
              change Hid (Fr Non w (w.iter ⟨l.toArray⟩ (k + 1))) at FR1
              have HM1 := hm1
              clear hm1
              have HL1 := fun W => isletter_any c.toNat W
              have HD1 := fun W => isdigit_any c.toNat W
              cases hL : ltrI c.toNat
              · simp only [hL] at HL1
                replace HL1 := Lib.hid HL1
                by_cases hk0 : k = 0
                · subst hk0
                  replace HX := Lib.hid (HX.out (by simp [okI, hL]))
                  clear HD1 HM hL
                  go_wp2_with fail
                  refine (HL1.out _).mono ?_
                  rintro e w1 ⟨rfl, rfl⟩
                  clear HL1
                  go_wp2
                  go_ret
                  exact ⟨ret_boolE HX.out.symm, FR1.out⟩
                · have hkb : ((k : Int) == 0) = false := by rw [beq_eq_false_iff_ne]; omega
                  have HK0 := Lib.hid hk0
                  clear hk0
                  cases hD : dgtI c.toNat
                  · simp only [hD] at HD1
                    replace HD1 := Lib.hid HD1
                    by_cases h95 : (c.toNat : Int) = 95
                    · replace HM := Lib.hid (HM.out (by simp [okI, hL, hD, h95]; exact .inr HK0.out))
                      have h95b : ((c.toNat : Int) == 95) = true := by rw [beq_iff_eq]; exact h95
                      clear HX hL hD h95
                      go_wp2_with fail
                      refine (HL1.out _).mono ?_
                      rintro e w1 ⟨rfl, rfl⟩
                      clear HL1
                      go_wp2_with fail
                      refine (HD1.out _).mono ?_
                      rintro e w1 ⟨rfl, rfl⟩
                      clear HD1
                      go_wp2
                      go_roundw
                      case rel => exact ⟨k + 1, by omega, rfl, HM⟩
                      case measure => rw [hm, HM1.out]; omega
                    · replace HX := Lib.hid (HX.out (by simp [okI, hL, hD, h95]))
                      have h95b : ((c.toNat : Int) == 95) = false := by rw [beq_eq_false_iff_ne]; exact h95
                      clear HM hL hD h95
                      go_wp2_with fail
                      refine (HL1.out _).mono ?_
                      rintro e w1 ⟨rfl, rfl⟩
                      clear HL1
                      go_wp2_with fail
                      refine (HD1.out _).mono ?_
                      rintro e w1 ⟨rfl, rfl⟩
                      clear HD1
                      go_wp2
                      go_ret
                      exact ⟨ret_boolE HX.out.symm, FR1.out⟩
                  · simp only [hD] at HD1
                    replace HD1 := Lib.hid HD1
                    replace HM := Lib.hid (HM.out (by simp [okI, hL, hD]; exact HK0.out))
                    clear HX hL hD
                    go_wp2_with fail
                    refine (HL1.out _).mono ?_
                    rintro e w1 ⟨rfl, rfl⟩
                    clear HL1
                    go_wp2_with fail
                    refine (HD1.out _).mono ?_
                    rintro e w1 ⟨rfl, rfl⟩
                    clear HD1
                    go_wp2
                    go_roundw
                    case rel => exact ⟨k + 1, by omega, rfl, HM⟩
                    case measure => rw [hm, HM1.out]; omega
              · simp only [hL] at HL1
                replace HL1 := Lib.hid HL1
                replace HM := Lib.hid (HM.out (by simp [okI, hL]))
                clear HX hL HD1
                go_wp2_with fail
                refine (HL1.out _).mono ?_
                rintro e w1 ⟨rfl, rfl⟩
                clear HL1
                go_wp2
                go_roundw
                case rel => exact ⟨k + 1, by omega, rfl, HM⟩
                case measure => rw [hm, HM1.out]; omega
            · have hn := fun ty => run_next_any (P := Try.prog) w ⟨l.toArray⟩ k ty (by rw [hs]; exact hlt)
              have hr := (decode_high ⟨l.toArray⟩ k (by rw [hs]; exact hlt) (by rw [hbk]; omega)).1
              replace HX := Lib.hid (HX.out (okI_high (by omega)))
              clear HM hbk
              generalize (Utf8.decode ⟨l.toArray⟩ k).1 = r at *
              generalize k + (Utf8.decode ⟨l.toArray⟩ k).2 = p at *
              have FR1 := Lib.hid ((Fr.refl Non w).alloc (.stringIter ⟨l.toArray⟩ p))
              change Hid (Fr Non w (w.iter ⟨l.toArray⟩ p)) at FR1
              have HL1 := fun W => isletter_any r W
              have HD1 := fun W => isdigit_any r W
              have e1 : ltrI r = false := by simp [ltrI]; omega
              have e2 : dgtI r = false := by simp [dgtI]; omega
              have h95b : ((r : Int) == 95) = false := by rw [beq_eq_false_iff_ne]; omega
              simp only [e1] at HL1
              simp only [e2] at HD1
              replace HL1 := Lib.hid HL1
              replace HD1 := Lib.hid HD1
              clear e1 e2 hr hhi
              by_cases hk0 : k = 0
              · subst hk0
                clear HD1
                go_wp2_with fail
                refine (HL1.out _).mono ?_
                rintro e w1 ⟨rfl, rfl⟩
                clear HL1
                go_wp2
                go_ret
                exact ⟨ret_boolE HX.out.symm, FR1.out⟩
              · have hkb : ((k : Int) == 0) = false := by rw [beq_eq_false_iff_ne]; omega
                clear hk0
                go_wp2_with fail
                refine (HL1.out _).mono ?_
                rintro e w1 ⟨rfl, rfl⟩
                clear HL1
                go_wp2_with fail
                refine (HD1.out _).mono ?_
                rintro e w1 ⟨rfl, rfl⟩
                clear HD1
                go_wp2
                go_ret
                exact ⟨ret_boolE HX.out.symm, FR1.out⟩
          · have hn := fun ty => run_next_end (P := Try.prog) w ⟨l.toArray⟩ k ty (by rw [hs]; exact hlt)
            have H := Lib.hid (name_yes HL.out (by omega) HW.out (fun j hj => hok.out j hj (by omega)))
            clear hok
            go_wp2
            go_ret
            exact ⟨ret_boolE H.out.symm, (Fr.refl _ _).alloc _⟩
      · simp only [hw] at HI
        have H := Lib.hid (name_word (of_decide_eq_true hw))
        clear hw
        replace HI := Lib.hid HI
        go_enter Try.func60, Try.ntmps60
        go_wp2_with fail
        refine (HI.out _).mono ?_
        rintro e w1 ⟨rfl, rfl⟩
        go_wp2
        go_ret
        exact ⟨ret_boolE H.out.symm, Fr.refl _ _⟩
end Go.Proofs.Ytnbhgkolfapblaa


namespace Go.Proofs.Ytnbhgkolfapblaa
set_option linter.unusedVariables false
set_option linter.unusedSimpArgs false
set_option maxRecDepth 100000
open Go.RowKit

theorem ask_no {h : Ph} (hn : nameB h.col = false) : askOk h = false := by unfold askOk; rw [hn]; rfl
theorem ask_cmp {h : Ph} (hn : nameB h.col = true) (h2 : h.op = 2) : askOk h = (decide (1 ≤ h.cmp ∧ h.cmp ≤ 6) && mayC h.kind false h.val && peq h ⟨h.op, h.col, h.cmp, h.val, h.kind, []⟩) := by
  unfold askOk; rw [hn, if_pos h2]; rfl
theorem ask_like {h : Ph} (hn : nameB h.col = true) (h2 : h.op = 4) : askOk h = (decide (h.pat.length ≤ 40) && peq h ⟨h.op, h.col, 0, zCl, 0, h.pat⟩) := by
  unfold askOk; rw [hn, if_neg (by omega), if_pos h2]; rfl
theorem ask_nul {h : Ph} (hn : nameB h.col = true) (h2 : ¬ h.op = 2) (h4 : ¬ h.op = 4) : askOk h = peq h ⟨h.op, h.col, 0, zCl, 0, []⟩ := by
  unfold askOk; rw [hn, if_neg h2, if_neg h4]; rfl

theorem iscmp_any (n : Int) (w : World) : Calls Try.prog 69 #[.int .i64 n] w fun e w' => e = .returned (.bool (decide (1 ≤ n ∧ n ≤ 6))) ∧ Fr Non w w' := by
  by_cases h : 1 ≤ n
  · go_enter Try.func69, Try.ntmps69
    go_wp2
    go_ret
    exact ⟨ret_boolE (by simp [h]), Fr.refl _ _⟩
  · go_enter Try.func69, Try.ntmps69
    go_wp2
    go_ret
    exact ⟨ret_boolE (by simp; omega), Fr.refl _ _⟩

set_option maxHeartbeats 2000000 in
theorem mayask_any (h : Ph) (s : Kv) (w : World) (hl : h.col.length ≤ 1000000000) : Calls Try.prog 57 #[pdV h s] w fun e w' => e = .returned (.bool (askOk h)) ∧ Fr Non w w' := by
  have N1 := fun W => sname_any h.col W hl
  have B0 := Lib.hid (pd_new w _ h s rfl)
  have F0 : Hid (Fr Non w _) := Lib.hid ((Fr.refl Non w).alloc (.cells (pdC h s) 27))
  have H1 := Lib.hid (fun hn => ask_no (h := h) hn)
  have H2 := Lib.hid (fun hn h2 => ask_cmp (h := h) hn h2)
  have H3 := Lib.hid (fun hn h2 => ask_like (h := h) hn h2)
  have H4 := Lib.hid (fun hn h2 h4 => ask_nul (h := h) hn h2 h4)
  have A2 := Lib.hid (fun W => alike_any h ⟨h.op, h.col, h.cmp, h.val, h.kind, []⟩ s noKv W)
  have A3 := Lib.hid (fun W => alike_any h ⟨h.op, h.col, 0, zCl, 0, h.pat⟩ s noKv W)
  have A4 := Lib.hid (fun W => alike_any h ⟨h.op, h.col, 0, zCl, 0, []⟩ s noKv W)
  have C1 := Lib.hid (fun W => iscmp_any h.cmp W)
  have C2 := Lib.hid (fun W => may_any h.kind false h.val W)
  obtain ⟨op, col, cmp, ⟨vn, vi, vt⟩, kind, pat⟩ := h
  obtain ⟨sA, sn, sc⟩ := s
  have hs := slen pat
  dsimp only at *
  unfold pdV pdC kidV at *
  unfold noKv at A2 A3 A4
  unfold zCl at A3 A4
  unfold clV clC at C2
  dsimp only at *
  cases hn : nameB col
  · have HE := Lib.hid (H1.out hn)
    simp only [hn] at N1
    replace N1 := Lib.hid N1
    clear H1 H2 H3 H4 A2 A3 A4 C1 C2 hn
    go_enter Try.func57, Try.ntmps57
    go_wp2_with fail
    refine (N1.out _).mono ?_
    rintro e w1 ⟨rfl, f1⟩
    go_wp2
    go_ret
    exact ⟨ret_boolE HE.out.symm, F0.out.trans f1⟩
  · simp only [hn] at N1
    replace N1 := Lib.hid N1
    by_cases h2 : op = 2
    · have HE := Lib.hid (H2.out hn h2)
      clear H1 H2 H3 H4 A3 A4 hn
      subst h2
      go_enter Try.func57, Try.ntmps57
      go_wp2_with fail
      refine (N1.out _).mono ?_
      rintro e w1 ⟨rfl, f1⟩
      obtain ⟨g0, g1, g2, g3, g4, g5, g6, g7, g8⟩ := pdB_cells (B0.out.fr f1 (fun e => e))
      have B1 := Lib.hid (B0.out.fr f1 (fun e => e))
      dsimp only at g0 g1 g2 g3 g4 g5 g6 g7 g8
      generalize hc : decide (1 ≤ cmp ∧ cmp ≤ 6) = b1 at *
      clear hc
      have F1 := Lib.hid (F0.out.trans f1)
      clear f1 F0 B0
      go_wp2_with fail
      refine (C1.out _).mono ?_
      rintro e w2 ⟨rfl, f2⟩
      clear g0 g1 g2 g3 g4 g5 g6 g7 g8
      obtain ⟨g0, g1, g2, g3, g4, g5, g6, g7, g8⟩ := pdB_cells (B1.out.fr f2 (fun e => e))
      have B2 := Lib.hid (B1.out.fr f2 (fun e => e))
      have F2 := Lib.hid (F1.out.trans f2)
      dsimp only at g0 g1 g2 g3 g4 g5 g6 g7 g8
      clear f2 F1 B1
      cases b1
      · go_wp2
        go_ret
        exact ⟨ret_boolE (by rw [HE.out]; rfl), F2.out⟩
      · generalize hc : mayC kind false ⟨vn, vi, vt⟩ = b2 at *
        clear hc
        go_wp2_with fail
        refine (C2.out _).mono ?_
        rintro e w3 ⟨rfl, f3⟩
        clear g0 g1 g2 g3 g4 g5 g6 g7 g8
        obtain ⟨g0, g1, g2, g3, g4, g5, g6, g7, g8⟩ := pdB_cells (B2.out.fr f3 (fun e => e))
        have F3 := Lib.hid (F2.out.trans f3)
        dsimp only at g0 g1 g2 g3 g4 g5 g6 g7 g8
        clear f3 F2 B2
        cases b2
        · go_wp2
          go_ret
          exact ⟨ret_boolE (by rw [HE.out]; rfl), F3.out⟩
        · go_wp2_with fail
          refine (A2.out _).mono ?_
          rintro e w4 ⟨rfl, f4⟩
          go_wp2
          go_ret
          exact ⟨ret_boolE (by rw [HE.out]; rfl), F3.out.trans f4⟩
    · by_cases h4 : op = 4
      · have HE := Lib.hid (H3.out hn h4)
        clear H1 H2 H3 H4 A2 A4 hn C1 C2 h2
        subst h4
        go_enter Try.func57, Try.ntmps57
        go_wp2_with fail
        refine (N1.out _).mono ?_
        rintro e w1 ⟨rfl, f1⟩
        obtain ⟨g0, g1, g2, g3, g4, g5, g6, g7, g8⟩ := pdB_cells (B0.out.fr f1 (fun e => e))
        dsimp only at g0 g1 g2 g3 g4 g5 g6 g7 g8
        have F1 := Lib.hid (F0.out.trans f1)
        clear f1 F0 B0
        by_cases h40 : pat.length ≤ 40
        · go_wp2_with fail
          refine (A3.out _).mono ?_
          rintro e w4 ⟨rfl, f4⟩
          go_wp2
          go_ret
          exact ⟨ret_boolE (by rw [HE.out, decide_eq_true h40]; rfl), F1.out.trans f4⟩
        · go_wp2
          go_ret
          exact ⟨ret_boolE (by rw [HE.out, decide_eq_false h40]; simp), F1.out⟩
      · have HE := Lib.hid (H4.out hn h2 h4)
        clear H1 H2 H3 H4 A2 A3 hn C1 C2
        go_enter Try.func57, Try.ntmps57
        go_wp2_with fail
        refine (N1.out _).mono ?_
        rintro e w1 ⟨rfl, f1⟩
        obtain ⟨g0, g1, g2, g3, g4, g5, g6, g7, g8⟩ := pdB_cells (B0.out.fr f1 (fun e => e))
        dsimp only at g0 g1 g2 g3 g4 g5 g6 g7 g8
        have F1 := Lib.hid (F0.out.trans f1)
        clear f1 F0 B0
        go_wp2_with fail
        refine (A4.out _).mono ?_
        rintro e w4 ⟨rfl, f4⟩
        go_wp2
        go_ret
        exact ⟨ret_boolE (by rw [HE.out]; rfl), F1.out.trans f4⟩

/-! ### One of those within -/
theorem haskid1_any (h : Ph) (s : Kv) (op : Int) (g : Nat) (w : World) (hg : Blk w g 3 #[.int .i64 op]) :
    Calls Try.prog 71 #[pdV h s, .pointer (some ⟨g, 0, none⟩)] w fun e w' => e = .returned (.bool (h.op == op)) ∧ Fr Non w w' := by
  have F0 : Hid (Fr Non w _) := Lib.hid ((Fr.refl Non w).alloc (.cells (pdC h s) 27))
  have g0 := (hg.fr (F0.out) (fun e => e)).cell 0
  simp at g0
  obtain ⟨hop, col, cmp, ⟨vn, vi, vt⟩, kind, pat⟩ := h
  obtain ⟨sA, sn, sc⟩ := s
  unfold pdV pdC kidV at *
  dsimp only at *
  go_enter Try.func71, Try.ntmps71
  go_wp2
  go_ret
  exact ⟨rfl, F0.out⟩
end Go.Proofs.Ytnbhgkolfapblaa
