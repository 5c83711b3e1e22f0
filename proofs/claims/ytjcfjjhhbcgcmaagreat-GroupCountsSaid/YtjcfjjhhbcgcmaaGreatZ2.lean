/-
  Joined: Predicates: trees; which there may be, by one count and by another; which fit columns; their columns, their texts. Nothing of the program. · Layer 15, mathematics: which runes a pattern's runes match (mtG); of patterns put together; the way by beginnings; the way by the last % (a state's relation, step by step). · Predicates' texts: how long they may be; numbers within int64. Nothing of the program. · Queries: which there may be, which fit which columns, what their answers are called, which columns they need, their text; nothing of the program. · Predicates and queries that are not too great to be asked whether they may be. Nothing of the program. · Layer 9: cells become any and come back. · Predicates asked of rows: which truth. Nothing of the program but what a cell's value is. · What is answered to a query of rows: plain, gathered, in groups; keys rising; the answer's types; all groups' counts together. Nothing of the program. · Where a cell belongs among those that rise. Nothing of the program. · Append of a slice of cells onto a row of the call's own. · A column of rows. Nothing of the program. · Layer 13: a column of rows, the document's. · A cell of an old block, in a world behind; an address and nothing more. · Layer 23: the unlike cells of a column, rising: the document's. · int64's wrap, as a walk spells it. · Layer 17: a predicate as a value; slices of them, read as trees; two compared but for what is within them, both programs'. · Slices of texts: a text's cell; what their type is. · Layer 18: an aggregate, a query as values; slices of aggregates; two compared. · Layer 12: where a column is; which columns are the same; both programs'. · An answer's rows are of the answer's types. Nothing of the program. · Predicates' texts read again: a reader of texts (of lists of bytes, by so many steps), which reads each predicate's text as the predicate: so unlike ones have unlike texts. Nothing of the program. · Append of one text as a step. · Layer 12: letters, digits, words. · Layer 12: which texts may be names, both programs'. · Layer 17: which predicates may be but for what is within them, the program's. · Layer 17: which predicates may be, if those within them may, the program's.
-/
import Derived.Lib.Zigzag
import Derived.Deep.RegionHeld3
import Derived.Deep.QuietTactic
import Derived.BigQuiet
import Derived.Deep.DrawnRows
import Derived.Shelf.Strings.Replace
import Derived.Shelf.Strconv.Itoa4
import Derived.Shelf.Strings.OnBuilder
import Derived.Test.YtjcfjjhhbcgcmaaGreatProg
import Derived.Lib.SmallJoins
import Derived.Lib.AppendIntMem
import Derived.Laws.StructEq
import Derived.Laws.Rows
import Derived.Laws.ResultCell
import Derived.BigRegion
import Derived.Deep.RegionWith
import Derived.Test.YtjcfjjhhbcgcmaaGreatZ1
import Derived.Lib.Join
import Derived.BigFrame
import Derived.Laws.RangeAny

namespace Go.Proofs.YtjcfjjhhbcgcmaaGreat
set_option linter.unusedVariables false
set_option linter.unusedSimpArgs false
set_option maxRecDepth 100000
open Go.RowKit

def zCl : Cl := ⟨false, 0, []⟩
/-- a predicate but for what is within it -/
structure Ph where
  op : Int
  col : Tx
  cmp : Int
  val : Cl
  kind : Int
  pat : Tx
  deriving DecidableEq
inductive Pd where
  | mk (h : Ph) (kids : List Pd)
def Pd.hd : Pd → Ph | .mk h _ => h
def Pd.kids : Pd → List Pd | .mk _ l => l
theorem Pd.eta (p : Pd) : p = .mk p.hd p.kids := by cases p; rfl
theorem Pd.ind {M : Pd → Prop} (h : ∀ hd ks, (∀ k ∈ ks, M k) → M (.mk hd ks)) (p : Pd) : M p :=
  Pd.rec (motive_1 := M) (motive_2 := fun l => ∀ k ∈ l, M k) (fun hd ks ih => h hd ks ih) (fun _ hk => by cases hk)
    (fun k r hk hr x hx => by
      rcases List.mem_cons.1 hx with rfl | hx
      · exact hk
      · exact hr x hx) p

/-! ### How many, how deep, how long -/
mutual
def cntP : Pd → Nat | .mk _ ks => 1 + cntL ks
def cntL : List Pd → Nat | [] => 0 | k :: r => cntP k + cntL r
end
mutual
def depP : Pd → Nat | .mk _ ks => 1 + depL ks
def depL : List Pd → Nat | [] => 0 | k :: r => max (depP k) (depL r)
end
def lenH (h : Ph) (n : Nat) : Bool := decide (n ≤ 20 ∧ h.col.length ≤ 100 ∧ h.pat.length ≤ 100 ∧ h.val.txt.length ≤ 100)
mutual
def lenP : Pd → Bool | .mk h ks => lenH h ks.length && lenL ks
def lenL : List Pd → Bool | [] => true | k :: r => lenP k && lenL r
end
theorem lenL_all (l : List Pd) : lenL l = l.all lenP := by
  induction l with
  | nil => rfl
  | cons k r ih => rw [lenL, ih]; rfl
theorem depL_mem {l : List Pd} {k : Pd} (h : k ∈ l) : depP k ≤ depL l := by
  induction l with
  | nil => cases h
  | cons x r ih =>
    rw [depL]
    rcases List.mem_cons.1 h with rfl | h
    · omega
    · have := ih h; omega
theorem dep_pos (p : Pd) : 1 ≤ depP p := by cases p; rw [depP]; omega
/-! ### Which there may be -/
def askOk (h : Ph) : Bool :=
  nameB h.col && (if h.op = 2 then decide (1 ≤ h.cmp ∧ h.cmp ≤ 6) && mayC h.kind false h.val && decide (h = ⟨h.op, h.col, h.cmp, h.val, h.kind, []⟩)
    else if h.op = 4 then decide (h.pat.length ≤ 40) && decide (h = ⟨h.op, h.col, 0, zCl, 0, h.pat⟩)
    else decide (h = ⟨h.op, h.col, 0, zCl, 0, []⟩))
def bareH (h : Ph) : Bool := decide (h = ⟨h.op, [], 0, zCl, 0, []⟩)
def kidOp (op : Int) (ks : List Pd) : Bool := ks.any fun k => k.hd.op == op
def hdOk (h : Ph) (ks : List Pd) : Bool :=
  if h.op = 1 then decide (ks.length = 0) && bareH h
  else if h.op = 2 ∨ h.op = 3 ∨ h.op = 4 then decide (ks.length = 0) && askOk h
  else if h.op = 5 then decide (ks.length = 1) && bareH h
  else if h.op = 6 ∨ h.op = 7 then decide (1 < ks.length) && bareH h && !kidOp h.op ks
  else false
mutual
def oneP : Pd → Bool | .mk h ks => hdOk h ks && oneL ks
def oneL : List Pd → Bool | [] => true | k :: r => oneP k && oneL r
end
theorem oneL_all (l : List Pd) : oneL l = l.all oneP := by
  induction l with
  | nil => rfl
  | cons k r ih => rw [oneL, ih]; rfl
def mayP (p : Pd) : Bool := decide (cntP p ≤ 16 ∧ depP p ≤ 6) && oneP p

/-! ### Asked of all of them -/
section
variable {σ : Type}
mutual
def allP (f : σ → Pd → Nat → Option σ) : Pd → σ → Nat → Option σ | .mk h ks, s, d => (f s (.mk h ks) d).bind fun s' => allL f ks s' (d + 1)
def allL (f : σ → Pd → Nat → Option σ) : List Pd → σ → Nat → Option σ | [], s, _ => some s | k :: r, s, d => (allP f k s d).bind fun s' => allL f r s' d
end
end
def stepM (n : Nat) (p : Pd) (d : Nat) : Option Nat := if n + 1 ≤ 16 ∧ d ≤ 6 ∧ hdOk p.hd p.kids = true then some (n + 1) else none
theorem allM (p : Pd) : ∀ n d, n ≤ 16 → d ≤ 7 → allP stepM p n d = if n + cntP p ≤ 16 ∧ d + depP p ≤ 7 ∧ oneP p = true then some (n + cntP p) else none := by
  induction p using Pd.ind with
  | h hd ks ih =>
    have hL : ∀ (l : List Pd), (∀ k ∈ l, k ∈ ks) → ∀ n d, n ≤ 16 → d ≤ 7 → allL stepM l n d = if n + cntL l ≤ 16 ∧ d + depL l ≤ 7 ∧ oneL l = true then some (n + cntL l) else none := by
      intro l
      induction l with
      | nil => intro _ n d hn hd; rw [allL, cntL, depL, oneL, if_pos ⟨by omega, by omega, rfl⟩]; rfl
      | cons k r ih2 =>
        intro hm n d hn hd
        rw [allL, ih k (hm k (List.mem_cons_self ..)) n d hn hd, cntL, depL, oneL]
        by_cases h1 : n + cntP k ≤ 16 ∧ d + depP k ≤ 7 ∧ oneP k = true
        · rw [if_pos h1, Option.bind_some, ih2 (fun x hx => hm x (List.mem_cons_of_mem _ hx)) _ d h1.1 hd, h1.2.2, Bool.true_and]
          by_cases h2 : n + cntP k + cntL r ≤ 16 ∧ d + depL r ≤ 7 ∧ oneL r = true
          · rw [if_pos h2, if_pos ⟨by omega, by omega, h2.2.2⟩, Nat.add_assoc]
          · rw [if_neg h2, if_neg (by rintro ⟨a, b, c⟩; exact h2 ⟨by omega, by omega, c⟩)]
        · rw [if_neg h1, Option.bind_none, if_neg]
          rintro ⟨a, b, c⟩
          rw [Bool.and_eq_true] at c
          exact h1 ⟨by omega, by omega, c.1⟩
    intro n d hn hd7
    rw [allP, cntP, depP, oneP]
    unfold stepM
    by_cases h1 : n + 1 ≤ 16 ∧ d ≤ 6 ∧ hdOk hd ks = true
    · rw [if_pos (show n + 1 ≤ 16 ∧ d ≤ 6 ∧ hdOk (Pd.mk hd ks).hd (Pd.mk hd ks).kids = true from h1), Option.bind_some]
      have e := hL ks (fun _ h => h) (n + 1) (d + 1) h1.1 (by omega)
      unfold stepM at e
      rw [e, h1.2.2, Bool.true_and]
      by_cases h2 : n + 1 + cntL ks ≤ 16 ∧ d + 1 + depL ks ≤ 7 ∧ oneL ks = true
      · rw [if_pos h2, if_pos ⟨by omega, by omega, h2.2.2⟩, Nat.add_assoc]
      · rw [if_neg h2, if_neg (by rintro ⟨a, b, c⟩; exact h2 ⟨by omega, by omega, c⟩)]
    · rw [if_neg (show ¬ (n + 1 ≤ 16 ∧ d ≤ 6 ∧ hdOk (Pd.mk hd ks).hd (Pd.mk hd ks).kids = true) from h1), Option.bind_none, if_neg]
      rintro ⟨a, b, c⟩
      rw [Bool.and_eq_true] at c
      exact h1 ⟨by omega, by omega, c.1⟩
theorem may_all (p : Pd) : (allP stepM p 0 1).isSome = mayP p := by
  rw [allM p 0 1 (by omega) (by omega)]
  unfold mayP
  by_cases h : cntP p ≤ 16 ∧ depP p ≤ 6
  · rw [decide_eq_true h, Bool.true_and]
    cases h2 : oneP p
    · rw [if_neg (by simp)]; rfl
    · rw [if_pos ⟨by omega, by omega, rfl⟩]; rfl
  · rw [decide_eq_false h, Bool.false_and, if_neg (by omega)]; rfl

/-! ### Counted, as the document does -/
/-! ### Which fit columns -/
def okT (cols : List Co) (h : Ph) : Bool :=
  if h.col = [] then true else match findC cols h.col with
  | none => false
  | some k => match cols[k]? with
    | none => true
    | some c => if h.op = 2 then c.ty == h.kind else if h.op = 4 then c.ty == 3 else true
mutual
def typP (cols : List Co) : Pd → Bool | .mk h ks => okT cols h && typL cols ks
def typL (cols : List Co) : List Pd → Bool | [] => true | k :: r => typP cols k && typL cols r
end
theorem typL_all (cols : List Co) (l : List Pd) : typL cols l = l.all (typP cols) := by
  induction l with
  | nil => rfl
  | cons k r ih => rw [typL, ih]; rfl
def stepT (cols : List Co) (_ : Unit) (p : Pd) (_ : Nat) : Option Unit := if okT cols p.hd = true then some () else none
theorem allT (cols : List Co) (p : Pd) : ∀ d, allP (stepT cols) p () d = if typP cols p = true then some () else none := by
  induction p using Pd.ind with
  | h hd ks ih =>
    have hL : ∀ (l : List Pd), (∀ k ∈ l, k ∈ ks) → ∀ d, allL (stepT cols) l () d = if typL cols l = true then some () else none := by
      intro l
      induction l with
      | nil => intro _ d; rw [allL, typL, if_pos rfl]
      | cons k r ih2 =>
        intro hm d
        rw [allL, ih k (hm k (List.mem_cons_self ..)) d, typL]
        cases h1 : typP cols k
        · simp
        · rw [if_pos rfl, Option.bind_some, ih2 (fun x hx => hm x (List.mem_cons_of_mem _ hx)) d]; simp
    intro d
    rw [allP, typP]
    have e := hL ks (fun _ h => h) (d + 1)
    unfold stepT at e ⊢
    show (if okT cols hd = true then some () else none).bind _ = _
    cases h1 : okT cols hd
    · simp
    · rw [if_pos rfl, Option.bind_some, e]; simp
def fitP (cols : List Co) (p : Pd) : Int := if mayP p = false ∨ ¬ chkC cols = 0 then 1 else if typP cols p = true then 0 else 10

/-! ### The same -/
/-! ### Columns -/
/-! ### Texts -/
end Go.Proofs.YtjcfjjhhbcgcmaaGreat


namespace Go.Proofs.YtjcfjjhhbcgcmaaGreat
set_option linter.unusedVariables false
set_option linter.unusedSimpArgs false
set_option maxRecDepth 100000

/-- A to Z are a to z -/
def smU (r : Nat) : Nat := if 65 ≤ r ∧ r ≤ 90 then r + 32 else r
def foldU (l : List UInt8) : List Nat := (runesU l).map smU
theorem foldU_le (l : List UInt8) : (foldU l).length ≤ l.length := by unfold foldU; rw [List.length_map]; exact runesU_le l

/-- whether the runes p match the runes t -/
def mtG : List Nat → List Nat → Bool
  | [], t => t.isEmpty
  | c :: p, t => if c = 37 then (List.range (t.length + 1)).any fun k => mtG p (t.drop k) else
    match t with
    | [] => false
    | x :: t' => (c == 95 || c == x) && mtG p t'
def matchU (p s : List UInt8) : Bool := mtG (foldU p) (foldU s)

theorem mtG_nil (t : List Nat) : mtG [] t = true ↔ t = [] := by simp [mtG]
theorem mtG_many (p t : List Nat) : mtG (37 :: p) t = true ↔ ∃ k, k ≤ t.length ∧ mtG p (t.drop k) = true := by
  simp only [mtG, if_true, List.any_eq_true, List.mem_range]
  constructor
  · rintro ⟨k, h1, h2⟩; exact ⟨k, by omega, h2⟩
  · rintro ⟨k, h1, h2⟩; exact ⟨k, by omega, h2⟩
theorem mtG_one {c : Nat} (p t : List Nat) (h : c ≠ 37) : mtG (c :: p) t = true ↔ ∃ x t', t = x :: t' ∧ (c = 95 ∨ c = x) ∧ mtG p t' = true := by
  simp only [mtG, if_neg h]
  cases t with
  | nil => simp
  | cons x t =>
    simp only [Bool.and_eq_true, Bool.or_eq_true, beq_iff_eq]
    constructor
    · rintro ⟨h1, h2⟩; exact ⟨x, t, rfl, h1, h2⟩
    · rintro ⟨y, u, h1, h2, h3⟩
      simp only [List.cons.injEq] at h1
      obtain ⟨rfl, rfl⟩ := h1
      exact ⟨h2, h3⟩
/-! ### The way by beginnings -/
/-! ### The way by the last any -/
/-- the state of the program's way: at, place, and, where there was a any, behind the last one: b and taken -/
def stG (P T : List Nat) (at_ place : Nat) (back : Int) (taken : Nat) : Prop :=
  (back = -1 ∧ taken = 0 ∧ (mtG P T = true ↔ mtG (P.drop at_) (T.drop place) = true)) ∨
  ∃ b : Nat, back = b ∧ b ≤ at_ ∧ taken ≤ place ∧ place - taken = at_ - b ∧ (∀ j, b ≤ j → j < at_ → P[j]? ≠ some 37) ∧
    (mtG P T = true ↔ ∃ j, taken ≤ j ∧ j ≤ T.length ∧ mtG (P.drop b) (T.drop j) = true) ∧ (mtG (P.drop b) (T.drop taken) = true ↔ mtG (P.drop at_) (T.drop place) = true)

theorem seg_at {P : List Nat} {a b i : Nat} (h4 : ∀ j, b ≤ j → j < a → P[j]? ≠ some 37) (h1 : b ≤ b + i) (h2 : b + i < a) (hl : i < (P.drop b).length) : (P.drop b)[i] ≠ 37 := by
  rw [List.getElem_drop]
  intro e
  rw [List.length_drop] at hl
  exact h4 (b + i) h1 h2 (by rw [List.getElem?_eq_getElem (by omega), e])
theorem stG_start (P T : List Nat) : stG P T 0 0 (-1) 0 := .inl ⟨rfl, rfl, by simp⟩
/-- runes without any take as many -/
theorem mtG_seg : ∀ (n : Nat) (p t : List Nat), n ≤ p.length → (∀ j, j < n → ∀ h : j < p.length, p[j] ≠ 37) → mtG p t = true → n ≤ t.length ∧ mtG (p.drop n) (t.drop n) = true
  | 0, p, t, _, _, h => ⟨by omega, h⟩
  | n + 1, [], t, hl, _, _ => by simp at hl
  | n + 1, c :: p, t, hl, hp, h => by
    have hc := hp 0 (by omega) (by simp)
    simp only [List.getElem_cons_zero] at hc
    obtain ⟨x, t', rfl, _, h2⟩ := (mtG_one _ _ hc).1 h
    simp only [List.length_cons] at hl
    obtain ⟨h3, h4⟩ := mtG_seg n p t' (by omega) (fun j hj hjl => by have := hp (j + 1) (by omega) (by simp; omega); simpa using this) h2
    exact ⟨by simp; omega, h4⟩
theorem dropG_at {l : List Nat} {i : Nat} (h : i < l.length) : l.drop i = l[i] :: l.drop (i + 1) := List.drop_eq_getElem_cons h

theorem stG_many {P T : List Nat} {a p k : Nat} {back : Int} (h : stG P T a p back k) (ha : a < P.length) (hp : p ≤ T.length) (hc : P[a] = 37) : stG P T (a + 1) p ((a + 1 : Nat) : Int) p := by
  right
  refine ⟨a + 1, rfl, Nat.le_refl _, Nat.le_refl _, by omega, fun j h1 h2 => by omega, ?_, Iff.rfl⟩
  have key : mtG (P.drop a) (T.drop p) = true ↔ ∃ j, p ≤ j ∧ j ≤ T.length ∧ mtG (P.drop (a + 1)) (T.drop j) = true := by
    rw [dropG_at ha, hc, mtG_many]
    constructor
    · rintro ⟨m, h1, h2⟩
      rw [List.length_drop] at h1
      rw [List.drop_drop] at h2
      exact ⟨p + m, by omega, by omega, h2⟩
    · rintro ⟨j, h1, h2, h3⟩
      exact ⟨j - p, by rw [List.length_drop]; omega, by rw [List.drop_drop, show p + (j - p) = j by omega]; exact h3⟩
  rcases h with ⟨_, _, h⟩ | ⟨b, _, h1, h2, h3, h4, h5, h6⟩
  · rw [h, key]
  · rw [h5]
    constructor
    · rintro ⟨j, h7, h8, h9⟩
      by_cases e : j = k
      · subst e; exact key.1 (h6.1 h9)
      · obtain ⟨g1, g2⟩ := mtG_seg (a - b) (P.drop b) (T.drop j) (by rw [List.length_drop]; omega) (fun i hi hl => by
          exact seg_at h4 (by omega) (by omega) hl) h9
        rw [List.length_drop] at g1
        rw [List.drop_drop, List.drop_drop, Nat.add_sub_cancel' h1] at g2
        rw [dropG_at ha, hc, mtG_many] at g2
        obtain ⟨m, g3, g4⟩ := g2
        rw [List.length_drop] at g3
        rw [List.drop_drop] at g4
        exact ⟨j + (a - b) + m, by omega, by omega, g4⟩
    · intro h7
      exact ⟨k, Nat.le_refl _, by omega, h6.2 (key.2 h7)⟩
theorem stG_one {P T : List Nat} {a p k : Nat} {back : Int} (h : stG P T a p back k) (ha : a < P.length) (hp : p < T.length) (hc : P[a] ≠ 37) (hm : P[a] = 95 ∨ P[a] = T[p]) : stG P T (a + 1) (p + 1) back k := by
  have key : mtG (P.drop a) (T.drop p) = true ↔ mtG (P.drop (a + 1)) (T.drop (p + 1)) = true := by
    rw [dropG_at ha, dropG_at hp, mtG_one _ _ hc]
    constructor
    · rintro ⟨x, t', h1, h2, h3⟩
      simp only [List.cons.injEq] at h1
      obtain ⟨_, rfl⟩ := h1
      exact h3
    · intro h3
      exact ⟨_, _, rfl, hm, h3⟩
  rcases h with ⟨h0, h1, h⟩ | ⟨b, h0, h1, h2, h3, h4, h5, h6⟩
  · exact .inl ⟨h0, h1, h.trans key⟩
  · have e1 : p + 1 - k = a + 1 - b := by clear h5 h6 key; omega
    refine .inr ⟨b, h0, Nat.le_succ_of_le h1, Nat.le_succ_of_le h2, e1, fun j h7 h8 => ?_, h5, h6.trans key⟩
    by_cases e : j = a
    · subst e; rw [List.getElem?_eq_getElem ha]; exact fun h => hc (Option.some.inj h)
    · exact h4 j h7 (by omega)
/-- here they do not match -/
theorem mtG_stop {P T : List Nat} {a p : Nat} (hp : p < T.length) (hno : ∀ h : a < P.length, P[a] ≠ 37 ∧ P[a] ≠ 95 ∧ P[a] ≠ T[p]) : mtG (P.drop a) (T.drop p) = false := by
  rw [Bool.eq_false_iff]
  intro e
  by_cases ha : a < P.length
  · obtain ⟨n1, n2, n3⟩ := hno ha
    rw [dropG_at ha, dropG_at hp, mtG_one _ _ n1] at e
    obtain ⟨x, t', h1, h2, _⟩ := e
    simp only [List.cons.injEq] at h1
    obtain ⟨rfl, _⟩ := h1
    rcases h2 with h2 | h2
    · exact n2 h2
    · exact n3 h2
  · rw [List.drop_eq_nil_of_le (by omega), mtG_nil] at e
    have := congrArg List.length e
    rw [List.length_drop] at this
    simp at this
    omega
theorem stG_back {P T : List Nat} {a p k b : Nat} (h : stG P T a p (b : Int) k) (hp : p < T.length) (hno : mtG (P.drop a) (T.drop p) = false) : stG P T b (k + 1) (b : Int) (k + 1) ∧ b ≤ a ∧ k ≤ p := by
  rcases h with ⟨h0, _, _⟩ | ⟨b', h0, h1, h2, h3, h4, h5, h6⟩
  · omega
  · obtain rfl : b = b' := by omega
    refine ⟨.inr ⟨b, rfl, Nat.le_refl _, Nat.le_refl _, by omega, fun j h7 h8 => by omega, ?_, Iff.rfl⟩, h1, h2⟩
    rw [h5]
    constructor
    · rintro ⟨j, h7, h8, h9⟩
      by_cases e : j = k
      · subst e
        rw [h6, hno] at h9
        cases h9
      · exact ⟨j, by omega, h8, h9⟩
    · rintro ⟨j, h7, h8, h9⟩
      exact ⟨j, by omega, h8, h9⟩
theorem stG_no {P T : List Nat} {a p k : Nat} {back : Int} (h : stG P T a p back k) (hb : back < 0) (hno : mtG (P.drop a) (T.drop p) = false) : mtG P T = false := by
  rcases h with ⟨_, _, h⟩ | ⟨b, h0, _⟩
  · rw [Bool.eq_false_iff]; intro e; rw [h, hno] at e; cases e
  · omega
theorem stG_end {P T : List Nat} {a k : Nat} {back : Int} (h : stG P T a T.length back k) (ha : a ≤ P.length) : mtG P T = mtG (P.drop a) [] := by
  have e0 : T.drop T.length = [] := by simp
  rcases h with ⟨_, _, h⟩ | ⟨b, h0, h1, h2, h3, h4, h5, h6⟩
  · rw [e0] at h
    rw [Bool.eq_iff_iff]; exact h
  · rw [e0] at h6
    rw [Bool.eq_iff_iff, h5]
    constructor
    · rintro ⟨j, h7, h8, h9⟩
      obtain ⟨g1, g2⟩ := mtG_seg (a - b) (P.drop b) (T.drop j) (by rw [List.length_drop]; omega) (fun i hi hl => by
        exact seg_at h4 (by omega) (by omega) hl) h9
      rw [List.length_drop] at g1
      obtain rfl : j = k := by omega
      exact h6.1 h9
    · intro h7
      exact ⟨k, Nat.le_refl _, h2, h6.2 h7⟩
theorem mtG_empty : ∀ p : List Nat, mtG p [] = p.all (fun c => c == 37)
  | [] => rfl
  | c :: p => by
    by_cases hc : c = 37
    · subst hc
      rw [List.all_cons, ← mtG_empty p]
      rw [Bool.eq_iff_iff, mtG_many]
      simp
    · simp [mtG, hc]

/-! ### What is ahead of the first mark -/
end Go.Proofs.YtjcfjjhhbcgcmaaGreat


namespace Go.Proofs.YtjcfjjhhbcgcmaaGreat
set_option linter.unusedVariables false
set_option linter.unusedSimpArgs false
set_option maxRecDepth 100000
open Go.RowKit

mutual
/-- every number within int64 -/
def numP : Pd → Prop | .mk h ks => I64b h.val.num ∧ numL ks
def numL : List Pd → Prop | [] => True | k :: r => numP k ∧ numL r
end
theorem numL_all (l : List Pd) : numL l ↔ ∀ p ∈ l, numP p := by
  induction l with
  | nil => simp [numL]
  | cons k r ih => rw [numL, ih]; simp
end Go.Proofs.YtjcfjjhhbcgcmaaGreat


namespace Go.Proofs.YtjcfjjhhbcgcmaaGreat
set_option linter.unusedVariables false
set_option linter.unusedSimpArgs false
set_option maxRecDepth 100000
open Go.RowKit

/-- an aggregate -/
structure Ag where
  op : Int
  col : List UInt8
  deriving DecidableEq
/-- a query -/
structure Qy where
  tab : Tx
  cols : List Tx
  whr : Pd
  aggs : List Ag
  by_ : Tx
def agB (a : Ag) : Bool := if a.op = 1 then decide (a.col = []) else decide (2 ≤ a.op ∧ a.op ≤ 5) && nameB a.col
def unlB (l : List Tx) : Bool := l.all nameB && decide l.Nodup
def plainQ (q : Qy) : Bool := decide (q.aggs.length = 0) && (decide (q.by_ = []) && (decide (q.cols.length ≤ 6) && unlB q.cols))
def foldQ (q : Qy) : Bool := decide (0 < q.aggs.length) && (decide (q.aggs.length ≤ 4) && (q.aggs.all agB && (decide (q.cols.length = 0) && (decide (q.by_ = []) || nameB q.by_))))
/-- may there be a table of which q is asked? -/
def mayQ (q : Qy) : Bool := nameB q.tab && (mayP q.whr && (plainQ q || foldQ q))
def hasC (cols : List Co) (n : Tx) : Bool := (findC cols n).isSome
/-- a sum of what is no number -/
def sumN (cols : List Co) (a : Ag) : Bool := decide (a.op = 3) && (match cols[(findC cols a.col).getD 0]? with | some c => decide (c.ty ≠ 1) | none => false)
def allQ (q : Qy) : Bool := decide (q.cols.length = 0) && decide (q.aggs.length = 0)
def agN (l : List Ag) : List Tx := (l.filter fun a => decide (a.op ≠ 1)).map Ag.col
def byN (b : Tx) : List Tx := if b = [] then [] else [b]
def namedQ (cols : List Co) (q : Qy) : List Tx := if allQ q = true then namesC cols else q.cols ++ agN q.aggs ++ byN q.by_
def suitQ (cols : List Co) (q : Qy) : Bool := (namedQ cols q).all (hasC cols) && !(q.aggs.any (sumN cols))
def fitQ (cols : List Co) (q : Qy) : Int := if mayQ q = false ∨ ¬ chkC cols = 0 then 1 else if typP cols q.whr = true ∧ suitQ cols q = true then 0 else 10
/-! ### What stands above the answer -/
theorem may_parts {q : Qy} (h : mayQ q = true) : nameB q.tab = true ∧ mayP q.whr = true := by
  unfold mayQ at h
  simp only [Bool.and_eq_true] at h
  exact ⟨h.1, h.2.1⟩
/-! ### Which columns it needs -/
/-! ### Sorted lists -/
/-! ### As it is written -/
/-- not too great -/
structure SmQ (q : Qy) : Prop where
  cols : q.cols.length ≤ 15
  names : ∀ x ∈ q.cols, x.length ≤ 100
  aggs : q.aggs.length ≤ 15
  acol : ∀ a ∈ q.aggs, a.col.length ≤ 100
  tab : q.tab.length ≤ 100
  by_ : q.by_.length ≤ 100
  lens : lenP q.whr = true
  deep : depP q.whr ≤ 9
end Go.Proofs.YtjcfjjhhbcgcmaaGreat


namespace Go.Proofs.YtjcfjjhhbcgcmaaGreat
set_option linter.unusedVariables false
set_option linter.unusedSimpArgs false
set_option maxRecDepth 100000
open Go.RowKit

def bigH (h : Ph) (n : Nat) : Bool := decide (n ≤ 1000 ∧ h.col.length ≤ 1000 ∧ h.pat.length ≤ 1000 ∧ h.val.txt.length ≤ 1000)
mutual
def bigP : Pd → Bool | .mk h ks => bigH h ks.length && bigL ks
def bigL : List Pd → Bool | [] => true | k :: r => bigP k && bigL r
end
theorem bigL_all (l : List Pd) : bigL l = l.all bigP := by
  induction l with
  | nil => rfl
  | cons k r ih => rw [bigL, ih]; rfl
theorem bigP_is (h : Ph) (ks : List Pd) : bigP (.mk h ks) = (bigH h ks.length && ks.all bigP) := by rw [bigP, bigL_all]
theorem bigP_mk {h : Ph} {ks : List Pd} (e : bigP (.mk h ks) = true) : ks.length ≤ 1000 ∧ h.col.length ≤ 1000 ∧ h.pat.length ≤ 1000 ∧ h.val.txt.length ≤ 1000 ∧ ∀ k ∈ ks, bigP k = true := by
  rw [bigP, Bool.and_eq_true, bigL_all] at e
  unfold bigH at e
  have e1 := of_decide_eq_true e.1
  exact ⟨e1.1, e1.2.1, e1.2.2.1, e1.2.2.2, List.all_eq_true.1 e.2⟩
theorem big_of_len (p : Pd) : lenP p = true → bigP p = true := by
  induction p using Pd.ind with
  | h hd ks ih =>
    intro e
    rw [lenP, Bool.and_eq_true, lenL_all] at e
    have e1 := of_decide_eq_true e.1
    rw [bigP_is, Bool.and_eq_true, List.all_eq_true]
    exact ⟨decide_eq_true (by omega), fun k hk => ih k hk (List.all_eq_true.1 e.2 k hk)⟩
/-- .. of queries -/
structure BgQ (q : Qy) : Prop where
  cols : q.cols.length ≤ 1000
  names : ∀ x ∈ q.cols, x.length ≤ 1000
  aggs : q.aggs.length ≤ 1000
  acol : ∀ a ∈ q.aggs, a.col.length ≤ 1000
  tab : q.tab.length ≤ 1000
  by_ : q.by_.length ≤ 1000
  lens : bigP q.whr = true
  deep : depP q.whr ≤ 100
theorem SmQ.big {q : Qy} (h : SmQ q) : BgQ q :=
  ⟨by have := h.cols; omega, fun x hx => by have := h.names x hx; omega, by have := h.aggs; omega, fun x hx => by have := h.acol x hx; omega, by have := h.tab; omega, by have := h.by_; omega, big_of_len _ h.lens, by have := h.deep; omega⟩
end Go.Proofs.YtjcfjjhhbcgcmaaGreat


namespace Go.Proofs.YtjcfjjhhbcgcmaaGreat
set_option linter.unusedVariables false
set_option linter.unusedSimpArgs false
set_option maxRecDepth 100000
open Go.RowKit

/-! ### Assertions -/
theorem as_int_int (W : World) (v : Value) : (Instr.typeAssert (.iface 2 v) 20 2 true).run Tryz.prog W = .ok (.tuple #[v, .bool true]) W := by kernel_rfl
theorem as_bool_int (W : World) (v : Value) : (Instr.typeAssert (.iface 4 v) 20 2 true).run Tryz.prog W = .ok (.tuple #[.int .i64 0, .bool false]) W := by kernel_rfl
theorem as_str_int (W : World) (v : Value) : (Instr.typeAssert (.iface 9 v) 20 2 true).run Tryz.prog W = .ok (.tuple #[.int .i64 0, .bool false]) W := by kernel_rfl
theorem as_bool_bool (W : World) (v : Value) : (Instr.typeAssert (.iface 4 v) 20 4 true).run Tryz.prog W = .ok (.tuple #[v, .bool true]) W := by kernel_rfl
theorem as_str_bool (W : World) (v : Value) : (Instr.typeAssert (.iface 9 v) 20 4 true).run Tryz.prog W = .ok (.tuple #[.bool false, .bool false]) W := by kernel_rfl
theorem as_str_str (W : World) (v : Value) : (Instr.typeAssert (.iface 9 v) 20 9 true).run Tryz.prog W = .ok (.tuple #[v, .bool true]) W := by kernel_rfl
theorem is_int (W : World) (v : Value) : (Instr.typeAssert (.iface 2 v) 20 2 false).run Tryz.prog W = .ok v W := by kernel_rfl
theorem is_bool (W : World) (v : Value) : (Instr.typeAssert (.iface 4 v) 20 4 false).run Tryz.prog W = .ok v W := by kernel_rfl
theorem is_str (W : World) (v : Value) : (Instr.typeAssert (.iface 9 v) 20 9 false).run Tryz.prog W = .ok v W := by kernel_rfl
theorem not_nil (W : World) (u : TypeId) (v : Value) : (binOp .eql 20 (.iface u v) .nilIface).run Tryz.prog W = .ok (.bool false) W := by kernel_rfl
theorem nil_nil (W : World) : (binOp .eql 20 .nilIface .nilIface).run Tryz.prog W = .ok (.bool true) W := by kernel_rfl

/-! ### Int, Bool, Text of what they are -/
/-! ### From -/
/-- what any is -/
inductive An where
  | nil
  | int (i : Int)
  | bool (b : Bool)
  | text (t : List UInt8)
def anV : An → Value
  | .nil => .nilIface
  | .int i => .iface 2 (.int .i64 i)
  | .bool b => .iface 4 (.bool b)
  | .text t => .iface 9 (.string ⟨t.toArray⟩)
def bitI (b : Bool) : Int := if b then 1 else 0
/-! ### To -/
def toA (ty : Int) (c : Cl) : An := if c.null then .nil else if ty = 1 then .int c.num else if ty = 2 then .bool (c.num != 0) else if ty = 3 then .text c.txt else .nil
set_option maxHeartbeats 1000000 in
theorem ato_any (ty : Int) (c : Cl) (w : World) : Calls Tryz.prog 94 #[.int .i64 ty, clV c] w fun e w' => e = .returned (anV (toA ty c)) ∧ Fr Non w w' := by
  obtain ⟨n, i, t⟩ := c
  unfold clV clC
  cases n
  · by_cases h1 : ty = 1
    · subst h1
      go_enter Tryz.func94, Tryz.ntmps94
      go_wp2
      go_ret
      exact ⟨rfl, (Fr.refl _ _).alloc _⟩
    · by_cases h2 : ty = 2
      · subst h2
        generalize hb : (i != 0) = b
        have HA : Hid (toA 2 ⟨false, i, t⟩ = .bool b) := Lib.hid (by rw [← hb]; rfl)
        go_enter Tryz.func94, Tryz.ntmps94
        go_wp2
        go_ret
        exact ⟨by rw [HA.out]; rfl, (Fr.refl _ _).alloc _⟩
      · by_cases h3 : ty = 3
        · subst h3
          go_enter Tryz.func94, Tryz.ntmps94
          go_wp2
          go_ret
          exact ⟨rfl, (Fr.refl _ _).alloc _⟩
        · have HA : Hid (toA ty ⟨false, i, t⟩ = .nil) := Lib.hid (by simp [toA, h1, h2, h3])
          go_enter Tryz.func94, Tryz.ntmps94
          go_wp2
          go_ret
          exact ⟨by rw [HA.out]; rfl, (Fr.refl _ _).alloc _⟩
  · go_enter Tryz.func94, Tryz.ntmps94
    go_wp2
    go_ret
    exact ⟨rfl, (Fr.refl _ _).alloc _⟩
end Go.Proofs.YtjcfjjhhbcgcmaaGreat


namespace Go.Proofs.YtjcfjjhhbcgcmaaGreat
set_option linter.unusedVariables false
set_option linter.unusedSimpArgs false
set_option maxRecDepth 100000
open Go.RowKit

def agrI (op n : Int) : Bool := if op = 1 then n == 0 else if op = 2 then n != 0 else if op = 3 then decide (n < 0) else if op = 4 then decide (n ≤ 0) else if op = 5 then decide (0 < n) else decide (0 ≤ n)
def yesI (b : Bool) : Int := if b then 1 else 0
def notI (t : Int) : Int := if t = 1 then 0 else if t = 0 then 1 else 2
/-- one that decides, if it is there; else the unknown, if it is there; else the other -/
def chnI (s k : Int) (l : List Int) : Int := if s ∈ l then s else if (2 : Int) ∈ l then 2 else k
/-- the row's cell in that column -/
def cellN (cols : List Co) (row : List Cl) (n : Tx) : Cl := match findC cols n with | some k => row.getD k zCl | none => zCl
def cmpR (op : Int) (c v : Cl) : Int := if c.null then 2 else yesI (agrI op (ordC c v))
def likR (c : Cl) (p : Tx) : Int := if c.null then 2 else yesI (matchU p c.txt)
def truH (cols : List Co) (row : List Cl) (h : Ph) (ts : List Int) : Int :=
  if h.op = 2 then cmpR h.cmp (cellN cols row h.col) h.val
  else if h.op = 3 then yesI (cellN cols row h.col).null
  else if h.op = 4 then likR (cellN cols row h.col) h.pat
  else if h.op = 5 then notI (ts.headD 0)
  else if h.op = 6 then chnI 0 1 ts
  else if h.op = 7 then chnI 1 0 ts
  else 1
mutual
def truP (cols : List Co) (row : List Cl) : Pd → Int | .mk h ks => truH cols row h (truL cols row ks)
def truL (cols : List Co) (row : List Cl) : List Pd → List Int | [] => [] | k :: r => truP cols row k :: truL cols row r
end
theorem truL_map (cols : List Co) (row : List Cl) (l : List Pd) : truL cols row l = l.map (truP cols row) := by
  induction l with
  | nil => rfl
  | cons k r ih => rw [truL, ih]; rfl
theorem tru_is (cols : List Co) (row : List Cl) (h : Ph) (ks : List Pd) : truP cols row (.mk h ks) = truH cols row h (ks.map (truP cols row)) := by rw [truP, truL_map]
/-! ### One by one -/
theorem chn_at {s k : Int} {l : List Int} {j : Nat} (h : j < l.length) (e : l[j] = s) : chnI s k l = s := by
  unfold chnI; rw [if_pos (by rw [← e]; exact List.getElem_mem h)]
/-- so far: the one that decides isn't there, and which it is -/
def ChnTo (s k : Int) (l : List Int) (j : Nat) (is : Int) : Prop := s ∉ l.take j ∧ is = if (2 : Int) ∈ l.take j then 2 else k
theorem chn_start (s k : Int) (l : List Int) : ChnTo s k l 0 k := ⟨by simp, by simp⟩
theorem take_mem {l : List Int} {j : Nat} (h : j < l.length) (x : Int) : x ∈ l.take (j + 1) ↔ x ∈ l.take j ∨ x = l[j] := by
  rw [List.take_add_one, List.getElem?_eq_getElem h, List.mem_append]; simp
theorem chn_more {s k : Int} {l : List Int} {j : Nat} {is : Int} (h : ChnTo s k l j is) (hj : j < l.length) (h1 : l[j] ≠ s) : ChnTo s k l (j + 1) (if l[j] = 2 then 2 else is) := by
  refine ⟨fun e => ?_, ?_⟩
  · rcases (take_mem hj s).1 e with e | e
    · exact h.1 e
    · exact h1 e.symm
  · rw [h.2]
    by_cases h2 : l[j] = 2
    · rw [if_pos h2, if_pos ((take_mem hj 2).2 (.inr h2.symm))]
    · rw [if_neg h2]
      by_cases h3 : (2 : Int) ∈ l.take j
      · rw [if_pos h3, if_pos ((take_mem hj 2).2 (.inl h3))]
      · rw [if_neg h3, if_neg]
        intro e
        rcases (take_mem hj 2).1 e with e | e
        · exact h3 e
        · exact h2 e.symm
theorem chn_end {s k : Int} {l : List Int} {j : Nat} {is : Int} (h : ChnTo s k l j is) (hj : l.length ≤ j) : chnI s k l = is := by
  obtain ⟨h1, h2⟩ := h
  rw [List.take_of_length_le hj] at h1 h2
  unfold chnI
  rw [if_neg h1, h2]
/-! ### What fits, and a row that may be -/
theorem row_at {cols : List Co} {row : List Cl} (h : rowB cols row = true) : cols.length = row.length ∧ ∀ j (h : j < cols.length) (h2 : j < row.length), mayC cols[j].ty cols[j].nl row[j] = true := of_decide_eq_true h
theorem hd_ways {h : Ph} {ks : List Pd} (e : hdOk h ks = true) :
    (h.op = 1 ∧ ks.length = 0 ∧ h.col = []) ∨ ((h.op = 2 ∨ h.op = 3 ∨ h.op = 4) ∧ ks.length = 0 ∧ askOk h = true) ∨ (h.op = 5 ∧ ks.length = 1 ∧ h.col = []) ∨ ((h.op = 6 ∨ h.op = 7) ∧ 1 < ks.length ∧ h.col = []) := by
  have bare : bareH h = true → h.col = [] := fun hb => by
    have := of_decide_eq_true hb
    rw [this]
  unfold hdOk at e
  split at e
  · rename_i h1
    rw [Bool.and_eq_true, decide_eq_true_eq] at e
    exact .inl ⟨h1, e.1, bare e.2⟩
  split at e
  · rename_i h1
    rw [Bool.and_eq_true, decide_eq_true_eq] at e
    exact .inr (.inl ⟨h1, e.1, e.2⟩)
  split at e
  · rename_i h1
    rw [Bool.and_eq_true, decide_eq_true_eq] at e
    exact .inr (.inr (.inl ⟨h1, e.1, bare e.2⟩))
  split at e
  · rename_i h1
    rw [Bool.and_eq_true, Bool.and_eq_true, decide_eq_true_eq] at e
    exact .inr (.inr (.inr ⟨h1, e.1.1, bare e.1.2⟩))
  · cases e
theorem one_kids {h : Ph} {ks : List Pd} (e : oneP (.mk h ks) = true) : hdOk h ks = true ∧ ∀ k ∈ ks, oneP k = true := by
  rw [oneP, Bool.and_eq_true, oneL_all] at e
  exact ⟨e.1, List.all_eq_true.1 e.2⟩
theorem typ_kids {cols : List Co} {h : Ph} {ks : List Pd} (e : typP cols (.mk h ks) = true) : okT cols h = true ∧ ∀ k ∈ ks, typP cols k = true := by
  rw [typP, Bool.and_eq_true, typL_all] at e
  exact ⟨e.1, List.all_eq_true.1 e.2⟩
theorem name_some {n : Tx} (h : nameB n = true) : n ≠ [] := by
  rintro rfl
  revert h
  decide
/-- one that asks of a column: the column is there, of the right type -/
theorem ask_col {cols : List Co} {row : List Cl} {h : Ph} (ho : h.op = 2 ∨ h.op = 3 ∨ h.op = 4) (ha : askOk h = true) (ht : okT cols h = true) (hr : rowB cols row = true) :
    h.col ≠ [] ∧ ∃ (k : Nat) (h1 : k < cols.length) (h2 : k < row.length), findC cols h.col = some k ∧ cellN cols row h.col = row[k] ∧ mayC cols[k].ty cols[k].nl row[k] = true ∧
      (h.op = 2 → cols[k].ty = h.kind ∧ mayC h.kind false h.val = true) ∧ (h.op = 4 → cols[k].ty = 3) := by
  obtain ⟨hl, hm⟩ := row_at hr
  unfold askOk at ha
  rw [Bool.and_eq_true] at ha
  have hne := name_some ha.1
  refine ⟨hne, ?_⟩
  unfold okT at ht
  rw [if_neg hne] at ht
  split at ht
  · cases ht
  · rename_i k hk
    have h1 := find_lt hk
    have h2 : k < row.length := by omega
    rw [List.getElem?_eq_getElem h1] at ht
    dsimp only at ht
    refine ⟨k, h1, h2, hk, ?_, hm k h1 h2, ?_, ?_⟩
    · unfold cellN; rw [hk]; dsimp only; rw [List.getD_eq_getElem?_getD, List.getElem?_eq_getElem h2]; rfl
    · intro e
      rw [if_pos e] at ht
      have ha2 := ha.2
      rw [if_pos e, Bool.and_eq_true, Bool.and_eq_true] at ha2
      exact ⟨by simpa using ht, ha2.1.2⟩
    · intro e
      rw [if_neg (by omega), if_pos e] at ht
      simpa using ht

/-! ### The orders of two values -/
def anO : An → An → Int
  | .int i, .int j => cmpI i j
  | .bool a, .bool b => cmpI (bitI a) (bitI b)
  | .text s, .text t => cmpT s t
  | _, _ => 0
theorem cmpI_self (i : Int) : cmpI i i = 0 := by unfold cmpI; rw [if_neg (by omega), if_neg (by omega)]
theorem bit_one {i : Int} (h : i = 0 ∨ i = 1) : bitI (i != 0) = i := by rcases h with rfl | rfl <;> rfl
/-- of one type, and neither is null: two that stand together, as their cells do -/
inductive AnT : An → An → Prop
  | int (i j : Int) : AnT (.int i) (.int j)
  | bool (a b : Bool) : AnT (.bool a) (.bool b)
  | text (s t : Tx) : AnT (.text s) (.text t)
theorem an_two {ty : Int} {nl ml : Bool} {c v : Cl} (hc : mayC ty nl c = true) (hv : mayC ty ml v = true) (nc : c.null = false) (nv : v.null = false) : AnT (toA ty c) (toA ty v) ∧ anO (toA ty c) (toA ty v) = ordC c v := by
  unfold mayC at hc hv
  unfold toA
  rw [ordC_null (by rw [nc, nv])]
  rw [nc] at hc ⊢
  rw [nv] at hv ⊢
  simp only [Bool.false_eq_true, if_false, Bool.and_eq_true] at hc hv ⊢
  obtain ⟨ht, hc⟩ := hc
  obtain ⟨_, hv⟩ := hv
  unfold isTy at ht
  simp only [Bool.or_eq_true, beq_iff_eq] at ht
  rcases ht with (rfl | rfl) | rfl
  · rw [if_neg (by decide)] at hc hv
    rw [Bool.and_eq_true] at hc hv
    have e1 : c.txt = [] := by simpa using hc.1
    have e2 : v.txt = [] := by simpa using hv.1
    rw [if_pos rfl, if_pos rfl, e1, e2]
    refine ⟨.int _ _, ?_⟩
    show cmpI c.num v.num = _
    split
    · rename_i e; rw [e, cmpI_self, cmpT_self]
    · rfl
  · rw [if_neg (by decide)] at hc hv
    rw [Bool.and_eq_true] at hc hv
    have e1 : c.txt = [] := by simpa using hc.1
    have e2 : v.txt = [] := by simpa using hv.1
    have b1 : c.num = 0 ∨ c.num = 1 := by simpa using hc.2
    have b2 : v.num = 0 ∨ v.num = 1 := by simpa using hv.2
    rw [if_neg (by decide), if_pos rfl, if_neg (by decide), if_pos rfl, e1, e2]
    refine ⟨.bool _ _, ?_⟩
    show cmpI (bitI (c.num != 0)) (bitI (v.num != 0)) = _
    rw [bit_one b1, bit_one b2]
    split
    · rename_i e; rw [e, cmpI_self, cmpT_self]
    · rfl
  · rw [if_pos rfl] at hc hv
    rw [Bool.and_eq_true] at hc hv
    have e1 : c.num = 0 := by simpa using hc.1
    have e2 : v.num = 0 := by simpa using hv.1
    rw [if_neg (by decide), if_neg (by decide), if_pos rfl, if_neg (by decide), if_neg (by decide), if_pos rfl, e1, e2, if_pos rfl]
    exact ⟨.text _ _, rfl⟩
theorem may_null {ty : Int} {c : Cl} (h : mayC ty false c = true) : c.null = false := by
  unfold mayC at h
  cases e : c.null
  · rfl
  · rw [e] at h; simp at h
theorem toA_null {ty : Int} {c : Cl} (h : c.null = true) : toA ty c = .nil := by unfold toA; rw [if_pos h]
theorem mayC_text {nl : Bool} {c : Cl} (h : mayC 3 nl c = true) : c.txt.length ≤ 40 := by
  unfold mayC at h
  cases e : c.null
  · rw [e] at h; simp at h; exact h.2.2
  · rw [e] at h; simp at h
    rw [h.2.2.2]; simp

/-! ### Of a row, of rows -/
def plcI (cols : List Co) (p : Pd) (rows : List (List Cl)) (n : Nat) : List Int := ((List.range n).filter fun i => truP cols (rows.getD i []) p == 1).map fun (i : Nat) => (i : Int)
theorem plc_yes {cols : List Co} {p : Pd} {rows : List (List Cl)} {n : Nat} (h : n < rows.length) (e : truP cols rows[n] p = 1) : plcI cols p rows (n + 1) = plcI cols p rows n ++ [(n : Int)] := by
  unfold plcI
  rw [List.range_succ, List.filter_append, List.map_append]
  congr 1
  rw [List.filter_cons, if_pos (by rw [List.getD_eq_getElem?_getD, List.getElem?_eq_getElem h]; simpa using e)]; rfl
theorem plc_no {cols : List Co} {p : Pd} {rows : List (List Cl)} {n : Nat} (h : n < rows.length) (e : truP cols rows[n] p ≠ 1) : plcI cols p rows (n + 1) = plcI cols p rows n := by
  unfold plcI
  rw [List.range_succ, List.filter_append, List.map_append]
  have : ([n].filter fun i => truP cols (rows.getD i []) p == 1) = [] := by
    rw [List.filter_cons, if_neg (by rw [List.getD_eq_getElem?_getD, List.getElem?_eq_getElem h]; simpa using e)]; rfl
  rw [this]; simp
theorem plcI_len (cols : List Co) (p : Pd) (rows : List (List Cl)) (n : Nat) : (plcI cols p rows n).length ≤ n := by
  unfold plcI
  rw [List.length_map]
  have := List.length_filter_le (fun i => truP cols (rows.getD i []) p == 1) (List.range n)
  rw [List.length_range] at this
  exact this
def rowsE (cols : List Co) (p : Pd) (rows : List (List Cl)) : List Int × Int := if fitP cols p = 0 then (if rows.all (rowB cols) = true then (plcI cols p rows rows.length, 0) else ([], 10)) else ([], fitP cols p)
theorem rowsE_bad {cols : List Co} {p : Pd} {rows : List (List Cl)} (h : fitP cols p ≠ 0) : rowsE cols p rows = ([], fitP cols p) := by unfold rowsE; rw [if_neg h]
theorem rowsE_type {cols : List Co} {p : Pd} {rows : List (List Cl)} {k : Nat} (h : fitP cols p = 0) (hk : k < rows.length) (hr : rowB cols rows[k] = false) : rowsE cols p rows = ([], 10) := by
  unfold rowsE; rw [if_pos h, if_neg]
  rw [List.all_eq_true]
  intro e
  have := e _ (List.getElem_mem hk)
  rw [hr] at this; cases this
theorem rowsE_ok {cols : List Co} {p : Pd} {rows : List (List Cl)} {k : Nat} (h : fitP cols p = 0) (hk : rows.length ≤ k) (hr : ∀ j (h : j < rows.length), j < k → rowB cols rows[j] = true) : rowsE cols p rows = (plcI cols p rows rows.length, 0) := by
  unfold rowsE; rw [if_pos h, if_pos]
  rw [List.all_eq_true]
  intro x hx
  obtain ⟨j, hj, rfl⟩ := List.mem_iff_getElem.1 hx
  exact hr j hj (by omega)
theorem rows_more {cols : List Co} {rows : List (List Cl)} {k : Nat} (hr : ∀ j (h : j < rows.length), j < k → rowB cols rows[j] = true) (hk : k < rows.length) (e : rowB cols rows[k] = true) : ∀ j (h : j < rows.length), j < k + 1 → rowB cols rows[j] = true := by
  intro j hj hlt
  by_cases e2 : j = k
  · subst e2; exact e
  · exact hr j hj (by omega)
theorem fit_zero {cols : List Co} {p : Pd} (h : fitP cols p = 0) : chkC cols = 0 ∧ oneP p = true ∧ typP cols p = true := by
  unfold fitP at h
  split at h
  · cases h
  · rename_i h1
    split at h
    · rename_i h2
      refine ⟨Classical.byContradiction fun e => h1 (.inr e), ?_, h2⟩
      have hm : mayP p = true := by
        cases e : mayP p
        · exact absurd (.inl e) h1
        · rfl
      unfold mayP at hm
      rw [Bool.and_eq_true] at hm
      exact hm.2
    · cases h

/-! ### Nots -/
end Go.Proofs.YtjcfjjhhbcgcmaaGreat


namespace Go.Proofs.YtjcfjjhhbcgcmaaGreat
set_option linter.unusedVariables false
set_option linter.unusedSimpArgs false
set_option maxRecDepth 100000
open Go.RowKit

/-! ### Unlike cells, rising -/
def Rise : List Cl → Prop
  | [] => True
  | a :: l => (∀ b ∈ l, ordC a b < 0) ∧ Rise l
theorem ordC_lt {a b c : Cl} (h1 : ordC a b < 0) (h2 : ordC b c < 0) : ordC a c < 0 := by
  have h3 := ordC_trans (show ordC a b ≤ 0 by omega) (show ordC b c ≤ 0 by omega)
  by_cases e : ordC a c = 0
  · have e1 : a = c := by have := ordC_zero a c; rw [e] at this; exact ceq_is this.symm
    subst e1
    have := ordC_neg a b
    omega
  · omega
theorem ordC_irr (a : Cl) : ¬ ordC a a < 0 := by rw [ordC_self]; omega
/-- there is one such list of cells -/
theorem rise_uniq : ∀ {l m : List Cl}, Rise l → Rise m → (∀ c, c ∈ l ↔ c ∈ m) → l = m
  | [], [], _, _, _ => rfl
  | [], b :: m, _, _, h => by have := (h b).2 (List.mem_cons_self ..); cases this
  | a :: l, [], _, _, h => by have := (h a).1 (List.mem_cons_self ..); cases this
  | a :: l, b :: m, h1, h2, h => by
    have hab : a = b := by
      rcases List.mem_cons.1 ((h a).1 (List.mem_cons_self ..)) with e | e
      · exact e
      · rcases List.mem_cons.1 ((h b).2 (List.mem_cons_self ..)) with e2 | e2
        · exact e2.symm
        · exact absurd (ordC_lt (h1.1 b e2) (h2.1 a e)) (ordC_irr a)
    subst hab
    have ht : l = m := rise_uniq h1.2 h2.2 (fun c => ⟨fun hc => by
      rcases List.mem_cons.1 ((h c).1 (List.mem_cons_of_mem _ hc)) with e | e
      · exact absurd (h1.1 c hc) (by rw [e]; exact ordC_irr a)
      · exact e, fun hc => by
      rcases List.mem_cons.1 ((h c).2 (List.mem_cons_of_mem _ hc)) with e | e
      · exact absurd (h2.1 c hc) (by rw [e]; exact ordC_irr a)
      · exact e⟩)
    rw [ht]
/-- one put where it belongs, if it is not there -/
def insK (c : Cl) : List Cl → List Cl
  | [] => [c]
  | a :: l => if ordC a c < 0 then a :: insK c l else if ceq a c = true then a :: l else c :: a :: l
theorem insK_mem (c d : Cl) (l : List Cl) : d ∈ insK c l ↔ d = c ∨ d ∈ l := by
  induction l with
  | nil => simp [insK]
  | cons a l ih =>
    rw [insK]
    split
    · rw [List.mem_cons, ih, List.mem_cons]
      constructor
      · rintro (e | e | e)
        · exact .inr (.inl e)
        · exact .inl e
        · exact .inr (.inr e)
      · rintro (e | e | e)
        · exact .inr (.inl e)
        · exact .inl e
        · exact .inr (.inr e)
    · split
      · rename_i h
        have := ceq_is h
        subst this
        constructor
        · exact .inr
        · rintro (e | e)
          · rw [e]; exact List.mem_cons_self ..
          · exact e
      · exact List.mem_cons
theorem insK_rise (c : Cl) {l : List Cl} (h : Rise l) : Rise (insK c l) := by
  induction l with
  | nil => exact ⟨fun b hb => (by cases hb), trivial⟩
  | cons a l ih =>
    rw [insK]
    split
    · rename_i hac
      refine ⟨fun b hb => ?_, ih h.2⟩
      rcases (insK_mem c b l).1 hb with e | e
      · rw [e]; exact hac
      · exact h.1 b e
    · split
      · exact h
      · rename_i h1 h2
        have hz : ordC a c ≠ 0 := fun e => h2 (by have := ordC_zero a c; rw [e] at this; exact this.symm)
        have hca : ordC c a < 0 := by have := ordC_neg a c; omega
        refine ⟨fun b hb => ?_, h⟩
        rcases List.mem_cons.1 hb with e | e
        · rw [e]; exact hca
        · exact ordC_lt hca (h.1 b e)
def keysC (L : List Cl) : List Cl := L.foldl (fun ks c => insK c ks) []
theorem keys_from (L ks : List Cl) (h : Rise ks) : Rise (L.foldl (fun ks c => insK c ks) ks) ∧ ∀ c, c ∈ L.foldl (fun ks c => insK c ks) ks ↔ c ∈ L ∨ c ∈ ks := by
  induction L generalizing ks with
  | nil => exact ⟨h, fun c => by simp⟩
  | cons a L ih =>
    rw [List.foldl_cons]
    obtain ⟨h1, h2⟩ := ih (insK a ks) (insK_rise a h)
    refine ⟨h1, fun c => ?_⟩
    rw [h2, insK_mem, List.mem_cons]
    constructor
    · rintro (e | e | e)
      · exact .inl (.inr e)
      · exact .inl (.inl e)
      · exact .inr e
    · rintro ((e | e) | e)
      · exact .inr (.inl e)
      · exact .inl e
      · exact .inr (.inr e)
theorem keys_rise (L : List Cl) : Rise (keysC L) := (keys_from L [] trivial).1
theorem keys_mem (L : List Cl) (c : Cl) : c ∈ keysC L ↔ c ∈ L := by
  have := (keys_from L [] trivial).2 c
  unfold keysC
  rw [this]; simp
theorem keys_uniq {L ks : List Cl} (h : Rise ks) (hm : ∀ c, c ∈ ks ↔ c ∈ L) : ks = keysC L := rise_uniq h (keys_rise L) (fun c => (hm c).trans (keys_mem L c).symm)
theorem rise_at {l : List Cl} (h : Rise l) {j k : Nat} (hjk : j < k) (hk : k < l.length) : ordC (l[j]'(Nat.lt_trans hjk hk)) l[k] < 0 := by
  induction l generalizing j k with
  | nil => cases hk
  | cons a l ih =>
    cases k with
    | zero => omega
    | succ k =>
      cases j with
      | zero => exact h.1 _ (List.getElem_mem _)
      | succ j => exact ih h.2 (by omega) (by simpa using hk)

/-! ### What is answered -/
def whrG (cols : List Co) (q : Qy) (rows : List (List Cl)) : List (List Cl) := rows.filter fun r => truP cols r q.whr == 1
/-- an aggregate, aggregates of rows -/
def agC (cols : List Co) (rows : List (List Cl)) (a : Ag) : Cl := valF a.op (foC (rows.map fun r => cellN cols r a.col))
def valsG (cols : List Co) (q : Qy) (rows : List (List Cl)) : List Cl := q.aggs.map (agC cols rows)
def plainG (cols : List Co) (q : Qy) (rows : List (List Cl)) : List (List Cl) := rows.map fun r => if q.cols.length = 0 then r else q.cols.map fun n => cellN cols r n
/-- the rows that have a cell -/
def mineG (cols : List Co) (n : Tx) (rows : List (List Cl)) (c : Cl) : List (List Cl) := rows.filter fun r => ceq (cellN cols r n) c
def keysG (cols : List Co) (n : Tx) (rows : List (List Cl)) : List Cl := keysC (rows.map fun r => cellN cols r n)
def byG (cols : List Co) (q : Qy) (rows : List (List Cl)) : List (List Cl) := (keysG cols q.by_ rows).map fun c => c :: valsG cols q (mineG cols q.by_ rows c)
def answG (cols : List Co) (q : Qy) (rows : List (List Cl)) : List (List Cl) := if q.aggs.length = 0 then plainG cols q rows else if q.by_ = [] then [valsG cols q rows] else byG cols q rows
def ansE (cols : List Co) (q : Qy) (rows : List (List Cl)) : List (List Cl) × Int := if fitQ cols q = 0 then (if rows.all (rowB cols) = true then (answG cols q (whrG cols q rows), 0) else ([], 10)) else ([], fitQ cols q)
/-! ### All groups' counts together -/
def cntK (f : List Cl → Cl) (rows : List (List Cl)) (c : Cl) : Nat := (rows.filter fun r => ceq (f r) c).length
def totK (f : List Cl → Cl) (rows : List (List Cl)) : List Cl → Nat
  | [] => 0
  | c :: ks => cntK f rows c + totK f rows ks
theorem totK_nil (f : List Cl → Cl) (ks : List Cl) : totK f [] ks = 0 := by
  induction ks with
  | nil => rfl
  | cons c ks ih => rw [totK, ih]; rfl
theorem cntK_cons (f : List Cl → Cl) (r : List Cl) (rows : List (List Cl)) (c : Cl) : cntK f (r :: rows) c = (if ceq (f r) c = true then 1 else 0) + cntK f rows c := by
  unfold cntK
  rw [List.filter_cons]
  split
  · rw [List.length_cons]; omega
  · omega
theorem totK_none (f : List Cl → Cl) (r : List Cl) (rows : List (List Cl)) {ks : List Cl} (h : f r ∉ ks) : totK f (r :: rows) ks = totK f rows ks := by
  induction ks with
  | nil => rfl
  | cons c ks ih =>
    rw [totK, totK, ih (fun e => h (List.mem_cons_of_mem _ e)), cntK_cons, if_neg (fun e => h (by rw [ceq_is e]; exact List.mem_cons_self ..))]
    omega
theorem totK_one (f : List Cl → Cl) (r : List Cl) (rows : List (List Cl)) {ks : List Cl} (hr : Rise ks) (h : f r ∈ ks) : totK f (r :: rows) ks = totK f rows ks + 1 := by
  induction ks with
  | nil => cases h
  | cons c ks ih =>
    rw [totK, totK, cntK_cons]
    by_cases e : f r = c
    · have hn : f r ∉ ks := fun hm => ordC_irr c (by have := hr.1 _ hm; rwa [e] at this)
      rw [totK_none f r rows hn, if_pos (by rw [e]; exact ceq_self c)]
      omega
    · have hm : f r ∈ ks := by
        rcases List.mem_cons.1 h with e2 | e2
        · exact absurd e2 e
        · exact e2
      rw [ih hr.2 hm, if_neg (fun e2 => e (ceq_is e2))]
      omega
theorem totK_all (f : List Cl → Cl) (rows : List (List Cl)) {ks : List Cl} (hr : Rise ks) (h : ∀ r ∈ rows, f r ∈ ks) : totK f rows ks = rows.length := by
  induction rows with
  | nil => exact totK_nil f ks
  | cons r rows ih =>
    rw [totK_one f r rows hr (h r (List.mem_cons_self ..)), ih (fun x hx => h x (List.mem_cons_of_mem _ hx)), List.length_cons]
theorem keys_total (cols : List Co) (n : Tx) (rows : List (List Cl)) : totK (fun r => cellN cols r n) rows (keysG cols n rows) = rows.length :=
  totK_all _ _ (keys_rise _) (fun r hr => (keys_mem _ _).2 (List.mem_map.2 ⟨r, hr, rfl⟩))
theorem keys_some (cols : List Co) (n : Tx) (rows : List (List Cl)) {c : Cl} (h : c ∈ keysG cols n rows) : 1 ≤ cntK (fun r => cellN cols r n) rows c := by
  obtain ⟨r, hr, e⟩ := List.mem_map.1 ((keys_mem _ _).1 h)
  have : r ∈ rows.filter fun r => ceq (cellN cols r n) c := by
    rw [List.mem_filter]; exact ⟨hr, by rw [e]; exact ceq_self c⟩
  exact List.length_pos_of_mem this
/-- the sum of the first so many groups' counts -/
theorem totK_take (f : List Cl → Cl) (rows : List (List Cl)) {ks : List Cl} {k : Nat} (h : k < ks.length) : totK f rows (ks.take (k + 1)) = totK f rows (ks.take k) + cntK f rows ks[k] := by
  induction ks generalizing k with
  | nil => cases h
  | cons c ks ih =>
    cases k with
    | zero => rw [List.take_succ_cons, List.take_zero, List.take_zero, totK, totK]; simp [totK]
    | succ k =>
      rw [List.take_succ_cons, List.take_succ_cons, totK, totK, ih (by simpa using h), List.getElem_cons_succ]
      omega
theorem totK_le (f : List Cl → Cl) (rows : List (List Cl)) (ks : List Cl) (k : Nat) : totK f rows (ks.take k) ≤ totK f rows ks := by
  induction ks generalizing k with
  | nil => simp
  | cons c ks ih =>
    cases k with
    | zero => rw [List.take_zero]; exact Nat.zero_le _
    | succ k => rw [List.take_succ_cons, totK, totK]; have := ih k; omega
theorem agC_count (cols : List Co) (rows : List (List Cl)) : agC cols rows ⟨1, []⟩ = ⟨false, rows.length, []⟩ := by
  unfold agC valF
  rw [if_pos rfl, (foC_is _).cnt, List.length_map]

/-! ### An answer's rows are of its types -/
end Go.Proofs.YtjcfjjhhbcgcmaaGreat


namespace Go.Proofs.YtjcfjjhhbcgcmaaGreat
set_option linter.unusedVariables false
set_option linter.unusedSimpArgs false
set_option maxRecDepth 100000
open Go.RowKit

theorem insK_len (c : Cl) (ks : List Cl) : (insK c ks).length ≤ ks.length + 1 := by
  induction ks with
  | nil => simp [insK]
  | cons a ks ih =>
    rw [insK]
    split
    · simp; exact ih
    · split
      · simp
      · simp
theorem keys_len (L : List Cl) : (keysC L).length ≤ L.length := by
  have from_ : ∀ (L ks : List Cl), (L.foldl (fun ks c => insK c ks) ks).length ≤ ks.length + L.length := by
    intro L
    induction L with
    | nil => intro ks; simp
    | cons a L ih => intro ks; rw [List.foldl_cons]; have := ih (insK a ks); have := insK_len a ks; rw [List.length_cons]; omega
  have := from_ L []
  unfold keysC
  simpa using this
end Go.Proofs.YtjcfjjhhbcgcmaaGreat


namespace Go.Proofs.YtjcfjjhhbcgcmaaGreat
set_option linter.unusedVariables false
set_option linter.unusedSimpArgs false
set_option maxRecDepth 100000
open Go.RowKit

/-- append of a slice of cells onto a row of the call's own: the operation alone -/
theorem wp_appC {w : World} {o : Oper} {a : Act} {K : Act → World → Prop} {Q : Exit → Act → World → Prop} (s x : Operand)
    (ho : o.op = .call { callee := .builtin .append, args := #[s, x], argTypes := #[47, 47] })
    (B : Nat) (v y : Value) (l m : List Cl) (hs : a.eval s = v) (hown : Oc w B v l) (hx : a.eval x = y) (hy : Cs w y m)
    (hl : l.length + m.length < 4398046511104) (hB : B ≤ w.heap.size)
    (h : ∀ v' w', Oc w' B v' (l ++ m) → Fr (fun k => v.ownBlock = some k) w w' → K (a.put o.dst v') w') : o.wp Tryz.prog a w K Q := by
  obtain ⟨ii, hi, hz0, hz1, hz2⟩ := info_parts info_cl
  obtain ⟨A, c, rfl, hmc, hn, hcells⟩ := hy
  cases A with
  | some ad =>
    refine wp_append_own w s x _ ho B 25 ii _ 3 32 Tryz.underlying47 hi hz0 hz1 hz2 rfl (by omega) v l.length (clsL l) hs hown ad m.length c (clsL m) hx (clsL_len m) ?_ (clsL_one' m) (by unfold maxLen; omega) (by omega) hB ?_
    · intro j u hu
      have hj : j < m.length * 3 := by rw [← clsL_len]; exact (List.getElem?_eq_some_iff.1 hu).1
      have hat := clsL_at m (j / 3) (j % 3) (by omega) (Nat.mod_lt _ (by omega))
      rw [show j / 3 * 3 + j % 3 = j by omega, hu] at hat
      have h3 := hcells ad rfl (j / 3) (by omega)
      have e : ad.add j = (ad.add (j / 3 * 3)).add (j % 3) := by rw [add_add, show j / 3 * 3 + j % 3 = j by omega]
      rw [e]
      have hm : j % 3 = 0 ∨ j % 3 = 1 ∨ j % 3 = 2 := by omega
      rcases hm with hm | hm | hm <;> rw [hm] at hat ⊢
      · have := h3.c0; simp [clL] at hat; rw [hat, show ∀ p : Addr, p.add 0 = p from fun p => by simp [Addr.add]]; exact this
      · have := h3.c1; simp [clL] at hat; rw [hat]; exact this
      · have := h3.c2; simp [clL] at hat; rw [hat]; exact this
    · intro v' w' h1 h2 _
      refine h v' w' ?_ (Fr.of_grown h2)
      unfold Oc
      rw [clsL_app, List.length_append]
      exact h1
  | none =>
    have hm : m = [] := List.eq_nil_of_length_eq_zero (by have := hn rfl; omega)
    subst hm
    have hc : c = 0 := hn rfl
    subst hc
    have hrun := run_append_owned_none (P := Tryz.prog) (w := w) B 47 o.type 25 ii 3 Tryz.underlying47 hi v l.length (clsL l) hown
    unfold Oper.wp
    have hx' : a.eval x = .slice none 0 0 := hx
    simp [execOp, ho, resolve, invoke, builtin, hs, hx', hrun, Result.andThen]
    exact h v w (by simpa using hown) (Fr.refl _ _)
end Go.Proofs.YtjcfjjhhbcgcmaaGreat


namespace Go.Proofs.YtjcfjjhhbcgcmaaGreat
set_option linter.unusedVariables false
set_option linter.unusedSimpArgs false
set_option maxRecDepth 100000
open Go.RowKit

def colC (rows : List (List Cl)) (i : Nat) : List Cl := rows.map fun r => r.getD i noCl
theorem colC_length (rows : List (List Cl)) (i : Nat) : (colC rows i).length = rows.length := by simp [colC]
end Go.Proofs.YtjcfjjhhbcgcmaaGreat


namespace Go.Proofs.YtjcfjjhhbcgcmaaGreat
set_option linter.unusedVariables false
set_option linter.unusedSimpArgs false
set_option maxRecDepth 100000
open Go.RowKit

theorem colC_at (rs : List (List Cl)) (p k : Nat) (h : k < rs.length) (hp : p < rs[k].length) : (colC rs p)[k]? = some rs[k][p] := by
  unfold colC
  rw [List.getElem?_map, List.getElem?_eq_getElem h]
  simp [hp]
theorem colC_take (rs : List (List Cl)) (p k : Nat) (h : k < rs.length) (hp : p < rs[k].length) : (colC rs p).take (k + 1) = (colC rs p).take k ++ [rs[k][p]] := by
  have hl : k < (colC rs p).length := by rw [colC_length]; exact h
  rw [List.take_succ_eq_append_getElem hl]
  have := colC_at rs p k h hp
  rw [List.getElem?_eq_getElem hl] at this
  rw [Option.some.inj this]

end Go.Proofs.YtjcfjjhhbcgcmaaGreat


namespace Go.Proofs.YtjcfjjhhbcgcmaaGreat
set_option linter.unusedVariables false
set_option linter.unusedSimpArgs false
set_option maxRecDepth 100000
open Go.RowKit

/-- a cell of an old block, in a world behind -/
theorem Fr.at0 {w w' : World} (h : Fr Non w w') {p : Addr} {u : Value} (e : w.cell? p = some u) : w'.cell? p = some u := (h.cell (World.block_lt_of_cell? _ _ e) (fun e => e)).trans e
theorem add_none (a : Addr) : a.add 0 = a := by
  obtain ⟨B, o, e⟩ := a
  cases e <;> rfl
end Go.Proofs.YtjcfjjhhbcgcmaaGreat


namespace Go.Proofs.YtjcfjjhhbcgcmaaGreat
set_option linter.unusedVariables false
set_option linter.unusedSimpArgs false
set_option maxRecDepth 100000
open Go.RowKit

/-- a cell in a block, as a slice of one -/
theorem cs_lit1 {w : World} {g : Nat} {c : Cl} (h : ClB w g c) : Cs w (.slice (some ⟨g, 0, none⟩) 1 1) [c] := by
  refine ⟨some ⟨g, 0, none⟩, 1, rfl, Nat.le_refl _, (fun e => by cases e), fun a ha i hi => ?_⟩
  cases ha
  obtain rfl : i = 0 := by simpa using hi
  obtain ⟨e0, e1, e2, -⟩ := h.facts
  exact ⟨e0, e1, e2⟩

end Go.Proofs.YtjcfjjhhbcgcmaaGreat


namespace Go.Proofs.YtjcfjjhhbcgcmaaGreat
set_option linter.unusedVariables false
set_option linter.unusedSimpArgs false
set_option maxRecDepth 100000
open Go.RowKit

theorem w6_wrap (n : Int) : IntKind.i64.wrap n = w6 n := by rw [IntKind.wrap_i64]; unfold w6; rfl
theorem w6_wrap64 (n : Int) : wrap64 n = w6 n := by unfold wrap64 w6; rfl
end Go.Proofs.YtjcfjjhhbcgcmaaGreat


namespace Go.Proofs.YtjcfjjhhbcgcmaaGreat
set_option linter.unusedVariables false
set_option linter.unusedSimpArgs false
set_option maxRecDepth 100000
open Go.RowKit

/-- a slice's words -/
structure Kv where
  A : Option Addr
  n : Nat
  c : Nat
def kidV (s : Kv) : Value := .slice s.A s.n s.c
def noKv : Kv := ⟨none, 0, 0⟩
/-- a predicate's cells, and its value -/
def pdL (x : Ph × Kv) : List Value := [.int .i64 x.1.op, .string ⟨x.1.col.toArray⟩, .int .i64 x.1.cmp, .bool x.1.val.null, .int .i64 x.1.val.num, .string ⟨x.1.val.txt.toArray⟩, .int .i64 x.1.kind, .string ⟨x.1.pat.toArray⟩, kidV x.2]
def pdC (h : Ph) (s : Kv) : Array Value := #[.int .i64 h.op, .string ⟨h.col.toArray⟩, .int .i64 h.cmp, .bool h.val.null, .int .i64 h.val.num, .string ⟨h.val.txt.toArray⟩, .int .i64 h.kind, .string ⟨h.pat.toArray⟩, kidV s]
def pdV (h : Ph) (s : Kv) : Value := .agg (pdC h s)
/-- as a walk spells them -/
def PCells (w : World) (a : Addr) (h : Ph) (s : Kv) : Prop :=
  w.cell? a = some (.int .i64 h.op) ∧ w.cell? { block := a.block, off := a.off + 1 } = some (.string ⟨h.col.toArray⟩) ∧ w.cell? { block := a.block, off := a.off + 2 } = some (.int .i64 h.cmp) ∧
  w.cell? { block := a.block, off := a.off + 3 } = some (.bool h.val.null) ∧ w.cell? { block := a.block, off := a.off + 4 } = some (.int .i64 h.val.num) ∧ w.cell? { block := a.block, off := a.off + 5 } = some (.string ⟨h.val.txt.toArray⟩) ∧
  w.cell? { block := a.block, off := a.off + 6 } = some (.int .i64 h.kind) ∧ w.cell? { block := a.block, off := a.off + 7 } = some (.string ⟨h.pat.toArray⟩) ∧ w.cell? { block := a.block, off := a.off + 8 } = some (.slice s.A s.n s.c)
theorem pd_lit {w : World} {a : Addr} {h : Ph} {s : Kv} (e : AtN w a (pdL (h, s))) : PCells w a h s :=
  ⟨e 0 _ rfl, e 1 _ rfl, e 2 _ rfl, e 3 _ rfl, e 4 _ rfl, e 5 _ rfl, e 6 _ rfl, e 7 _ rfl, e 8 _ rfl⟩
/-- the predicate lies in block g -/
abbrev PdB (w : World) (g : Nat) (h : Ph) (s : Kv) : Prop := Blk w g 28 (pdC h s)
def PBlk (w : World) (g : Nat) (h : Ph) (s : Kv) : Prop :=
  w.cell? ⟨g, 0, none⟩ = some (.int .i64 h.op) ∧ w.cell? ⟨g, 1, none⟩ = some (.string ⟨h.col.toArray⟩) ∧ w.cell? ⟨g, 2, none⟩ = some (.int .i64 h.cmp) ∧
  w.cell? ⟨g, 3, none⟩ = some (.bool h.val.null) ∧ w.cell? ⟨g, 4, none⟩ = some (.int .i64 h.val.num) ∧ w.cell? ⟨g, 5, none⟩ = some (.string ⟨h.val.txt.toArray⟩) ∧
  w.cell? ⟨g, 6, none⟩ = some (.int .i64 h.kind) ∧ w.cell? ⟨g, 7, none⟩ = some (.string ⟨h.pat.toArray⟩) ∧ w.cell? ⟨g, 8, none⟩ = some (.slice s.A s.n s.c)
theorem pdB_cells {w : World} {g : Nat} {h : Ph} {s : Kv} (e : PdB w g h s) : PBlk w g h s :=
  ⟨e.cell 0, e.cell 1, e.cell 2, e.cell 3, e.cell 4, e.cell 5, e.cell 6, e.cell 7, e.cell 8⟩
theorem pd_new (w : World) (g : Nat) (h : Ph) (s : Kv) (hg : g = w.heap.size) : PdB (w.alloc (.cells (pdC h s) 28)) g h s := by subst hg; exact Blk.new _ _ _
theorem pd2_new (w : World) (g : Nat) (a b : Ph) (s t : Kv) (hg : g = w.heap.size) : PdB ((w.alloc (.cells (pdC a s) 28)).alloc (.cells (pdC b t) 28)) g a s ∧ PdB ((w.alloc (.cells (pdC a s) 28)).alloc (.cells (pdC b t) 28)) (g + 1) b t := by
  subst hg
  refine ⟨(Blk.new _ _ _).fr ((Fr.refl Non _).alloc _) (fun e => e), ?_⟩
  have h : PdB ((w.alloc (.cells (pdC a s) 28)).alloc (.cells (pdC b t) 28)) (w.alloc (.cells (pdC a s) 28)).heap.size b t := Blk.new _ _ _
  rw [show (w.alloc (.cells (pdC a s) 28)).heap.size = w.heap.size + 1 by simp] at h
  exact h

/-! ### Trees -/
/-- the slice s reads as the predicates ps, with all that is within them -/
inductive Kd (w : World) : Kv → List Pd → Prop
  | mk (s : Kv) (ns : List (Ph × Kv)) (ps : List Pd) (hl : ns.length = ps.length) (hN : Ns pdL 9 w (kidV s) ns)
    (hh : ∀ i (h1 : i < ns.length) (h2 : i < ps.length), ns[i].1 = ps[i].hd) (hb : ∀ i (h2 : i < ps.length), I64b ps[i].hd.val.num)
    (hk : ∀ i (h1 : i < ns.length) (h2 : i < ps.length), Kd w ns[i].2 ps[i].kids) : Kd w s ps
theorem Kd.non {w w' : World} {s : Kv} {ps : List Pd} (h : Kd w s ps) (hf : Fr Non w w') : Kd w' s ps := by
  induction h with
  | mk s ns ps hl hN hh hb hk ih => exact .mk s ns ps hl (hN.non hf) hh hb ih
theorem Kd.nil_ (w : World) : Kd w noKv [] := .mk _ [] [] rfl (Ns.nil_ w) (fun i h => by cases h) (fun i h => by cases h) (fun i h => by cases h)
theorem Kd.len {w : World} {s : Kv} {ps : List Pd} (h : Kd w s ps) : s.n = ps.length := by
  cases h with
  | mk s ns ps hl hN hh hb hk =>
    obtain ⟨A, c, e, _⟩ := hN
    unfold kidV at e
    simp only [Value.slice.injEq] at e
    omega
/-- the one at j -/
theorem Kd.el {w : World} {s : Kv} {ps : List Pd} (h : Kd w s ps) (j : Nat) (hj : j < ps.length) :
    ∃ a t, s.A = some a ∧ PCells w (a.add (j * 9)) ps[j].hd t ∧ Kd w t ps[j].kids ∧ I64b ps[j].hd.val.num := by
  cases h with
  | mk s ns ps hl hN hh hb hk =>
    have hj' : j < ns.length := by omega
    obtain ⟨a, ha, hc⟩ := hN.at_ j ns[j] (List.getElem?_eq_getElem hj')
    have e := hh j hj' hj
    refine ⟨a, ns[j].2, ha, ?_, hk j hj' hj, hb j hj⟩
    rw [← e]
    exact pd_lit hc

/-! ### Two compared -/
def peq (a b : Ph) : Bool := decide (a = b)
theorem ceq_unl {a b : Cl} (h : ceq a b = false) : a ≠ b := by simpa [ceq] using h
set_option maxHeartbeats 2000000 in
theorem alike_any (a b : Ph) (s t : Kv) (w : World) : Calls Tryz.prog 110 #[pdV a s, pdV b t] w fun e w' => e = .returned (.bool (peq a b)) ∧ Fr Non w w' := by
  have S1 := fun W => csame_any a.val b.val W
  have B0 := Lib.hid (pd2_new w _ a b s t rfl)
  have HN : Hid (a ≠ b → peq a b = false) := Lib.hid (fun h => decide_eq_false h)
  have HA : Hid (a = b → peq a b = true) := Lib.hid (fun h => decide_eq_true h)
  obtain ⟨ao, ac, am, ⟨an, ai, at_⟩, ak, ap⟩ := a
  obtain ⟨bo, bc, bm, ⟨bn, bi, bt⟩, bk, bp⟩ := b
  obtain ⟨sA, sn, sc⟩ := s
  obtain ⟨tA, tn, tc⟩ := t
  unfold pdV pdC kidV
  unfold PdB pdC kidV at B0
  unfold clV clC at S1
  dsimp only at *
  by_cases ho : ao = bo
  · subst ho
    by_cases hc : ac = bc
    · subst hc
      by_cases hm : am = bm
      · subst hm
        by_cases hk : ak = bk
        · subst hk
          cases hv : ceq ⟨an, ai, at_⟩ ⟨bn, bi, bt⟩
          · have HE : Hid (peq _ _ = false) := Lib.hid (HN.out (fun e => ceq_unl hv (by cases e; rfl)))
            simp only [hv] at S1
            clear HN HA hv B0
            replace S1 := Lib.hid S1
            go_enter Tryz.func110, Tryz.ntmps110
            go_wp2_with fail
            refine (S1.out _).mono ?_
            rintro e w1 ⟨rfl, f1⟩
            go_wp2
            go_ret
            exact ⟨ret_boolE HE.out.symm, (((Fr.refl _ _).alloc _).alloc _).trans f1⟩
          · simp only [hv] at S1
            have hv2 := ceq_is hv
            clear hv
            cases hv2
            have HE : Hid (peq ⟨ao, ac, am, ⟨an, ai, at_⟩, ak, ap⟩ ⟨ao, ac, am, ⟨an, ai, at_⟩, ak, bp⟩ = (ap == bp)) := Lib.hid (by
              by_cases e : ap = bp
              · subst e; rw [HA.out rfl]; simp
              · rw [HN.out (fun h => e (by cases h; rfl))]; symm; rw [beq_eq_false_iff_ne]; exact e)
            clear HN HA
            replace S1 := Lib.hid S1
            go_enter Tryz.func110, Tryz.ntmps110
            go_wp2_with fail
            refine (S1.out _).mono ?_
            rintro e w1 ⟨rfl, f1⟩
            have g1 := (B0.out.1.fr f1 (fun e => e)).cell 7
            have g2 := (B0.out.2.fr f1 (fun e => e)).cell 7
            simp at g1 g2
            clear B0
            go_wp2
            go_ret
            exact ⟨ret_boolE HE.out.symm, (((Fr.refl _ _).alloc _).alloc _).trans f1⟩
        · have ek : (ak == bk) = false := by rw [beq_eq_false_iff_ne]; exact hk
          have HE : Hid (peq _ _ = false) := Lib.hid (HN.out (fun e => hk (by cases e; rfl)))
          clear S1 hk HN HA B0
          go_enter Tryz.func110, Tryz.ntmps110
          go_wp2
          go_ret
          exact ⟨ret_boolE HE.out.symm, ((Fr.refl _ _).alloc _).alloc _⟩
      · have em : (am == bm) = false := by rw [beq_eq_false_iff_ne]; exact hm
        have HE : Hid (peq _ _ = false) := Lib.hid (HN.out (fun e => hm (by cases e; rfl)))
        clear S1 hm HN HA B0
        go_enter Tryz.func110, Tryz.ntmps110
        go_wp2
        go_ret
        exact ⟨ret_boolE HE.out.symm, ((Fr.refl _ _).alloc _).alloc _⟩
    · have ec : (ac == bc) = false := by rw [beq_eq_false_iff_ne]; exact hc
      have HE : Hid (peq _ _ = false) := Lib.hid (HN.out (fun e => hc (by cases e; rfl)))
      clear S1 hc HN HA B0
      go_enter Tryz.func110, Tryz.ntmps110
      go_wp2
      go_ret
      exact ⟨ret_boolE HE.out.symm, ((Fr.refl _ _).alloc _).alloc _⟩
  · have eo : (ao == bo) = false := by rw [beq_eq_false_iff_ne]; exact ho
    have HE : Hid (peq _ _ = false) := Lib.hid (HN.out (fun e => ho (by cases e; rfl)))
    clear S1 ho HN HA B0
    go_enter Tryz.func110, Tryz.ntmps110
    go_wp2
    go_ret
    exact ⟨ret_boolE HE.out.symm, ((Fr.refl _ _).alloc _).alloc _⟩

end Go.Proofs.YtjcfjjhhbcgcmaaGreat


namespace Go.Proofs.YtjcfjjhhbcgcmaaGreat
set_option linter.unusedVariables false
set_option linter.unusedSimpArgs false
set_option maxRecDepth 100000
open Go.RowKit

/-- a text's cell -/
def sv (l : List UInt8) : Value := .string ⟨l.toArray⟩
theorem sv_one (l : List UInt8) : (sv l).oneCell' = true := rfl
theorem el_str : El 23 9 (.string ⟨#[]⟩) 16 := ⟨Tryz.underlying23, by kernel_rfl, rfl, by decide, by kernel_rfl, fun _ => by kernel_rfl⟩
end Go.Proofs.YtjcfjjhhbcgcmaaGreat


namespace Go.Proofs.YtjcfjjhhbcgcmaaGreat
set_option linter.unusedVariables false
set_option linter.unusedSimpArgs false
set_option maxRecDepth 100000
open Go.RowKit

def agL (a : Ag) : List Value := [.int .i64 a.op, .string ⟨a.col.toArray⟩]
def agV (a : Ag) : Value := .agg #[.int .i64 a.op, .string ⟨a.col.toArray⟩]
theorem fd_ag : Fd agL 2 := ⟨fun _ => rfl, fun x u hu => by simp [agL] at hu; rcases hu with rfl | rfl <;> rfl, by omega, by omega⟩
abbrev Gs (w : World) (v : Value) (l : List Ag) : Prop := Ns agL 2 w v l
theorem ag_lit {w : World} {a : Addr} {c : Ag} (h : AtN w a (agL c)) : w.cell? a = some (.int .i64 c.op) ∧ w.cell? { block := a.block, off := a.off + 1 } = some (.string ⟨c.col.toArray⟩) :=
  ⟨h 0 _ rfl, h 1 _ rfl⟩
theorem Ns.gat {w : World} {A : Option Addr} {n c : Nat} {l : List Ag} (h : Gs w (.slice A n c) l) (k : Nat) (hk : k < l.length) : ∃ a, A = some a ∧ n = l.length ∧
    w.cell? (a.add (k * 2)) = some (.int .i64 l[k].op) ∧ w.cell? { block := (a.add (k * 2)).block, off := (a.add (k * 2)).off + 1 } = some (.string ⟨l[k].col.toArray⟩) := by
  obtain ⟨A', c', he, hl, hn, hcell⟩ := h
  simp only [Value.slice.injEq] at he
  obtain ⟨rfl, rfl, rfl⟩ := he
  cases A with
  | none => have := hn rfl; omega
  | some a => exact ⟨a, rfl, rfl, ag_lit (hcell a rfl k hk)⟩
theorem ag_new (w : World) (g : Nat) (c : Ag) (hg : g = w.heap.size) : Blk (w.alloc (.cells #[.int .i64 c.op, .string ⟨c.col.toArray⟩] 50)) g 50 #[.int .i64 c.op, .string ⟨c.col.toArray⟩] := by subst hg; exact Blk.new _ _ _
theorem agB_cells {w : World} {g : Nat} {a b : Value} (h : Blk w g 50 #[a, b]) : w.cell? ⟨g, 0, none⟩ = some a ∧ w.cell? ⟨g, 1, none⟩ = some b := ⟨h.cell 0, h.cell 1⟩
/-- a query's cells: c, g: the slices of its Cols, its Aggs; s: of its Where's Kids -/
def qyC (q : Qy) (c : Value) (s : Kv) (g : Value) : Array Value := #[.string ⟨q.tab.toArray⟩, c, .int .i64 q.whr.hd.op, .string ⟨q.whr.hd.col.toArray⟩, .int .i64 q.whr.hd.cmp, .bool q.whr.hd.val.null, .int .i64 q.whr.hd.val.num, .string ⟨q.whr.hd.val.txt.toArray⟩, .int .i64 q.whr.hd.kind, .string ⟨q.whr.hd.pat.toArray⟩, kidV s, g, .string ⟨q.by_.toArray⟩]
def qyV (q : Qy) (c : Value) (s : Kv) (g : Value) : Value := .agg (qyC q c s g)
def QBlk (w : World) (b : Nat) (q : Qy) (c : Value) (s : Kv) (g : Value) : Prop :=
  w.cell? ⟨b, 0, none⟩ = some (.string ⟨q.tab.toArray⟩) ∧ w.cell? ⟨b, 1, none⟩ = some c ∧ w.cell? ⟨b, 2, none⟩ = some (.int .i64 q.whr.hd.op) ∧ w.cell? ⟨b, 3, none⟩ = some (.string ⟨q.whr.hd.col.toArray⟩) ∧ w.cell? ⟨b, 4, none⟩ = some (.int .i64 q.whr.hd.cmp) ∧ w.cell? ⟨b, 5, none⟩ = some (.bool q.whr.hd.val.null) ∧ w.cell? ⟨b, 6, none⟩ = some (.int .i64 q.whr.hd.val.num) ∧ w.cell? ⟨b, 7, none⟩ = some (.string ⟨q.whr.hd.val.txt.toArray⟩) ∧ w.cell? ⟨b, 8, none⟩ = some (.int .i64 q.whr.hd.kind) ∧ w.cell? ⟨b, 9, none⟩ = some (.string ⟨q.whr.hd.pat.toArray⟩) ∧ w.cell? ⟨b, 10, none⟩ = some (.slice s.A s.n s.c) ∧ w.cell? ⟨b, 11, none⟩ = some g ∧ w.cell? ⟨b, 12, none⟩ = some (.string ⟨q.by_.toArray⟩)
abbrev QB (w : World) (b : Nat) (q : Qy) (c : Value) (s : Kv) (g : Value) : Prop := Blk w b 31 (qyC q c s g)
theorem qB_cells {w : World} {b : Nat} {q : Qy} {c : Value} {s : Kv} {g : Value} (e : QB w b q c s g) : QBlk w b q c s g :=
  ⟨e.cell 0, e.cell 1, e.cell 2, e.cell 3, e.cell 4, e.cell 5, e.cell 6, e.cell 7, e.cell 8, e.cell 9, e.cell 10, e.cell 11, e.cell 12⟩
theorem qy_new (w : World) (b : Nat) (q : Qy) (c : Value) (s : Kv) (g : Value) (hb : b = w.heap.size) : QB (w.alloc (.cells (qyC q c s g) 31)) b q c s g := by subst hb; exact Blk.new _ _ _
/-- what lies behind a query's slices -/
structure QyS (w : World) (q : Qy) (c : Value) (s : Kv) (g : Value) : Prop where
  cols : Vs sv w c q.cols
  kids : Kd w s q.whr.kids
  aggs : Gs w g q.aggs
  num : I64b q.whr.hd.val.num
theorem QyS.non {w w' : World} {q : Qy} {c : Value} {s : Kv} {g : Value} (h : QyS w q c s g) (hf : Fr Non w w') : QyS w' q c s g :=
  ⟨h.cols.non hf, h.kids.non hf, h.aggs.non hf, h.num⟩
/-- the query lies in block b of a world that has come of w0 -/
structure Qin (w0 : World) (b : Nat) (q : Qy) (c : Value) (s : Kv) (g : Value) (w : World) : Prop where
  fr : Fr Non w0 w
  blk : QB w b q c s g
  sls : QyS w q c s g
theorem Qin.non {w0 w w' : World} {b : Nat} {q : Qy} {c : Value} {s : Kv} {g : Value} (h : Qin w0 b q c s g w) (hf : Fr Non w w') : Qin w0 b q c s g w' :=
  ⟨h.fr.trans hf, h.blk.fr hf (fun e => e), h.sls.non hf⟩
theorem Qin.new {w : World} {q : Qy} {c : Value} {s : Kv} {g : Value} (h : QyS w q c s g) : Qin w w.heap.size q c s g (w.alloc (.cells (qyC q c s g) 31)) :=
  have F0 : Fr Non w (w.alloc (.cells (qyC q c s g) 31)) := (Fr.refl Non w).alloc _
  ⟨F0, qy_new w _ q c s g rfl, h.non F0⟩
theorem Qin.cells {w0 w : World} {b : Nat} {q : Qy} {c : Value} {s : Kv} {g : Value} (h : Qin w0 b q c s g w) : QBlk w b q c s g := qB_cells h.blk
theorem Qin.drew {w0 w : World} {b : Nat} {q : Qy} {c : Value} {s : Kv} {g : Value} (h : Qin w0 b q c s g w) : Qin w0 b q c s g w.drew := h.non (Fr.refl Non w).drew
end Go.Proofs.YtjcfjjhhbcgcmaaGreat


namespace Go.Proofs.YtjcfjjhhbcgcmaaGreat
set_option linter.unusedVariables false
set_option linter.unusedSimpArgs false
set_option maxRecDepth 100000
open Go.RowKit

/-- what Find tells -/
def findV : Option Nat → Value
  | some k => .tuple #[.int .i64 k, .bool true]
  | none => .tuple #[.int .i64 0, .bool false]
set_option maxHeartbeats 1000000 in
theorem sfind_any (v : Value) (l : List Co) (n : Tx) (w : World) (hv : Ks w v l) (hl : l.length ≤ 1000000000) :
    Calls Tryz.prog 51 #[v, .string ⟨n.toArray⟩] w fun e w' => e = .returned (findV (findC l n)) ∧ Fr Non w w' := by
  obtain ⟨A, c, rfl, hlc, hn, hcell⟩ := hv
  have HC := Lib.hid hcell
  have HN := Lib.hid hn
  clear hcell hn
  go_enter Tryz.func51, Tryz.ntmps51
  go_wp2
  go_loopw [10] (fun i wr => ∃ (k : Nat), k ≤ l.length ∧ i = .int .i64 k ∧ Hid (∀ j (hj : j < l.length), j < k → l[j].name ≠ n) ∧ Fr Non w wr) (fun i _ => l.length - (intOf i).toNat)
  case atStart => exact ⟨0, Nat.zero_le _, rfl, Lib.hid (fun _ _ h => by omega), Fr.refl _ _⟩
  case round =>
    obtain ⟨k, hk, rfl, hne, hfr⟩ := hrel
    by_cases hlt : k < l.length
    · cases A with
      | none => have := HN.out rfl; omega
      | some a =>
        obtain ⟨hc0, hc1, hc2⟩ := co_lit ((HC.out a rfl k hlt).non hfr)
        have HY := Lib.hid (fun h => find_at hlt h hne.out)
        have HX := Lib.hid (fun h => ne_more hlt hne.out h)
        clear hne
        generalize l[k] = x at *
        obtain ⟨xn, xt, xb⟩ := x
        dsimp only at hc0 hc1 hc2 HY HX
        have hfr2 := Lib.hid (hfr.alloc (.cells #[.string ⟨xn.toArray⟩, .int .i64 xt, .bool xb] 56))
        have g0 := (co_new wr ⟨xn, xt, xb⟩).cell 0
        simp at g0
        by_cases he : xn = n
        · have hb : (xn == n) = true := by rw [beq_iff_eq]; exact he
          have HE := Lib.hid (HY.out he)
          clear HY HX he hfr
          go_wp2
          go_ret2
          refine ⟨?_, hfr2.out⟩
          rw [HE.out]; rfl
        · have hb : (xn == n) = false := by rw [beq_eq_false_iff_ne]; exact he
          have HE := Lib.hid (HX.out he)
          clear HY HX he hfr
          go_wp2
          go_roundw
          case rel => exact ⟨k + 1, by omega, by go_num, HE, hfr2.out⟩
          case measure => simp [intOf]; omega
    · have HE := Lib.hid (find_no (l := l) (n := n) (fun j hj => hne.out j hj (by omega)))
      clear hne
      go_wp2
      go_ret2
      refine ⟨?_, hfr⟩
      rw [HE.out]; rfl

end Go.Proofs.YtjcfjjhhbcgcmaaGreat


namespace Go.Proofs.YtjcfjjhhbcgcmaaGreat
set_option linter.unusedVariables false
set_option linter.unusedSimpArgs false
set_option maxRecDepth 100000
open Go.RowKit

theorem fitQ_parts {cols : List Co} {q : Qy} (h : fitQ cols q = 0) : mayQ q = true ∧ chkC cols = 0 ∧ typP cols q.whr = true ∧ suitQ cols q = true := by
  unfold fitQ at h
  split at h
  · cases h
  · rename_i h1
    split at h
    · rename_i h2
      refine ⟨?_, ?_, h2.1, h2.2⟩
      · cases e : mayQ q
        · exact absurd (.inl e) h1
        · rfl
      · by_cases e : chkC cols = 0
        · exact e
        · exact absurd (.inr e) h1
    · cases h
theorem mayQ_ways {q : Qy} (h : mayQ q = true) : (q.aggs.length = 0 ∧ q.by_ = []) ∨ (0 < q.aggs.length ∧ (∀ a ∈ q.aggs, agB a = true) ∧ q.cols.length = 0) := by
  unfold mayQ at h
  rw [Bool.and_eq_true, Bool.and_eq_true, Bool.or_eq_true] at h
  rcases h.2.2 with h | h
  · unfold plainQ at h
    rw [Bool.and_eq_true, Bool.and_eq_true, decide_eq_true_eq, decide_eq_true_eq] at h
    exact .inl ⟨h.1, h.2.1⟩
  · unfold foldQ at h
    simp only [Bool.and_eq_true, decide_eq_true_eq, List.all_eq_true] at h
    exact .inr ⟨h.1, h.2.2.1, h.2.2.2.1⟩
/-- all columns that it names are there -/
theorem named_has {cols : List Co} {q : Qy} (h : suitQ cols q = true) : (∀ n ∈ q.cols, ∃ k, findC cols n = some k) ∧ (∀ a ∈ q.aggs, a.op ≠ 1 → ∃ k, findC cols a.col = some k) ∧ (q.by_ ≠ [] → allQ q = false → ∃ k, findC cols q.by_ = some k) := by
  unfold suitQ at h
  rw [Bool.and_eq_true, List.all_eq_true] at h
  have hh : ∀ {n}, n ∈ namedQ cols q → ∃ k, findC cols n = some k := fun {n} hn => by
    have := h.1 n hn
    unfold hasC at this
    cases e : findC cols n with
    | none => rw [e] at this; cases this
    | some k => exact ⟨k, rfl⟩
  unfold namedQ at hh
  cases ea : allQ q
  · simp only [ea, Bool.false_eq_true, if_false] at hh
    refine ⟨fun n hn => hh (by simp [hn]), fun a ha h1 => hh ?_, fun hb _ => hh ?_⟩
    · rw [List.mem_append, List.mem_append]
      refine .inl (.inr ?_)
      unfold agN
      exact List.mem_map.2 ⟨a, List.mem_filter.2 ⟨ha, decide_eq_true h1⟩, rfl⟩
    · rw [List.mem_append]
      refine .inr ?_
      unfold byN
      rw [if_neg hb]; exact List.mem_singleton.2 rfl
  · unfold allQ at ea
    rw [Bool.and_eq_true, decide_eq_true_eq, decide_eq_true_eq] at ea
    refine ⟨fun n hn => ?_, fun a ha => ?_, fun _ e => by cases e⟩
    · rw [List.eq_nil_of_length_eq_zero ea.1] at hn; cases hn
    · rw [List.eq_nil_of_length_eq_zero ea.2] at ha; cases ha
end Go.Proofs.YtjcfjjhhbcgcmaaGreat


namespace Go.Proofs.YtjcfjjhhbcgcmaaGreat
set_option linter.unusedVariables false
set_option linter.unusedSimpArgs false
set_option maxRecDepth 100000
open Go.RowKit

/-! ### A word -/
def wcB (c : UInt8) : Bool := decide (c ≠ 32 ∧ c ≠ 41)
/-- nothing, or what ends a word -/
def EndW (r : Tx) : Prop := r = [] ∨ ∃ c r', r = c :: r' ∧ wcB c = false
theorem endW_nil : EndW [] := .inl rfl
theorem endW_32 (r : Tx) : EndW (32 :: r) := .inr ⟨_, _, rfl, by decide⟩
theorem endW_41 (r : Tx) : EndW (41 :: r) := .inr ⟨_, _, rfl, by decide⟩
/-! ### Values -/
/-! ### The reader -/
def bare (op : Int) : Ph := ⟨op, [], 0, zCl, 0, []⟩
/-! ### Groups -/
/-! ### Shapes -/
/-! ### Read again -/
def EndE (r : Tx) : Prop := r = [] ∨ (∃ r', r = 41 :: r') ∨ ∃ r', r = 32 :: 103 :: r'
theorem EndE.w {r : Tx} (h : EndE r) : EndW r := by
  rcases h with rfl | ⟨r', rfl⟩ | ⟨r', rfl⟩
  · exact endW_nil
  · exact endW_41 _
  · exact endW_32 _
end Go.Proofs.YtjcfjjhhbcgcmaaGreat


namespace Go.Proofs.YtjcfjjhhbcgcmaaGreat
set_option linter.unusedVariables false
set_option linter.unusedSimpArgs false
set_option maxRecDepth 100000
open Go.RowKit

/-- append of one text, which was stored in the new block g first -/
theorem wpList_pushS {w0 : World} {ops : Array Oper} {rest : List Oper} {o : Oper} {a : Act} {Q : Exit → Act → World → Prop} (hgd : o.guard = none) (s x : Operand)
    (ho : o.op = .call { callee := .builtin .append, args := #[s, x], argTypes := #[23, 23] })
    (B : Nat) (v : Value) (l : List Tx) (hs : a.eval s = v) (hown : Ow sv 9 w0 B v l) (u : Value) (y : Tx) (hu : u = sv y) (g : Nat) (hx : a.eval x = .slice (some ⟨g, 0, none⟩) 1 1) (hg : g = w0.heap.size)
    (hl : l.length < 1099511627776) (hB : B ≤ w0.heap.size)
    (h : ∀ v' w', Ow sv 9 w' B v' (l ++ [y]) → Fr (fun k => v.ownBlock = some k) w0 w' → wpList Tryz.prog ops Q rest (a.put o.dst v') w') :
    wpList Tryz.prog ops Q (o :: rest) a (w0.alloc (.cells #[u] 9)) := by
  subst hg
  exact wpList_pushG el_str sv_one hgd s x ho B v l hs hown u y hu hx hl hB h
end Go.Proofs.YtjcfjjhhbcgcmaaGreat


namespace Go.Proofs.YtjcfjjhhbcgcmaaGreat
set_option linter.unusedVariables false
set_option linter.unusedSimpArgs false
set_option maxRecDepth 100000
open Go.RowKit

theorem isletter_any (r : Int) (w : World) : Calls Tryz.prog 79 #[.int .i32 r] w fun e w' => e = .returned (.bool (ltrI r)) ∧ w = w' := by
  by_cases h1 : 97 ≤ r
  · by_cases h2 : r ≤ 122
    · have H := Lib.hid (show ltrI r = true by simp [ltrI, h1, h2])
      go_enter Tryz.func79, Tryz.ntmps79
      go_wp2
      go_ret
      exact ⟨ret_boolE H.out.symm, rfl⟩
    · have H := Lib.hid (show ltrI r = false by simp [ltrI, h1, h2])
      go_enter Tryz.func79, Tryz.ntmps79
      go_wp2
      go_ret
      exact ⟨ret_boolE H.out.symm, rfl⟩
  · have H := Lib.hid (show ltrI r = false by simp [ltrI, h1])
    go_enter Tryz.func79, Tryz.ntmps79
    go_wp2
    go_ret
    exact ⟨ret_boolE H.out.symm, rfl⟩
theorem isdigit_any (r : Int) (w : World) : Calls Tryz.prog 80 #[.int .i32 r] w fun e w' => e = .returned (.bool (dgtI r)) ∧ w = w' := by
  by_cases h1 : 48 ≤ r
  · by_cases h2 : r ≤ 57
    · have H := Lib.hid (show dgtI r = true by simp [dgtI, h1, h2])
      go_enter Tryz.func80, Tryz.ntmps80
      go_wp2
      go_ret
      exact ⟨ret_boolE H.out.symm, rfl⟩
    · have H := Lib.hid (show dgtI r = false by simp [dgtI, h1, h2])
      go_enter Tryz.func80, Tryz.ntmps80
      go_wp2
      go_ret
      exact ⟨ret_boolE H.out.symm, rfl⟩
  · have H := Lib.hid (show dgtI r = false by simp [dgtI, h1])
    go_enter Tryz.func80, Tryz.ntmps80
    go_wp2
    go_ret
    exact ⟨ret_boolE H.out.symm, rfl⟩

set_option maxHeartbeats 4000000 in
theorem isword_any (l : List UInt8) (w : World) : Calls Tryz.prog 78 #[.string ⟨l.toArray⟩] w fun e w' => e = .returned (.bool (decide (l ∈ wordsL))) ∧ w = w' := by
  go_enter Tryz.func78, Tryz.ntmps78
  go_wp2
  all_goals
    go_ret
    exact ⟨ret_boolE (by simp_all [wordsL]), rfl⟩

end Go.Proofs.YtjcfjjhhbcgcmaaGreat


namespace Go.Proofs.YtjcfjjhhbcgcmaaGreat
set_option linter.unusedVariables false
set_option linter.unusedSimpArgs false
set_option maxRecDepth 100000
open Go.RowKit

theorem slenN (l : List UInt8) : ByteArray.size ⟨l.toArray⟩ = l.length := by simp [ByteArray.size]
theorem nmOk_more {l : List UInt8} {k : Nat} (h : ∀ j (hj : j < l.length), j < k → okI j (l[j]).toNat = true) (hk : k < l.length) (hc : okI k (l[k]).toNat = true) : ∀ j (hj : j < l.length), j < k + 1 → okI j (l[j]).toNat = true := by
  intro j hj hlt
  by_cases e : j = k
  · subst e; exact hc
  · exact h j hj (by omega)

set_option maxHeartbeats 2000000 in
theorem sname_any (l : List UInt8) (w : World) (hl : l.length ≤ 1000000000) : Calls Tryz.prog 52 #[.string ⟨l.toArray⟩] w fun e w' => e = .returned (.bool (nameB l)) ∧ Fr Non w w' := by
  have hs := slenN l
  by_cases h0 : l = []
  · subst h0
    go_enter Tryz.func52, Tryz.ntmps52
    go_wp2
    go_ret
    exact ⟨rfl, Fr.refl _ _⟩
  · have h0b : (l == []) = false := by rw [beq_eq_false_iff_ne]; exact h0
    have HL : Hid (1 ≤ l.length) := Lib.hid (Nat.pos_of_ne_zero (fun e => h0 (List.eq_nil_of_length_eq_zero e)))
    clear h0
    by_cases h12 : 12 < l.length
    · have H := Lib.hid (name_long h12)
      go_enter Tryz.func52, Tryz.ntmps52
      go_wp2
      go_ret
      exact ⟨ret_boolE H.out.symm, Fr.refl _ _⟩
    · have HI := fun W => isword_any l W
      cases hw : decide (l ∈ wordsL)
      · simp only [hw] at HI
        have HW := Lib.hid (of_decide_eq_false hw)
        clear hw
        replace HI := Lib.hid HI
        go_enter Tryz.func52, Tryz.ntmps52
        go_wp2_with fail
        refine (HI.out _).mono ?_
        rintro e w1 ⟨rfl, rfl⟩
        clear HI
        go_wp2
        go_loopw [3, 4] (fun _ _ wr => ∃ k : Nat, k ≤ l.length ∧ wr = w.iter ⟨l.toArray⟩ k ∧ Hid (∀ j (hj : j < l.length), j < k → okI j (l[j]).toNat = true)) (fun _ _ wr => l.length - wr.iterPos w.heap.size)
        case atStart => exact ⟨0, by omega, rfl, Lib.hid (fun _ _ h => by omega)⟩
        case round =>
          obtain ⟨k, hk, rfl, hok⟩ := hrel
          by_cases hlt : k < l.length
          · obtain ⟨c, hc⟩ : ∃ c, l[k] = c := ⟨_, rfl⟩
            have hm := World.iterPos_iter w ⟨l.toArray⟩ k
            have HC := Lib.hid hc
            have hbk : (⟨l.toArray⟩ : ByteArray)[k]'(by rw [hs]; exact hlt) = c := hc
            clear hc
            have HM := Lib.hid (fun (h : okI k c.toNat = true) => nmOk_more hok.out hlt (by rw [HC.out]; exact h))
            have HX := Lib.hid (fun (h : okI k c.toNat = false) => name_bad hlt (by rw [HC.out]; exact h))
            clear HC hok
            by_cases hhi : c.toNat < 128
            · have hn := fun ty => run_next_ascii (P := Tryz.prog) w ⟨l.toArray⟩ k ty (by rw [hs]; exact hlt) (by rw [hbk]; exact hhi)
              rw [hbk] at hn
              clear hbk hhi
              have hm1 := World.iterPos_iter w ⟨l.toArray⟩ (k + 1)
              have FR1 := Lib.hid ((Fr.refl Non w).alloc (.stringIter ⟨l.toArray⟩ (k + 1)))
              replace hm1 := Lib.hid hm1
              change Hid (Fr Non w (w.iter ⟨l.toArray⟩ (k + 1))) at FR1
              have HM1 := hm1
              clear hm1
              have HL1 := fun W => isletter_any c.toNat W
              have HD1 := fun W => isdigit_any c.toNat W
              cases hL : ltrI c.toNat
              · simp only [hL] at HL1
                replace HL1 := Lib.hid HL1
                by_cases hk0 : k = 0
                · subst hk0
                  replace HX := Lib.hid (HX.out (by simp [okI, hL]))
                  clear HD1 HM hL
                  go_wp2_with fail
                  refine (HL1.out _).mono ?_
                  rintro e w1 ⟨rfl, rfl⟩
                  clear HL1
                  go_wp2
                  go_ret
                  exact ⟨ret_boolE HX.out.symm, FR1.out⟩
                · have hkb : ((k : Int) == 0) = false := by rw [beq_eq_false_iff_ne]; omega
                  have HK0 := Lib.hid hk0
                  clear hk0
                  cases hD : dgtI c.toNat
                  · simp only [hD] at HD1
                    replace HD1 := Lib.hid HD1
                    by_cases h95 : (c.toNat : Int) = 95
                    · replace HM := Lib.hid (HM.out (by simp [okI, hL, hD, h95]; exact .inr HK0.out))
                      have h95b : ((c.toNat : Int) == 95) = true := by rw [beq_iff_eq]; exact h95
                      clear HX hL hD h95
                      go_wp2_with fail
                      refine (HL1.out _).mono ?_
                      rintro e w1 ⟨rfl, rfl⟩
                      clear HL1
                      go_wp2_with fail
                      refine (HD1.out _).mono ?_
                      rintro e w1 ⟨rfl, rfl⟩
                      clear HD1
                      go_wp2
                      go_roundw
                      case rel => exact ⟨k + 1, by omega, rfl, HM⟩
                      case measure => rw [hm, HM1.out]; omega
                    · replace HX := Lib.hid (HX.out (by simp [okI, hL, hD, h95]))
                      have h95b : ((c.toNat : Int) == 95) = false := by rw [beq_eq_false_iff_ne]; exact h95
                      clear HM hL hD h95
                      go_wp2_with fail
                      refine (HL1.out _).mono ?_
                      rintro e w1 ⟨rfl, rfl⟩
                      clear HL1
                      go_wp2_with fail
                      refine (HD1.out _).mono ?_
                      rintro e w1 ⟨rfl, rfl⟩
                      clear HD1
                      go_wp2
                      go_ret
                      exact ⟨ret_boolE HX.out.symm, FR1.out⟩
                  · simp only [hD] at HD1
                    replace HD1 := Lib.hid HD1
                    replace HM := Lib.hid (HM.out (by simp [okI, hL, hD]; exact HK0.out))
                    clear HX hL hD
                    go_wp2_with fail
                    refine (HL1.out _).mono ?_
                    rintro e w1 ⟨rfl, rfl⟩
                    clear HL1
                    go_wp2_with fail
                    refine (HD1.out _).mono ?_
                    rintro e w1 ⟨rfl, rfl⟩
                    clear HD1
                    go_wp2
                    go_roundw
                    case rel => exact ⟨k + 1, by omega, rfl, HM⟩
                    case measure => rw [hm, HM1.out]; omega
              · simp only [hL] at HL1
                replace HL1 := Lib.hid HL1
                replace HM := Lib.hid (HM.out (by simp [okI, hL]))
                clear HX hL HD1
                go_wp2_with fail
                refine (HL1.out _).mono ?_
                rintro e w1 ⟨rfl, rfl⟩
                clear HL1
                go_wp2
                go_roundw
                case rel => exact ⟨k + 1, by omega, rfl, HM⟩
                case measure => rw [hm, HM1.out]; omega
            · have hn := fun ty => run_next_any (P := Tryz.prog) w ⟨l.toArray⟩ k ty (by rw [hs]; exact hlt)
              have hr := (decode_high ⟨l.toArray⟩ k (by rw [hs]; exact hlt) (by rw [hbk]; omega)).1
              replace HX := Lib.hid (HX.out (okI_high (by omega)))
              clear HM hbk
              generalize (Utf8.decode ⟨l.toArray⟩ k).1 = r at *
              generalize k + (Utf8.decode ⟨l.toArray⟩ k).2 = p at *
              have FR1 := Lib.hid ((Fr.refl Non w).alloc (.stringIter ⟨l.toArray⟩ p))
              change Hid (Fr Non w (w.iter ⟨l.toArray⟩ p)) at FR1
              have HL1 := fun W => isletter_any r W
              have HD1 := fun W => isdigit_any r W
              have e1 : ltrI r = false := by simp [ltrI]; omega
              have e2 : dgtI r = false := by simp [dgtI]; omega
              have h95b : ((r : Int) == 95) = false := by rw [beq_eq_false_iff_ne]; omega
              simp only [e1] at HL1
              simp only [e2] at HD1
              replace HL1 := Lib.hid HL1
              replace HD1 := Lib.hid HD1
              clear e1 e2 hr hhi
              by_cases hk0 : k = 0
              · subst hk0
                clear HD1
                go_wp2_with fail
                refine (HL1.out _).mono ?_
                rintro e w1 ⟨rfl, rfl⟩
                clear HL1
                go_wp2
                go_ret
                exact ⟨ret_boolE HX.out.symm, FR1.out⟩
              · have hkb : ((k : Int) == 0) = false := by rw [beq_eq_false_iff_ne]; omega
                clear hk0
                go_wp2_with fail
                refine (HL1.out _).mono ?_
                rintro e w1 ⟨rfl, rfl⟩
                clear HL1
                go_wp2_with fail
                refine (HD1.out _).mono ?_
                rintro e w1 ⟨rfl, rfl⟩
                clear HD1
                go_wp2
                go_ret
                exact ⟨ret_boolE HX.out.symm, FR1.out⟩
          · have hn := fun ty => run_next_end (P := Tryz.prog) w ⟨l.toArray⟩ k ty (by rw [hs]; exact hlt)
            have H := Lib.hid (name_yes HL.out (by omega) HW.out (fun j hj => hok.out j hj (by omega)))
            clear hok
            go_wp2
            go_ret
            exact ⟨ret_boolE H.out.symm, (Fr.refl _ _).alloc _⟩
      · simp only [hw] at HI
        have H := Lib.hid (name_word (of_decide_eq_true hw))
        clear hw
        replace HI := Lib.hid HI
        go_enter Tryz.func52, Tryz.ntmps52
        go_wp2_with fail
        refine (HI.out _).mono ?_
        rintro e w1 ⟨rfl, rfl⟩
        go_wp2
        go_ret
        exact ⟨ret_boolE H.out.symm, Fr.refl _ _⟩
end Go.Proofs.YtjcfjjhhbcgcmaaGreat


namespace Go.Proofs.YtjcfjjhhbcgcmaaGreat
set_option linter.unusedVariables false
set_option linter.unusedSimpArgs false
set_option maxRecDepth 100000
open Go.RowKit

theorem ask_no {h : Ph} (hn : nameB h.col = false) : askOk h = false := by unfold askOk; rw [hn]; rfl
theorem ask_cmp {h : Ph} (hn : nameB h.col = true) (h2 : h.op = 2) : askOk h = (decide (1 ≤ h.cmp ∧ h.cmp ≤ 6) && mayC h.kind false h.val && peq h ⟨h.op, h.col, h.cmp, h.val, h.kind, []⟩) := by
  unfold askOk; rw [hn, if_pos h2]; rfl
theorem ask_like {h : Ph} (hn : nameB h.col = true) (h2 : h.op = 4) : askOk h = (decide (h.pat.length ≤ 40) && peq h ⟨h.op, h.col, 0, zCl, 0, h.pat⟩) := by
  unfold askOk; rw [hn, if_neg (by omega), if_pos h2]; rfl
theorem ask_nul {h : Ph} (hn : nameB h.col = true) (h2 : ¬ h.op = 2) (h4 : ¬ h.op = 4) : askOk h = peq h ⟨h.op, h.col, 0, zCl, 0, []⟩ := by
  unfold askOk; rw [hn, if_neg h2, if_neg h4]; rfl

theorem iscmp_any (n : Int) (w : World) : Calls Tryz.prog 128 #[.int .i64 n] w fun e w' => e = .returned (.bool (decide (1 ≤ n ∧ n ≤ 6))) ∧ Fr Non w w' := by
  by_cases h : 1 ≤ n
  · go_enter Tryz.func128, Tryz.ntmps128
    go_wp2
    go_ret
    exact ⟨ret_boolE (by simp [h]), Fr.refl _ _⟩
  · go_enter Tryz.func128, Tryz.ntmps128
    go_wp2
    go_ret
    exact ⟨ret_boolE (by simp; omega), Fr.refl _ _⟩

set_option maxHeartbeats 2000000 in
theorem mayask_any (h : Ph) (s : Kv) (w : World) (hl : h.col.length ≤ 1000000000) : Calls Tryz.prog 111 #[pdV h s] w fun e w' => e = .returned (.bool (askOk h)) ∧ Fr Non w w' := by
  have N1 := fun W => sname_any h.col W hl
  have B0 := Lib.hid (pd_new w _ h s rfl)
  have F0 : Hid (Fr Non w _) := Lib.hid ((Fr.refl Non w).alloc (.cells (pdC h s) 28))
  have H1 := Lib.hid (fun hn => ask_no (h := h) hn)
  have H2 := Lib.hid (fun hn h2 => ask_cmp (h := h) hn h2)
  have H3 := Lib.hid (fun hn h2 => ask_like (h := h) hn h2)
  have H4 := Lib.hid (fun hn h2 h4 => ask_nul (h := h) hn h2 h4)
  have A2 := Lib.hid (fun W => alike_any h ⟨h.op, h.col, h.cmp, h.val, h.kind, []⟩ s noKv W)
  have A3 := Lib.hid (fun W => alike_any h ⟨h.op, h.col, 0, zCl, 0, h.pat⟩ s noKv W)
  have A4 := Lib.hid (fun W => alike_any h ⟨h.op, h.col, 0, zCl, 0, []⟩ s noKv W)
  have C1 := Lib.hid (fun W => iscmp_any h.cmp W)
  have C2 := Lib.hid (fun W => may_any h.kind false h.val W)
  obtain ⟨op, col, cmp, ⟨vn, vi, vt⟩, kind, pat⟩ := h
  obtain ⟨sA, sn, sc⟩ := s
  have hs := slen pat
  dsimp only at *
  unfold pdV pdC kidV at *
  unfold noKv at A2 A3 A4
  unfold zCl at A3 A4
  unfold clV clC at C2
  dsimp only at *
  cases hn : nameB col
  · have HE := Lib.hid (H1.out hn)
    simp only [hn] at N1
    replace N1 := Lib.hid N1
    clear H1 H2 H3 H4 A2 A3 A4 C1 C2 hn
    go_enter Tryz.func111, Tryz.ntmps111
    go_wp2_with fail
    refine (N1.out _).mono ?_
    rintro e w1 ⟨rfl, f1⟩
    go_wp2
    go_ret
    exact ⟨ret_boolE HE.out.symm, F0.out.trans f1⟩
  · simp only [hn] at N1
    replace N1 := Lib.hid N1
    by_cases h2 : op = 2
    · have HE := Lib.hid (H2.out hn h2)
      clear H1 H2 H3 H4 A3 A4 hn
      subst h2
      go_enter Tryz.func111, Tryz.ntmps111
      go_wp2_with fail
      refine (N1.out _).mono ?_
      rintro e w1 ⟨rfl, f1⟩
      obtain ⟨g0, g1, g2, g3, g4, g5, g6, g7, g8⟩ := pdB_cells (B0.out.fr f1 (fun e => e))
      have B1 := Lib.hid (B0.out.fr f1 (fun e => e))
      dsimp only at g0 g1 g2 g3 g4 g5 g6 g7 g8
      generalize hc : decide (1 ≤ cmp ∧ cmp ≤ 6) = b1 at *
      clear hc
      have F1 := Lib.hid (F0.out.trans f1)
      clear f1 F0 B0
      go_wp2_with fail
      refine (C1.out _).mono ?_
      rintro e w2 ⟨rfl, f2⟩
      clear g0 g1 g2 g3 g4 g5 g6 g7 g8
      obtain ⟨g0, g1, g2, g3, g4, g5, g6, g7, g8⟩ := pdB_cells (B1.out.fr f2 (fun e => e))
      have B2 := Lib.hid (B1.out.fr f2 (fun e => e))
      have F2 := Lib.hid (F1.out.trans f2)
      dsimp only at g0 g1 g2 g3 g4 g5 g6 g7 g8
      clear f2 F1 B1
      cases b1
      · go_wp2
        go_ret
        exact ⟨ret_boolE (by rw [HE.out]; rfl), F2.out⟩
      · generalize hc : mayC kind false ⟨vn, vi, vt⟩ = b2 at *
        clear hc
        go_wp2_with fail
        refine (C2.out _).mono ?_
        rintro e w3 ⟨rfl, f3⟩
        clear g0 g1 g2 g3 g4 g5 g6 g7 g8
        obtain ⟨g0, g1, g2, g3, g4, g5, g6, g7, g8⟩ := pdB_cells (B2.out.fr f3 (fun e => e))
        have F3 := Lib.hid (F2.out.trans f3)
        dsimp only at g0 g1 g2 g3 g4 g5 g6 g7 g8
        clear f3 F2 B2
        cases b2
        · go_wp2
          go_ret
          exact ⟨ret_boolE (by rw [HE.out]; rfl), F3.out⟩
        · go_wp2_with fail
          refine (A2.out _).mono ?_
          rintro e w4 ⟨rfl, f4⟩
          go_wp2
          go_ret
          exact ⟨ret_boolE (by rw [HE.out]; rfl), F3.out.trans f4⟩
    · by_cases h4 : op = 4
      · have HE := Lib.hid (H3.out hn h4)
        clear H1 H2 H3 H4 A2 A4 hn C1 C2 h2
        subst h4
        go_enter Tryz.func111, Tryz.ntmps111
        go_wp2_with fail
        refine (N1.out _).mono ?_
        rintro e w1 ⟨rfl, f1⟩
        obtain ⟨g0, g1, g2, g3, g4, g5, g6, g7, g8⟩ := pdB_cells (B0.out.fr f1 (fun e => e))
        dsimp only at g0 g1 g2 g3 g4 g5 g6 g7 g8
        have F1 := Lib.hid (F0.out.trans f1)
        clear f1 F0 B0
        by_cases h40 : pat.length ≤ 40
        · go_wp2_with fail
          refine (A3.out _).mono ?_
          rintro e w4 ⟨rfl, f4⟩
          go_wp2
          go_ret
          exact ⟨ret_boolE (by rw [HE.out, decide_eq_true h40]; rfl), F1.out.trans f4⟩
        · go_wp2
          go_ret
          exact ⟨ret_boolE (by rw [HE.out, decide_eq_false h40]; simp), F1.out⟩
      · have HE := Lib.hid (H4.out hn h2 h4)
        clear H1 H2 H3 H4 A2 A3 hn C1 C2
        go_enter Tryz.func111, Tryz.ntmps111
        go_wp2_with fail
        refine (N1.out _).mono ?_
        rintro e w1 ⟨rfl, f1⟩
        obtain ⟨g0, g1, g2, g3, g4, g5, g6, g7, g8⟩ := pdB_cells (B0.out.fr f1 (fun e => e))
        dsimp only at g0 g1 g2 g3 g4 g5 g6 g7 g8
        have F1 := Lib.hid (F0.out.trans f1)
        clear f1 F0 B0
        go_wp2_with fail
        refine (A4.out _).mono ?_
        rintro e w4 ⟨rfl, f4⟩
        go_wp2
        go_ret
        exact ⟨ret_boolE (by rw [HE.out]; rfl), F1.out.trans f4⟩

/-! ### One of those within -/
theorem haskid1_any (h : Ph) (s : Kv) (op : Int) (g : Nat) (w : World) (hg : Blk w g 3 #[.int .i64 op]) :
    Calls Tryz.prog 130 #[pdV h s, .pointer (some ⟨g, 0, none⟩)] w fun e w' => e = .returned (.bool (h.op == op)) ∧ Fr Non w w' := by
  have F0 : Hid (Fr Non w _) := Lib.hid ((Fr.refl Non w).alloc (.cells (pdC h s) 28))
  have g0 := (hg.fr (F0.out) (fun e => e)).cell 0
  simp at g0
  obtain ⟨hop, col, cmp, ⟨vn, vi, vt⟩, kind, pat⟩ := h
  obtain ⟨sA, sn, sc⟩ := s
  unfold pdV pdC kidV at *
  dsimp only at *
  go_enter Tryz.func130, Tryz.ntmps130
  go_wp2
  go_ret
  exact ⟨rfl, F0.out⟩
end Go.Proofs.YtjcfjjhhbcgcmaaGreat


namespace Go.Proofs.YtjcfjjhhbcgcmaaGreat
set_option linter.unusedVariables false
set_option linter.unusedSimpArgs false
set_option maxRecDepth 100000
open Go.RowKit

theorem kidOp_more {op : Int} {ks : List Pd} {k : Nat} (h : k < ks.length) (h1 : (ks.take k).any (fun x => x.hd.op == op) = false) (h2 : (ks[k].hd.op == op) = false) : (ks.take (k + 1)).any (fun x => x.hd.op == op) = false := by
  rw [List.take_succ_eq_append_getElem h, List.any_append, h1]; simp [h2]
set_option maxHeartbeats 2000000 in
theorem pidx_any (s : Kv) (ks : List Pd) (op : Int) (g : Nat) (w : World) (hk : Kd w s ks) (hg : Blk w g 3 #[.int .i64 op]) (hl : ks.length ≤ 1000000000) :
    Calls Tryz.prog 153 #[kidV s, .func (.func 130) #[] #[.pointer (some ⟨g, 0, none⟩)]] w fun e w' => ∃ z : Int, e = .returned (.int .i64 z) ∧ decide (0 ≤ z) = kidOp op ks ∧ Fr Non w w' := by
  have hn := hk.len
  have HK := Lib.hid hk
  have HG := Lib.hid hg
  clear hk hg
  obtain ⟨A, n, c⟩ := s
  dsimp only at hn
  subst hn
  unfold kidV
  dsimp only
  go_enter Tryz.func153, Tryz.ntmps153
  go_wp2
  go_loopw [8] (fun i wr => ∃ (k : Nat), k ≤ ks.length ∧ i = .int .i64 k ∧ Hid ((ks.take k).any (fun x => x.hd.op == op) = false) ∧ Fr Non w wr) (fun i _ => ks.length - (intOf i).toNat)
  case atStart => exact ⟨0, Nat.zero_le _, rfl, Lib.hid rfl, Fr.refl _ _⟩
  case round =>
    obtain ⟨k, hk, rfl, hne, hfr⟩ := hrel
    by_cases hlt : k < ks.length
    · obtain ⟨a, t, hA, hc, _, _⟩ := (HK.out.non hfr).el k hlt
      dsimp only at hA
      subst hA
      obtain ⟨c0, c1, c2, c3, c4, c5, c6, c7, c8⟩ := hc
      have HY := Lib.hid (fun h => kidOp_more hlt hne.out h)
      have HX : Hid ((ks[k].hd.op == op) = true → kidOp op ks = true) := Lib.hid (fun h => List.any_eq_true.2 ⟨_, List.getElem_mem hlt, h⟩)
      have M := fun W h => haskid1_any ks[k].hd t op g W h
      have HB := Lib.hid (HG.out.fr hfr (fun e => e))
      clear hne
      generalize ks[k].hd = x at *
      obtain ⟨xo, xc, xm, ⟨xn, xi, xt⟩, xk, xp⟩ := x
      obtain ⟨tA, tn, tc⟩ := t
      unfold pdV pdC kidV at M
      dsimp only at c0 c1 c2 c3 c4 c5 c6 c7 c8 HY HX M
      have HF := Lib.hid hfr
      clear hfr
      cases hx : (xo == op)
      · have HE := Lib.hid (HY.out hx)
        simp only [hx] at M
        replace M := Lib.hid M
        clear HX HY hx
        go_wp2_with fail
        refine (M.out _ HB.out).mono ?_
        rintro e w2 ⟨rfl, f2⟩
        go_wp2
        go_roundw
        case rel => exact ⟨k + 1, by omega, by go_num, HE, HF.out.trans f2⟩
        case measure => simp [intOf]; omega
      · have HE := Lib.hid (HX.out hx)
        simp only [hx] at M
        replace M := Lib.hid M
        clear HX HY hx
        go_wp2_with fail
        refine (M.out _ HB.out).mono ?_
        rintro e w2 ⟨rfl, f2⟩
        go_wp2
        go_ret
        exact ⟨_, rfl, by rw [HE.out]; exact decide_eq_true (by omega), HF.out.trans f2⟩
    · have HE : Hid (kidOp op ks = false) := Lib.hid (by have := hne.out; rwa [List.take_of_length_le (by omega)] at this)
      clear hne
      go_wp2
      go_ret
      exact ⟨_, rfl, by rw [HE.out]; rfl, hfr⟩
theorem pcont_any (s : Kv) (ks : List Pd) (op : Int) (g : Nat) (w : World) (hk : Kd w s ks) (hg : Blk w g 3 #[.int .i64 op]) (hl : ks.length ≤ 1000000000) :
    Calls Tryz.prog 129 #[kidV s, .func (.func 130) #[] #[.pointer (some ⟨g, 0, none⟩)]] w fun e w' => e = .returned (.bool (kidOp op ks)) ∧ Fr Non w w' := by
  have h0 := Lib.hid (pidx_any s ks op g w hk hg hl)
  clear hk hg
  obtain ⟨A, n, c⟩ := s
  unfold kidV at *
  dsimp only at *
  go_enter Tryz.func129, Tryz.ntmps129
  go_wp2_with fail
  refine h0.out.mono ?_
  rintro e w1 ⟨z, rfl, hz, f1⟩
  go_wp2
  go_ret
  exact ⟨rfl, f1⟩
theorem haskid_any (h : Ph) (s : Kv) (ks : List Pd) (op : Int) (w : World) (hk : Kd w s ks) (hl : ks.length ≤ 1000000000) :
    Calls Tryz.prog 112 #[pdV h s, .int .i64 op] w fun e w' => e = .returned (.bool (kidOp op ks)) ∧ Fr Non w w' := by
  have F0 : Hid (Fr Non w ((w.alloc (.cells (pdC h s) 28)).alloc (.cells #[.int .i64 op] 3))) := Lib.hid (((Fr.refl Non w).alloc _).alloc _)
  have e1 : (w.alloc (.cells (pdC h s) 28)).heap.size = w.heap.size + 1 := by simp
  have b2 := Blk.new (w.alloc (.cells (pdC h s) 28)) 3 #[.int .i64 op]
  rw [e1] at b2
  have C1 := Lib.hid (pcont_any s ks op _ _ (hk.non F0.out) b2 hl)
  have hmf : ∀ (fn : Fn) (first cap : Array Value) (w : World), (Instr.makeFunc fn first cap).run Tryz.prog w = .ok (.func fn first cap) w := fun _ _ _ _ => rfl
  clear hk b2 e1
  obtain ⟨ho, hc, hm, ⟨hn, hi, ht⟩, hk', hp⟩ := h
  obtain ⟨A, n, c⟩ := s
  unfold pdV pdC kidV at *
  dsimp only at *
  go_enter Tryz.func112, Tryz.ntmps112
  go_wp2_with fail
  refine C1.out.mono ?_
  rintro e w1 ⟨rfl, f1⟩
  go_wp2
  go_ret
  exact ⟨rfl, F0.out.trans f1⟩

/-! ### One alone -/
theorem hd_one {h : Ph} {ks : List Pd} (e : h.op = 1) : hdOk h ks = (decide (ks.length = 0) && peq h ⟨h.op, [], 0, zCl, 0, []⟩) := by unfold hdOk; rw [if_pos e]; rfl
theorem hd_ask {h : Ph} {ks : List Pd} (e : h.op = 2 ∨ h.op = 3 ∨ h.op = 4) : hdOk h ks = (decide (ks.length = 0) && askOk h) := by unfold hdOk; rw [if_neg (by omega), if_pos e]
theorem hd_not {h : Ph} {ks : List Pd} (e : h.op = 5) : hdOk h ks = (decide (ks.length = 1) && peq h ⟨h.op, [], 0, zCl, 0, []⟩) := by unfold hdOk; rw [if_neg (by omega), if_neg (by omega), if_pos e]; rfl
theorem hd_two {h : Ph} {ks : List Pd} (e : h.op = 6 ∨ h.op = 7) : hdOk h ks = (decide (1 < ks.length) && peq h ⟨h.op, [], 0, zCl, 0, []⟩ && !kidOp h.op ks) := by unfold hdOk; rw [if_neg (by omega), if_neg (by omega), if_neg (by omega), if_pos e]; rfl
theorem hd_none {h : Ph} {ks : List Pd} (h1 : ¬ h.op = 1) (h2 : ¬ (h.op = 2 ∨ h.op = 3 ∨ h.op = 4)) (h3 : ¬ h.op = 5) (h4 : ¬ (h.op = 6 ∨ h.op = 7)) : hdOk h ks = false := by unfold hdOk; rw [if_neg h1, if_neg h2, if_neg h3, if_neg h4]

set_option maxHeartbeats 4000000 in
theorem alone_any (h : Ph) (s : Kv) (ks : List Pd) (w : World) (hk : Kd w s ks) (hl : ks.length ≤ 1000000000) (hc : h.col.length ≤ 1000000000) :
    Calls Tryz.prog 82 #[pdV h s] w fun e w' => e = .returned (.bool (hdOk h ks)) ∧ Fr Non w w' := by
  have hn := hk.len
  have B0 := Lib.hid (pd_new w _ h s rfl)
  have F0 : Hid (Fr Non w _) := Lib.hid ((Fr.refl Non w).alloc (.cells (pdC h s) 28))
  have HK := Lib.hid (hk.non F0.out)
  have A1 := Lib.hid (fun W => alike_any h ⟨h.op, [], 0, zCl, 0, []⟩ s noKv W)
  have A2 := Lib.hid (fun W => mayask_any h s W hc)
  have A3 := Lib.hid (fun W hk => haskid_any h s ks h.op W hk hl)
  have H1 := Lib.hid (fun e => hd_one (h := h) (ks := ks) e)
  have H2 := Lib.hid (fun e => hd_ask (h := h) (ks := ks) e)
  have H3 := Lib.hid (fun e => hd_not (h := h) (ks := ks) e)
  have H4 := Lib.hid (fun e => hd_two (h := h) (ks := ks) e)
  have H5 := Lib.hid (fun a b c d => hd_none (h := h) (ks := ks) a b c d)
  clear hk
  obtain ⟨op, col, cmp, ⟨vn, vi, vt⟩, kind, pat⟩ := h
  obtain ⟨sA, n, sc⟩ := s
  dsimp only at hn
  have HL := Lib.hid hn
  clear hn
  unfold pdV pdC kidV at *
  unfold noKv at A1
  unfold zCl at A1 H1 H3 H4
  dsimp only at *
  by_cases h1 : op = 1
  · subst h1
    have HE := Lib.hid (H1.out rfl)
    clear H1 H2 H3 H4 H5 A2 A3 HK
    by_cases h0 : n = 0
    · subst h0
      have HE2 := Lib.hid (decide_eq_true HL.out.symm)
      go_enter Tryz.func82, Tryz.ntmps82
      go_wp2_with fail
      refine (A1.out _).mono ?_
      rintro e w1 ⟨rfl, f1⟩
      go_wp2
      go_ret
      exact ⟨ret_boolE (by rw [HE.out, HE2.out]; rfl), F0.out.trans f1⟩
    · have hb : ((n : Int) == 0) = false := by rw [beq_eq_false_iff_ne]; omega
      have HE2 : Hid (decide (ks.length = 0) = false) := Lib.hid (decide_eq_false (fun e => h0 (HL.out.trans e)))
      clear h0
      go_enter Tryz.func82, Tryz.ntmps82
      go_wp2
      go_ret
      exact ⟨ret_boolE (by rw [HE.out, HE2.out]; rfl), F0.out⟩
  · by_cases h2 : op = 2
    · subst h2
      have HE := Lib.hid (H2.out (by omega))
      clear H1 H2 H3 H4 H5 A1 A3 HK
      by_cases h0 : n = 0
      · subst h0
        have HE2 := Lib.hid (decide_eq_true HL.out.symm)
        go_enter Tryz.func82, Tryz.ntmps82
        go_wp2_with fail
        refine (A2.out _).mono ?_
        rintro e w1 ⟨rfl, f1⟩
        go_wp2
        go_ret
        exact ⟨ret_boolE (by rw [HE.out, HE2.out]; rfl), F0.out.trans f1⟩
      · have hb : ((n : Int) == 0) = false := by rw [beq_eq_false_iff_ne]; omega
        have HE2 : Hid (decide (ks.length = 0) = false) := Lib.hid (decide_eq_false (fun e => h0 (HL.out.trans e)))
        clear h0
        go_enter Tryz.func82, Tryz.ntmps82
        go_wp2
        go_ret
        exact ⟨ret_boolE (by rw [HE.out, HE2.out]; rfl), F0.out⟩
    · by_cases h3 : op = 3
      · subst h3
        have HE := Lib.hid (H2.out (by omega))
        clear H1 H2 H3 H4 H5 A1 A3 HK
        by_cases h0 : n = 0
        · subst h0
          have HE2 := Lib.hid (decide_eq_true HL.out.symm)
          go_enter Tryz.func82, Tryz.ntmps82
          go_wp2_with fail
          refine (A2.out _).mono ?_
          rintro e w1 ⟨rfl, f1⟩
          go_wp2
          go_ret
          exact ⟨ret_boolE (by rw [HE.out, HE2.out]; rfl), F0.out.trans f1⟩
        · have hb : ((n : Int) == 0) = false := by rw [beq_eq_false_iff_ne]; omega
          have HE2 : Hid (decide (ks.length = 0) = false) := Lib.hid (decide_eq_false (fun e => h0 (HL.out.trans e)))
          clear h0
          go_enter Tryz.func82, Tryz.ntmps82
          go_wp2
          go_ret
          exact ⟨ret_boolE (by rw [HE.out, HE2.out]; rfl), F0.out⟩
      · by_cases h4 : op = 4
        · subst h4
          have HE := Lib.hid (H2.out (by omega))
          clear H1 H2 H3 H4 H5 A1 A3 HK
          by_cases h0 : n = 0
          · subst h0
            have HE2 := Lib.hid (decide_eq_true HL.out.symm)
            go_enter Tryz.func82, Tryz.ntmps82
            go_wp2_with fail
            refine (A2.out _).mono ?_
            rintro e w1 ⟨rfl, f1⟩
            go_wp2
            go_ret
            exact ⟨ret_boolE (by rw [HE.out, HE2.out]; rfl), F0.out.trans f1⟩
          · have hb : ((n : Int) == 0) = false := by rw [beq_eq_false_iff_ne]; omega
            have HE2 : Hid (decide (ks.length = 0) = false) := Lib.hid (decide_eq_false (fun e => h0 (HL.out.trans e)))
            clear h0
            go_enter Tryz.func82, Tryz.ntmps82
            go_wp2
            go_ret
            exact ⟨ret_boolE (by rw [HE.out, HE2.out]; rfl), F0.out⟩
        · by_cases h5 : op = 5
          · subst h5
            have HE := Lib.hid (H3.out rfl)
            clear H1 H2 H3 H4 H5 A2 A3 HK
            by_cases h0 : n = 1
            · subst h0
              have HE2 := Lib.hid (decide_eq_true HL.out.symm)
              go_enter Tryz.func82, Tryz.ntmps82
              go_wp2_with fail
              refine (A1.out _).mono ?_
              rintro e w1 ⟨rfl, f1⟩
              go_wp2
              go_ret
              exact ⟨ret_boolE (by rw [HE.out, HE2.out]; rfl), F0.out.trans f1⟩
            · have hb : ((n : Int) == 1) = false := by rw [beq_eq_false_iff_ne]; omega
              have HE2 : Hid (decide (ks.length = 1) = false) := Lib.hid (decide_eq_false (fun e => h0 (HL.out.trans e)))
              clear h0
              go_enter Tryz.func82, Tryz.ntmps82
              go_wp2
              go_ret
              exact ⟨ret_boolE (by rw [HE.out, HE2.out]; rfl), F0.out⟩
          · by_cases h6 : op = 6
            · subst h6
              have HE := Lib.hid (H4.out (by omega))
              clear H1 H2 H3 H4 H5 A2
              by_cases h0 : 1 < n
              · have HE2 : Hid (decide (1 < ks.length) = true) := Lib.hid (decide_eq_true (by have := HL.out; omega))
                generalize hq : peq ⟨6, col, cmp, ⟨vn, vi, vt⟩, kind, pat⟩ _ = q at *
                clear hq
                go_enter Tryz.func82, Tryz.ntmps82
                go_wp2_with fail
                refine (A1.out _).mono ?_
                rintro e w1 ⟨rfl, f1⟩
                obtain ⟨g0, g1, g2, g3, g4, g5, g6, g7, g8⟩ := pdB_cells (B0.out.fr f1 (fun e => e))
                dsimp only at g0 g1 g2 g3 g4 g5 g6 g7 g8
                have HK1 := Lib.hid (HK.out.non f1)
                have F1 := Lib.hid (F0.out.trans f1)
                clear f1 F0 B0
                cases q
                · go_wp2
                  go_ret
                  exact ⟨ret_boolE (by rw [HE.out, HE2.out]; rfl), F1.out⟩
                · go_wp2_with fail
                  refine (A3.out _ HK1.out).mono ?_
                  rintro e w2 ⟨rfl, f2⟩
                  go_wp2
                  go_ret
                  exact ⟨ret_boolE (by rw [HE.out, HE2.out]; rfl), F1.out.trans f2⟩
              · have HE2 : Hid (decide (1 < ks.length) = false) := Lib.hid (decide_eq_false (by have := HL.out; omega))
                clear A1 A3
                go_enter Tryz.func82, Tryz.ntmps82
                go_wp2
                go_ret
                exact ⟨ret_boolE (by rw [HE.out, HE2.out]; rfl), F0.out⟩
            · by_cases h7 : op = 7
              · subst h7
                have HE := Lib.hid (H4.out (by omega))
                clear H1 H2 H3 H4 H5 A2
                by_cases h0 : 1 < n
                · have HE2 : Hid (decide (1 < ks.length) = true) := Lib.hid (decide_eq_true (by have := HL.out; omega))
                  generalize hq : peq ⟨7, col, cmp, ⟨vn, vi, vt⟩, kind, pat⟩ _ = q at *
                  clear hq
                  go_enter Tryz.func82, Tryz.ntmps82
                  go_wp2_with fail
                  refine (A1.out _).mono ?_
                  rintro e w1 ⟨rfl, f1⟩
                  obtain ⟨g0, g1, g2, g3, g4, g5, g6, g7, g8⟩ := pdB_cells (B0.out.fr f1 (fun e => e))
                  dsimp only at g0 g1 g2 g3 g4 g5 g6 g7 g8
                  have HK1 := Lib.hid (HK.out.non f1)
                  have F1 := Lib.hid (F0.out.trans f1)
                  clear f1 F0 B0
                  cases q
                  · go_wp2
                    go_ret
                    exact ⟨ret_boolE (by rw [HE.out, HE2.out]; rfl), F1.out⟩
                  · go_wp2_with fail
                    refine (A3.out _ HK1.out).mono ?_
                    rintro e w2 ⟨rfl, f2⟩
                    go_wp2
                    go_ret
                    exact ⟨ret_boolE (by rw [HE.out, HE2.out]; rfl), F1.out.trans f2⟩
                · have HE2 : Hid (decide (1 < ks.length) = false) := Lib.hid (decide_eq_false (by have := HL.out; omega))
                  clear A1 A3
                  go_enter Tryz.func82, Tryz.ntmps82
                  go_wp2
                  go_ret
                  exact ⟨ret_boolE (by rw [HE.out, HE2.out]; rfl), F0.out⟩
              · have HE := Lib.hid (H5.out h1 (by omega) h5 (by omega))
                clear H1 H2 H3 H4 H5 A1 A2 A3 HK B0
                go_enter Tryz.func82, Tryz.ntmps82
                go_wp2
                go_ret
                exact ⟨ret_boolE HE.out.symm, F0.out⟩
end Go.Proofs.YtjcfjjhhbcgcmaaGreat
