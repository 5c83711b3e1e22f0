/-
  Joined: Queries read of tokens: what a right text of the grammar is, and the place of the first token at which none goes on. Nothing of the program. · Predicates' texts read again: a reader of texts (of lists of bytes, by so many steps), which reads each predicate's text as the predicate: so unlike ones have unlike texts. Nothing of the program. · The tokens of a predicate's text, and that they are read as it. Nothing of the program. · The tokens of a predicate's text are those that are laid out. Nothing of the program. · Unlike queries have unlike texts; nothing of the program. · The tokens of a query's text, and that they are read as it. Nothing of the program. · Predicates and queries that are not too great to be asked whether they may be. Nothing of the program. · Tokens that come out of a text; what is read of them, how much of it, how great it may be; a list read step by step. Nothing of the program. · A token as a value, of both programs; slices of tokens; a token in a block. · Slices of texts: a text's cell; what their type is. · Layer 12: letters, digits, words. · Layer 12: which texts may be names, both programs'.
-/
import Derived.Laws.StructEq
import Derived.Laws.Rows
import Derived.Laws.ResultCell
import Derived.Lib.Zigzag
import Derived.Laws.Cover1
import Derived.Deep.QuietTactic
import Derived.BigQuiet
import Derived.Deep.RegionHeld3
import Derived.Deep.DrawnRows
import Derived.Deep.Cut
import Derived.StillTail
import Derived.Deep.RegionWith
import Derived.Test.YtipgaafgnefmdaaGreatDoorZ1
import Derived.Laws.RangeAny

namespace Go.Proofs.YtipgaafgnefmdaaGreatDoor
set_option linter.unusedVariables false
set_option linter.unusedSimpArgs false
set_option maxRecDepth 100000
open Go.RowKit

/-- what a reader tells: what is read and the tokens left, or the place of the token at which nothing right goes on -/
abbrev Rd (α : Type) := Except Int (α × List Tk)
def hdT (l : List Tk) : Tk := l.headD noTk
def isK (k : Int) (s : Tx) (l : List Tk) : Bool := decide ((hdT l).kind = k) && decide ((hdT l).txt = s)
/-- behind the next token; the last one stays -/
def tlK (l : List Tk) : List Tk := if (hdT l).kind = 0 then l else l.tail
def errK {α : Type} (l : List Tk) : Except Int α := .error (hdT l).at_
def mustK (k : Int) (s : Tx) (l : List Tk) : Except Int (List Tk) := if isK k s l = true then .ok (tlK l) else errK l
def namedK (l : List Tk) : Bool := decide ((hdT l).kind = 1) && nameB (hdT l).txt
def nameK (l : List Tk) : Rd Tx := if namedK l = true then .ok ((hdT l).txt, tlK l) else errK l
def trueW : Tx := [116, 114, 117, 101]
def falseW : Tx := [102, 97, 108, 115, 101]
def isW : Tx := [105, 115]
def nullW : Tx := [110, 117, 108, 108]
def likeW : Tx := [108, 105, 107, 101]
def notW : Tx := [110, 111, 116]
def allW : Tx := [97, 108, 108]
def andW : Tx := [97, 110, 100]
def orW : Tx := [111, 114]
/-- a value, and its kind -/
def valK (l : List Tk) : Rd (Cl × Int) :=
  if (hdT l).kind = 2 then .ok ((⟨false, (hdT l).num, []⟩, 1), tlK l)
  else if (hdT l).kind = 3 then .ok ((⟨false, 0, (hdT l).txt⟩, 3), tlK l)
  else if isK 1 trueW l = true then .ok ((⟨false, 1, []⟩, 2), tlK l)
  else if isK 1 falseW l = true then .ok ((⟨false, 0, []⟩, 2), tlK l)
  else errK l
def signK (s : Tx) : Int := if s = [61] then 1 else if s = [60, 62] then 2 else if s = [60] then 3 else if s = [60, 61] then 4 else if s = [62] then 5 else if s = [62, 61] then 6 else 0
/-- what is asked of a column -/
def askedK (l : List Tk) : Rd Pd :=
  match nameK l with
  | .error e => .error e
  | .ok (c, r) =>
    if isK 1 isW r = true then (match mustK 1 nullW (tlK r) with | .error e => .error e | .ok r2 => .ok (.mk ⟨3, c, 0, zCl, 0, []⟩ [], r2))
    else if isK 1 likeW r = true then (if (hdT (tlK r)).kind = 3 then .ok (.mk ⟨4, c, 0, zCl, 0, (hdT (tlK r)).txt⟩ [], tlK (tlK r)) else errK (tlK r))
    else if (hdT r).kind = 4 ∧ signK (hdT r).txt ≠ 0 then (match valK (tlK r) with | .error e => .error e | .ok ((v, k), r2) => .ok (.mk ⟨2, c, signK (hdT r).txt, v, k, []⟩ [], r2))
    else errK r
/-- one behind each w, as long as w is the next -/
def chainK (step : List Tk → Rd Pd) (w : Tx) : Nat → List Tk → Rd (List Pd)
  | 0, l => .ok ([], l)
  | n + 1, l => if isK 1 w l = true then (match step (tlK l) with
      | .error e => .error e
      | .ok (p, r) => match chainK step w n r with | .error e => .error e | .ok (ps, r2) => .ok (p :: ps, r2)) else .ok ([], l)
def foldK (op : Int) (p : Pd) (ps : List Pd) : Pd := if ps = [] then p else .mk ⟨op, [], 0, zCl, 0, []⟩ (p :: ps)
def levelK (op : Int) (w : Tx) (step : List Tk → Rd Pd) (l : List Tk) : Rd Pd :=
  match step l with
  | .error e => .error e
  | .ok (p, r) => match chainK step w r.length r with | .error e => .error e | .ok (ps, r2) => .ok (foldK op p ps, r2)
def predOf (single : List Tk → Rd Pd) : List Tk → Rd Pd := levelK 7 orW (levelK 6 andW single)
/-- a single, with so many levels left -/
def singleK : Nat → List Tk → Rd Pd
  | 0, l => errK l
  | d + 1, l =>
    if isK 1 notW l = true then (match singleK d (tlK l) with | .error e => .error e | .ok (p, r) => .ok (.mk ⟨5, [], 0, zCl, 0, []⟩ [p], r))
    else if isK 4 [40] l = true then (match predOf (singleK d) (tlK l) with | .error e => .error e | .ok (p, r) => match mustK 4 [41] r with | .error e => .error e | .ok r2 => .ok (p, r2))
    else if isK 1 allW l = true then .ok (.mk ⟨1, [], 0, zCl, 0, []⟩ [], tlK l)
    else askedK l
def bothK (d : Nat) : List Tk → Rd Pd := levelK 6 andW (singleK d)
def predK (d : Nat) : List Tk → Rd Pd := predOf (singleK d)
theorem single_not {d : Nat} {l : List Tk} (h : isK 1 notW l = true) : singleK (d + 1) l = (match singleK d (tlK l) with | .error e => .error e | .ok (p, r) => .ok (.mk ⟨5, [], 0, zCl, 0, []⟩ [p], r)) := by rw [singleK, if_pos h]
theorem single_open {d : Nat} {l : List Tk} (h1 : isK 1 notW l = false) (h : isK 4 [40] l = true) : singleK (d + 1) l = (match predK d (tlK l) with | .error e => .error e | .ok (p, r) => match mustK 4 [41] r with | .error e => .error e | .ok r2 => .ok (p, r2)) := by rw [singleK, if_neg (by simp [h1]), if_pos h]; rfl
theorem single_all {d : Nat} {l : List Tk} (h1 : isK 1 notW l = false) (h2 : isK 4 [40] l = false) (h : isK 1 allW l = true) : singleK (d + 1) l = .ok (.mk ⟨1, [], 0, zCl, 0, []⟩ [], tlK l) := by rw [singleK, if_neg (by simp [h1]), if_neg (by simp [h2]), if_pos h]
theorem single_asked {d : Nat} {l : List Tk} (h1 : isK 1 notW l = false) (h2 : isK 4 [40] l = false) (h3 : isK 1 allW l = false) : singleK (d + 1) l = askedK l := by rw [singleK, if_neg (by simp [h1]), if_neg (by simp [h2]), if_neg (by simp [h3])]

/-! ### What is asked for -/
def selW : Tx := [115, 101, 108, 101, 99, 116]
def fromW : Tx := [102, 114, 111, 109]
def whereW : Tx := [119, 104, 101, 114, 101]
def groupW : Tx := [103, 114, 111, 117, 112]
def byW : Tx := [98, 121]
def aggW (s : Tx) : Int := if s = [99, 111, 117, 110, 116] then 1 else if s = [104, 97, 115] then 2 else if s = [115, 117, 109] then 3 else if s = [109, 105, 110] then 4 else if s = [109, 97, 120] then 5 else 0
def aggK (l : List Tk) : Rd Ag :=
  if (hdT l).kind = 1 ∧ aggW (hdT l).txt ≠ 0 then
    match mustK 4 [40] (tlK l) with
    | .error e => .error e
    | .ok r => if aggW (hdT l).txt = 1 then (match mustK 4 [42] r with | .error e => .error e | .ok r2 => match mustK 4 [41] r2 with | .error e => .error e | .ok r3 => .ok (⟨1, []⟩, r3))
      else (match nameK r with | .error e => .error e | .ok (c, r2) => match mustK 4 [41] r2 with | .error e => .error e | .ok r3 => .ok (⟨aggW (hdT l).txt, c⟩, r3))
  else errK l
/-- one behind each comma -/
def commaK {α : Type} (step : List Tk → Rd α) : Nat → List Tk → Rd (List α)
  | 0, l => .ok ([], l)
  | n + 1, l => if isK 4 [44] l = true then (match step (tlK l) with
      | .error e => .error e
      | .ok (p, r) => match commaK step n r with | .error e => .error e | .ok (ps, r2) => .ok (p :: ps, r2)) else .ok ([], l)
def listK {α : Type} (step : List Tk → Rd α) (l : List Tk) : Rd (List α) :=
  match step l with
  | .error e => .error e
  | .ok (p, r) => match commaK step r.length r with | .error e => .error e | .ok (ps, r2) => .ok (p :: ps, r2)
def whatK (l : List Tk) : Rd (List Tx × List Ag) :=
  if isK 4 [42] l = true then .ok (([], []), tlK l)
  else if namedK l = true then (match listK nameK l with | .error e => .error e | .ok (c, r) => .ok ((c, []), r))
  else (match listK aggK l with | .error e => .error e | .ok (g, r) => .ok (([], g), r))
def whereK (l : List Tk) : Rd Pd := if isK 1 whereW l = true then predK 6 (tlK l) else .ok (.mk ⟨1, [], 0, zCl, 0, []⟩ [], l)
def groupK (l : List Tk) : Rd Tx := if isK 1 groupW l = true then (match mustK 1 byW (tlK l) with | .error e => .error e | .ok r => nameK r) else .ok ([], l)
def endK {α : Type} (x : α) (l : List Tk) : Except Int α := if (hdT l).kind = 0 then .ok x else errK l
def queryK (l : List Tk) : Except Int Qy :=
  match mustK 1 selW l with
  | .error e => .error e
  | .ok l1 => match whatK l1 with
    | .error e => .error e
    | .ok ((c, g), l2) => match mustK 1 fromW l2 with
      | .error e => .error e
      | .ok l3 => match nameK l3 with
        | .error e => .error e
        | .ok (t, l4) => match whereK l4 with
          | .error e => .error e
          | .ok (p, l5) => match groupK l5 with
            | .error e => .error e
            | .ok (b, l6) => endK ⟨t, c, p, g, b⟩ l6
def wholeK (l : List Tk) : Except Int Pd := match predK 6 l with | .error e => .error e | .ok (p, r) => endK p r
/-- what Query, Where tell of a text: what is read, a number, an error -/
def noPd : Pd := .mk ⟨0, [], 0, zCl, 0, []⟩ []
def noQy : Qy := ⟨[], [], noPd, [], []⟩
def telQ (s : Tx) : Qy × Int × Int :=
  if (wsB s).2.2 ≠ 0 then (noQy, (wsB s).2.1, (wsB s).2.2) else match queryK (wsB s).1 with
    | .error a => (noQy, a, 2)
    | .ok q => if mayQ q = true then (q, s.length, 0) else (noQy, 0, 1)
def telP (s : Tx) : Pd × Int × Int :=
  if (wsB s).2.2 ≠ 0 then (noPd, (wsB s).2.1, (wsB s).2.2) else match wholeK (wsB s).1 with
    | .error a => (noPd, a, 2)
    | .ok p => if mayP p = true then (p, s.length, 0) else (noPd, 0, 1)
end Go.Proofs.YtipgaafgnefmdaaGreatDoor


namespace Go.Proofs.YtipgaafgnefmdaaGreatDoor
set_option linter.unusedVariables false
set_option linter.unusedSimpArgs false
set_option maxRecDepth 100000
open Go.RowKit

/-! ### A word -/
def wcB (c : UInt8) : Bool := decide (c ≠ 32 ∧ c ≠ 41)
/-- nothing, or what ends a word -/
def EndW (r : Tx) : Prop := r = [] ∨ ∃ c r', r = c :: r' ∧ wcB c = false
theorem endW_nil : EndW [] := .inl rfl
theorem endW_32 (r : Tx) : EndW (32 :: r) := .inr ⟨_, _, rfl, by decide⟩
theorem endW_41 (r : Tx) : EndW (41 :: r) := .inr ⟨_, _, rfl, by decide⟩
theorem endW_not {r : Tx} (h : EndW r) : r.head? ≠ some 39 := by
  rcases h with rfl | ⟨c, r', rfl, hc⟩
  · simp
  · intro e
    simp only [List.head?_cons, Option.some.injEq] at e
    subst e
    revert hc
    decide
/-! ### Values -/
theorem itoa_by (v : Int) (h : I64b v) : ∀ c ∈ Lib.itoa v, c = 45 ∨ digB c = true := by
  intro c hc
  rcases itoa_shape h rfl with ⟨_, h2, _, _⟩ | ⟨d, h1, _, h2, _, _⟩
  · exact .inr (List.all_eq_true.1 h2 c hc)
  · rw [h1] at hc
    rcases List.mem_cons.1 hc with rfl | hc
    · exact .inl rfl
    · exact .inr (List.all_eq_true.1 h2 c hc)
theorem itoa_hd1 (v : Int) (h : I64b v) : ∃ c r, Lib.itoa v = c :: r := by
  have : 1 ≤ (Lib.itoa v).length := by
    rcases itoa_shape h rfl with ⟨_, _, h3, _⟩ | ⟨d, h1, _, _, _, _⟩
    · exact h3
    · rw [h1]; simp
  cases e : Lib.itoa v with
  | nil => rw [e] at this; simp at this
  | cons c r => exact ⟨c, r, rfl⟩
/-! ### The reader -/
def bare (op : Int) : Ph := ⟨op, [], 0, zCl, 0, []⟩
/-! ### Groups -/
/-! ### Shapes -/
theorem bare_is {h : Ph} (e : bareH h = true) : h = bare h.op := by
  unfold bareH at e
  exact of_decide_eq_true e
def Shape (h : Ph) (ks : List Pd) : Prop :=
  (h = bare 1 ∧ ks = []) ∨ (∃ col cmp val kind, h = ⟨2, col, cmp, val, kind, []⟩ ∧ ks = [] ∧ nameB col = true ∧ 1 ≤ cmp ∧ cmp ≤ 6 ∧ mayC kind false val = true) ∨
  (∃ col, h = ⟨3, col, 0, zCl, 0, []⟩ ∧ ks = [] ∧ nameB col = true) ∨ (∃ col pat, h = ⟨4, col, 0, zCl, 0, pat⟩ ∧ ks = [] ∧ nameB col = true) ∨
  (∃ k, h = bare 5 ∧ ks = [k]) ∨ (h = bare 6 ∧ 1 < ks.length ∧ ∀ k ∈ ks, k.hd.op ≠ 6) ∨ (h = bare 7 ∧ 1 < ks.length ∧ ∀ k ∈ ks, k.hd.op ≠ 7)
theorem kidOp_no {op : Int} {ks : List Pd} (h : kidOp op ks = false) : ∀ k ∈ ks, k.hd.op ≠ op := by
  intro k hk e
  unfold kidOp at h
  rw [List.any_eq_false] at h
  exact h k hk (by simpa using e)
theorem shape_of {h : Ph} {ks : List Pd} (e : hdOk h ks = true) : Shape h ks := by
  unfold hdOk at e
  unfold Shape
  split at e
  · rename_i h1
    rw [Bool.and_eq_true, decide_eq_true_eq] at e
    have := bare_is e.2
    rw [h1] at this
    exact .inl ⟨this, List.eq_nil_of_length_eq_zero e.1⟩
  · split at e
    · rename_i h1 h2
      rw [Bool.and_eq_true, decide_eq_true_eq] at e
      have hk := List.eq_nil_of_length_eq_zero e.1
      have e2 := e.2
      unfold askOk at e2
      rw [Bool.and_eq_true] at e2
      obtain ⟨op, col, cmp, val, kind, pat⟩ := h
      dsimp only at h2 e2
      rcases h2 with rfl | rfl | rfl
      · rw [if_pos rfl, Bool.and_eq_true, Bool.and_eq_true, decide_eq_true_eq, decide_eq_true_eq] at e2
        obtain ⟨a, ⟨b, c⟩, d⟩ := e2
        exact .inr (.inl ⟨_, _, _, _, d, hk, a, b.1, b.2, c⟩)
      · rw [if_neg (by decide), if_neg (by decide), decide_eq_true_eq] at e2
        exact .inr (.inr (.inl ⟨_, e2.2, hk, e2.1⟩))
      · rw [if_neg (by decide), if_pos rfl, Bool.and_eq_true, decide_eq_true_eq, decide_eq_true_eq] at e2
        exact .inr (.inr (.inr (.inl ⟨_, _, e2.2.2, hk, e2.1⟩)))
    · split at e
      · rename_i h5
        rw [Bool.and_eq_true, decide_eq_true_eq] at e
        have := bare_is e.2
        rw [h5] at this
        obtain ⟨k, hk⟩ := List.length_eq_one_iff.1 e.1
        exact .inr (.inr (.inr (.inr (.inl ⟨k, this, hk⟩))))
      · split at e
        · rename_i h6
          rw [Bool.and_eq_true, Bool.and_eq_true, decide_eq_true_eq] at e
          obtain ⟨⟨a, b⟩, c⟩ := e
          have hb := bare_is b
          have hk := kidOp_no (by simpa using c)
          rcases h6 with h6 | h6
          · rw [h6] at hb hk
            exact .inr (.inr (.inr (.inr (.inr (.inl ⟨hb, a, hk⟩)))))
          · rw [h6] at hb hk
            exact .inr (.inr (.inr (.inr (.inr (.inr ⟨hb, a, hk⟩)))))
        · cases e
theorem name_wc {l : Tx} (h : nameB l = true) : l ≠ [] ∧ (∀ c ∈ l, wcB c = true ∧ c ≠ 40) ∧ l ≠ [97, 108, 108] ∧ l ≠ [110, 111, 116] := by
  have e := of_decide_eq_true h
  refine ⟨fun e0 => by rw [e0] at e; simp at e, fun c hc => ?_, fun e0 => ?_, fun e0 => ?_⟩
  · obtain ⟨j, hj, rfl⟩ := List.mem_iff_getElem.1 hc
    have := e.2.2.2 j hj
    have hb : ∀ c : UInt8, okI j c.toNat = true → (wcB c = true ∧ c ≠ 40) := by
      intro c hc
      have hne : ∀ n : UInt8, n.toNat < 48 → c ≠ n := by
        rintro n hn rfl
        unfold okI ltrI dgtI at hc
        simp only [Bool.or_eq_true, Bool.and_eq_true, decide_eq_true_eq] at hc
        omega
      exact ⟨decide_eq_true ⟨hne 32 (by decide), hne 41 (by decide)⟩, hne 40 (by decide)⟩
    exact hb _ this
  · rw [e0] at h; revert h; decide +kernel
  · rw [e0] at h; revert h; decide +kernel
/-! ### Read again -/
def EndE (r : Tx) : Prop := r = [] ∨ (∃ r', r = 41 :: r') ∨ ∃ r', r = 32 :: 103 :: r'
theorem EndE.w {r : Tx} (h : EndE r) : EndW r := by
  rcases h with rfl | ⟨r', rfl⟩ | ⟨r', rfl⟩
  · exact endW_nil
  · exact endW_41 _
  · exact endW_32 _
end Go.Proofs.YtipgaafgnefmdaaGreatDoor


namespace Go.Proofs.YtipgaafgnefmdaaGreatDoor
set_option linter.unusedVariables false
set_option linter.unusedSimpArgs false
set_option maxRecDepth 100000
open Go.RowKit

def nmK (s : Tx) (a : Nat) : Tk := ⟨1, s, 0, a⟩
def mkK (s : Tx) (a : Nat) : Tk := ⟨4, s, 0, a⟩
def valTk (k : Int) (c : Cl) (a : Nat) : Tk := if k = 1 then ⟨2, [], c.num, a⟩ else if k = 2 then nmK (if c.num = 0 then falseW else trueW) a else ⟨3, c.txt, 0, a⟩
/-- a predicate within: its op, its text, its tokens from a place on -/
structure Tt where
  op : Int
  txt : Tx
  tok : Nat → List Tk
def brkTk (ops : List Int) (x : Tt) (a : Nat) : List Tk := if x.op ∈ ops then mkK [40] a :: (x.tok (a + 1) ++ [mkK [41] (a + 1 + x.txt.length)]) else x.tok a
def lenTt (ops : List Int) (x : Tt) : Nat := (brk ops (x.op, x.txt)).length
def runTk (w : Tx) (ops : List Int) : Nat → List Tt → List Tk
  | _, [] => []
  | a, x :: r => nmK w (a + 1) :: (brkTk ops x (a + w.length + 2) ++ runTk w ops (a + w.length + 2 + lenTt ops x) r)
def joinTk (w : Tx) (ops : List Int) (a : Nat) : List Tt → List Tk
  | [] => []
  | x :: r => brkTk ops x a ++ runTk w ops (a + lenTt ops x) r
def tokH (h : Ph) (ts : List Tt) (a : Nat) : List Tk :=
  if h.op = 2 then [nmK h.col a, mkK (markB h.cmp) (a + h.col.length + 1), valTk h.kind h.val (a + h.col.length + 1 + (markB h.cmp).length + 1)]
  else if h.op = 3 then [nmK h.col a, nmK isW (a + h.col.length + 1), nmK nullW (a + h.col.length + 4)]
  else if h.op = 4 then [nmK h.col a, nmK likeW (a + h.col.length + 1), ⟨3, h.pat, 0, ((a + h.col.length + 6 : Nat) : Int)⟩]
  else if h.op = 5 then nmK notW a :: (match ts with | x :: _ => brkTk [6, 7] x (a + 4) | [] => [])
  else if h.op = 6 then joinTk andW [7] a ts
  else if h.op = 7 then joinTk orW [] a ts
  else [nmK allW a]
mutual
def tokP : Pd → Nat → List Tk | .mk h ks => tokH h (tokL ks)
def tokL : List Pd → List Tt | [] => [] | k :: r => ⟨k.hd.op, textP k, tokP k⟩ :: tokL r
end
def itmK (k : Pd) : Tt := ⟨k.hd.op, textP k, tokP k⟩
theorem tokL_map (l : List Pd) : tokL l = l.map itmK := by
  induction l with
  | nil => rw [tokL]; rfl
  | cons k r ih => rw [tokL, ih]; rfl
theorem tokP_is (h : Ph) (ks : List Pd) (a : Nat) : tokP (.mk h ks) a = tokH h (ks.map itmK) a := by rw [tokP, tokL_map]
def bTk (p : Pd) (a : Nat) : List Tk := brkTk [6, 7] (itmK p) a

theorem hd_cons (t : Tk) (l : List Tk) : hdT (t :: l) = t := rfl
theorem tl_cons {t : Tk} {l : List Tk} (h : ¬ t.kind = 0) : tlK (t :: l) = l := by unfold tlK; rw [hd_cons, if_neg h]; rfl
theorem is_nm (s w : Tx) (a : Nat) (l : List Tk) : isK 1 w (nmK s a :: l) = decide (s = w) := by
  unfold isK
  rw [hd_cons]
  simp [nmK]
  exact decide_eq_decide.2 Iff.rfl
theorem is_nm4 (s w : Tx) (a : Nat) (l : List Tk) : isK 4 w (nmK s a :: l) = false := by unfold isK; rw [hd_cons]; simp [nmK]
theorem is_mk (s w : Tx) (a : Nat) (l : List Tk) : isK 4 w (mkK s a :: l) = decide (s = w) := by
  unfold isK
  rw [hd_cons]
  simp [mkK]
  exact decide_eq_decide.2 Iff.rfl
theorem is_mk1 (s w : Tx) (a : Nat) (l : List Tk) : isK 1 w (mkK s a :: l) = false := by unfold isK; rw [hd_cons]; simp [mkK]
theorem tl_nm (s : Tx) (a : Nat) (l : List Tk) : tlK (nmK s a :: l) = l := tl_cons (by simp [nmK])
theorem tl_mk (s : Tx) (a : Nat) (l : List Tk) : tlK (mkK s a :: l) = l := tl_cons (by simp [mkK])
theorem must_nm (w : Tx) (a : Nat) (l : List Tk) : mustK 1 w (nmK w a :: l) = .ok l := by unfold mustK; rw [is_nm, decide_eq_true rfl, if_pos rfl, tl_nm]
theorem must_mk (w : Tx) (a : Nat) (l : List Tk) : mustK 4 w (mkK w a :: l) = .ok l := by unfold mustK; rw [is_mk, decide_eq_true rfl, if_pos rfl, tl_mk]
theorem name_nm {s : Tx} (h : nameB s = true) (a : Nat) (l : List Tk) : nameK (nmK s a :: l) = .ok (s, l) := by
  unfold nameK namedK
  rw [hd_cons, tl_nm]
  simp [nmK, h]
theorem val_tk {k : Int} {c : Cl} (hm : mayC k false c = true) (a : Nat) (r : List Tk) : valK (valTk k c a :: r) = .ok ((c, k), r) := by
  obtain ⟨n, i, t⟩ := c
  unfold mayC at hm
  rw [Bool.and_eq_true] at hm
  obtain ⟨ht, hm⟩ := hm
  cases n
  · rw [if_neg (by simp)] at hm
    dsimp only at hm
    unfold isTy at ht
    by_cases h3 : k = 3
    · subst h3
      rw [if_pos rfl, Bool.and_eq_true, beq_iff_eq] at hm
      obtain ⟨rfl, _⟩ := hm
      show valK (⟨3, t, 0, (a : Int)⟩ :: r) = _
      unfold valK
      rw [hd_cons, tl_cons (by simp)]
      simp
    · rw [if_neg h3, Bool.and_eq_true] at hm
      obtain ⟨hte, hm⟩ := hm
      obtain rfl : t = [] := by simpa using hte
      by_cases h1 : k = 1
      · subst h1
        show valK (⟨2, [], i, (a : Int)⟩ :: r) = _
        unfold valK
        rw [hd_cons, tl_cons (by simp)]
        simp
      · have h2 : k = 2 := by
          simp only [Bool.or_eq_true, beq_iff_eq] at ht
          omega
        subst h2
        have hi : i = 0 ∨ i = 1 := by
          simp only [Bool.or_eq_true, beq_iff_eq] at hm
          omega
        rcases hi with rfl | rfl
        · show valK (nmK falseW a :: r) = _
          unfold valK
          rw [is_nm, is_nm, hd_cons, tl_nm]
          simp [nmK, trueW, falseW]
        · show valK (nmK trueW a :: r) = _
          unfold valK
          rw [is_nm, is_nm, hd_cons, tl_nm]
          simp [nmK, trueW, falseW]
  · rw [if_pos rfl] at hm
    simp at hm
theorem sign_mark {n : Int} (h1 : 1 ≤ n) (h6 : n ≤ 6) : signK (markB n) = n := by
  have : n = 1 ∨ n = 2 ∨ n = 3 ∨ n = 4 ∨ n = 5 ∨ n = 6 := by omega
  rcases this with rfl | rfl | rfl | rfl | rfl | rfl <;> decide

/-! ### Chains -/
theorem run_len (w : Tx) (ops : List Int) (us : List Tt) : ∀ a r, us.length ≤ (runTk w ops a us ++ r).length := by
  induction us with
  | nil => intro a r; simp
  | cons x us ih =>
    intro a r
    have := ih (a + w.length + 2 + lenTt ops x) r
    simp only [runTk, List.length_cons, List.cons_append, List.length_append] at this ⊢
    omega
theorem run_hd (w v : Tx) (ops : List Int) (us : List Tt) (a : Nat) {r : List Tk} (hr : isK 1 v r = false) (h : w ≠ v) : isK 1 v (runTk w ops a us ++ r) = false := by
  cases us with
  | nil => exact hr
  | cons x us =>
    rw [runTk, List.cons_append, is_nm]
    exact decide_eq_false h
theorem chain_ok (step : List Tk → Rd Pd) (w : Tx) (ops : List Int) (G : List Tk → Prop) (hG : ∀ us a r, G r → G (runTk w ops a us ++ r)) (us : List Pd) (hs : ∀ u ∈ us, ∀ a r, G r → step (brkTk ops (itmK u) a ++ r) = .ok (u, r)) {r : List Tk} (hr : isK 1 w r = false) (hg : G r) :
    ∀ n a, us.length ≤ n → chainK step w n (runTk w ops a (us.map itmK) ++ r) = .ok (us, r) := by
  induction us with
  | nil =>
    intro n a _
    show chainK step w n r = _
    cases n with
    | zero => rfl
    | succ n => rw [chainK, if_neg (by simp [hr])]
  | cons u us ih =>
    intro n a hn
    obtain ⟨n, rfl⟩ : ∃ m, n = m + 1 := ⟨n - 1, by simp at hn; omega⟩
    have e : runTk w ops a ((u :: us).map itmK) ++ r = nmK w (a + 1) :: (brkTk ops (itmK u) (a + w.length + 2) ++ (runTk w ops (a + w.length + 2 + lenTt ops (itmK u)) (us.map itmK) ++ r)) := by
      rw [List.map_cons, runTk, List.cons_append, List.append_assoc]
    rw [e, chainK, is_nm, decide_eq_true rfl, if_pos rfl, tl_nm, hs u (List.mem_cons_self ..) _ _ (hG _ _ _ hg)]
    simp only
    rw [ih (fun x hx => hs x (List.mem_cons_of_mem _ hx)) n _ (by simp at hn; omega)]
theorem level_ok (op : Int) (step : List Tk → Rd Pd) (w : Tx) (ops : List Int) (G : List Tk → Prop) (hG : ∀ us a r, G r → G (runTk w ops a us ++ r)) (u : Pd) (us : List Pd) (hs : ∀ x ∈ u :: us, ∀ a r, G r → step (brkTk ops (itmK x) a ++ r) = .ok (x, r)) {r : List Tk} (hr : isK 1 w r = false) (hg : G r) (a : Nat) :
    levelK op w step (joinTk w ops a ((u :: us).map itmK) ++ r) = .ok (foldK op u us, r) := by
  unfold levelK
  rw [List.map_cons, joinTk, List.append_assoc, hs u (List.mem_cons_self ..) _ _ (hG _ _ _ hg)]
  simp only
  rw [chain_ok step w ops G hG us (fun x hx => hs x (List.mem_cons_of_mem _ hx)) hr hg _ _ (by have := run_len w ops (us.map itmK) (a + lenTt ops (itmK u)) r; simpa using this)]
theorem level_one (op : Int) (step : List Tk → Rd Pd) (w : Tx) {l r : List Tk} {p : Pd} (h : step l = .ok (p, r)) (hr : isK 1 w r = false) : levelK op w step l = .ok (p, r) := by
  unfold levelK
  rw [h]
  simp only
  have : chainK step w r.length r = .ok ([], r) := by
    cases hn : r.length with
    | zero => rfl
    | succ n => rw [chainK, if_neg (by simp [hr])]
  rw [this]
  rfl

/-! ### Read as it -/
theorem asked_nm {c : Tx} (hn : nameB c = true) (d : Nat) (a : Nat) (l : List Tk) : singleK (d + 1) (nmK c a :: l) = askedK (nmK c a :: l) := by
  have h := name_wc hn
  refine single_asked ?_ (is_nm4 _ _ _ _) ?_
  · rw [is_nm]; exact decide_eq_false h.2.2.2
  · rw [is_nm]; exact decide_eq_false h.2.2.1
theorem bTk_atom {p : Pd} (h : p.hd.op ≠ 6 ∧ p.hd.op ≠ 7) (a : Nat) : bTk p a = tokP p a := by
  unfold bTk brkTk
  rw [if_neg (by simp [itmK, h.1, h.2])]
  rfl
theorem bTk_br {p : Pd} (h : p.hd.op = 6 ∨ p.hd.op = 7) (a : Nat) : bTk p a = mkK [40] a :: (tokP p (a + 1) ++ [mkK [41] (a + 1 + (textP p).length)]) := by
  unfold bTk brkTk
  rw [if_pos (by simpa [itmK] using h)]
  rfl
/-- what is read of p's tokens, with d levels left -/
structure RdP (d : Nat) (p : Pd) : Prop where
  one : depP p ≤ d → ∀ a r, singleK d (bTk p a ++ r) = .ok (p, r)
  both : (p.hd.op = 6 ∧ depP p ≤ d + 1) ∨ (p.hd.op ≠ 7 ∧ depP p ≤ d) → ∀ a r, isK 1 andW r = false → bothK d (tokP p a ++ r) = .ok (p, r)
  all : (p.hd.op = 6 ∨ p.hd.op = 7) ∧ depP p ≤ d + 1 ∨ depP p ≤ d → ∀ a r, isK 1 andW r = false → isK 1 orW r = false → predK d (tokP p a ++ r) = .ok (p, r)
theorem rdp_atom {d : Nat} {p : Pd} (h : p.hd.op ≠ 6 ∧ p.hd.op ≠ 7) (hs : depP p ≤ d → ∀ a r, singleK d (tokP p a ++ r) = .ok (p, r)) : RdP d p := by
  have hd : ∀ q : Prop, ((p.hd.op = 6 ∨ p.hd.op = 7) ∧ q ∨ depP p ≤ d) → depP p ≤ d := by
    rintro q (⟨e | e, _⟩ | e)
    · exact absurd e h.1
    · exact absurd e h.2
    · exact e
  have hb : depP p ≤ d → ∀ a r, isK 1 andW r = false → bothK d (tokP p a ++ r) = .ok (p, r) := fun e a r hr => level_one 6 _ andW (hs e a r) hr
  refine ⟨fun e a r => by rw [bTk_atom h]; exact hs e a r, fun e a r hr => hb ?_ a r hr, fun e a r hr ho => ?_⟩
  · rcases e with e | e
    · exact absurd e.1 h.1
    · exact e.2
  · exact level_one 7 _ orW (hb (hd _ e) a r hr) ho
theorem rdp_br {d : Nat} {p : Pd} (h : p.hd.op = 6 ∨ p.hd.op = 7) (hall : ∀ d, depP p ≤ d + 1 → ∀ a r, isK 1 andW r = false → isK 1 orW r = false → predK d (tokP p a ++ r) = .ok (p, r)) : depP p ≤ d → ∀ a r, singleK d (bTk p a ++ r) = .ok (p, r) := by
  intro hd a r
  have := dep_pos p
  obtain ⟨d, rfl⟩ : ∃ e, d = e + 1 := ⟨d - 1, by omega⟩
  rw [bTk_br h, List.cons_append, single_open (is_mk1 _ _ _ _) (by rw [is_mk]; rfl), tl_mk, List.append_assoc, hall d (by omega) _ _ (by exact is_mk1 _ _ _ _) (by exact is_mk1 _ _ _ _)]
  simp only [List.cons_append, List.nil_append]
  rw [must_mk]
theorem rdp (p : Pd) : oneP p = true → ∀ d, RdP d p := by
  induction p using Pd.ind with
  | h hd ks ih =>
    intro h1
    rw [oneP, Bool.and_eq_true, oneL_all] at h1
    have hone := List.all_eq_true.1 h1.2
    have hkid : ∀ k ∈ ks, ∀ d, RdP d k := fun k hk => ih k hk (hone k hk)
    have hdep : ∀ k ∈ ks, depP k + 1 ≤ depP (.mk hd ks) := fun k hk => by rw [depP]; have := depL_mem hk; omega
    have hs := shape_of h1.1
    unfold Shape at hs
    rcases hs with ⟨rfl, rfl⟩ | ⟨col, cmp, val, kind, rfl, rfl, a1, b1, c1, d1⟩ | ⟨col, rfl, rfl, a1⟩ | ⟨col, pat, rfl, rfl, a1⟩ | ⟨k, rfl, rfl⟩ | ⟨rfl, h2, h6⟩ | ⟨rfl, h2, h7⟩
    · intro d
      refine rdp_atom ⟨by simp [Pd.hd, bare], by simp [Pd.hd, bare]⟩ (fun e a r => ?_)
      have := dep_pos (.mk (bare 1) [])
      obtain ⟨d, rfl⟩ : ∃ e, d = e + 1 := ⟨d - 1, by omega⟩
      rw [tokP_is]
      show singleK (d + 1) (nmK allW a :: r) = _
      rw [single_all (by rw [is_nm]; decide) (is_nm4 _ _ _ _) (by rw [is_nm]; decide), tl_nm]
      rfl
    · intro d
      refine rdp_atom ⟨by simp [Pd.hd], by simp [Pd.hd]⟩ (fun e a r => ?_)
      have := dep_pos (.mk ⟨2, col, cmp, val, kind, []⟩ [])
      obtain ⟨d, rfl⟩ : ∃ e, d = e + 1 := ⟨d - 1, by omega⟩
      rw [tokP_is]
      show singleK (d + 1) (nmK col a :: mkK (markB cmp) _ :: valTk kind val _ :: r) = _
      rw [asked_nm a1]
      unfold askedK
      rw [name_nm a1]
      simp only
      rw [is_mk1, is_mk1, hd_cons, tl_mk, if_neg (by simp), if_neg (by simp), if_pos ⟨rfl, by show signK (markB cmp) ≠ 0; rw [sign_mark b1 c1]; omega⟩, val_tk d1]
      show Except.ok (Pd.mk ⟨2, col, signK (markB cmp), val, kind, []⟩ [], r) = _
      rw [sign_mark b1 c1]
    · intro d
      refine rdp_atom ⟨by simp [Pd.hd], by simp [Pd.hd]⟩ (fun e a r => ?_)
      have := dep_pos (.mk ⟨3, col, 0, zCl, 0, []⟩ [])
      obtain ⟨d, rfl⟩ : ∃ e, d = e + 1 := ⟨d - 1, by omega⟩
      rw [tokP_is]
      show singleK (d + 1) (nmK col a :: nmK isW _ :: nmK nullW _ :: r) = _
      rw [asked_nm a1]
      unfold askedK
      rw [name_nm a1]
      simp only
      rw [is_nm, decide_eq_true rfl, if_pos rfl, tl_nm, must_nm]
    · intro d
      refine rdp_atom ⟨by simp [Pd.hd], by simp [Pd.hd]⟩ (fun e a r => ?_)
      have := dep_pos (.mk ⟨4, col, 0, zCl, 0, pat⟩ [])
      obtain ⟨d, rfl⟩ : ∃ e, d = e + 1 := ⟨d - 1, by omega⟩
      rw [tokP_is]
      show singleK (d + 1) (nmK col a :: nmK likeW _ :: ⟨3, pat, 0, _⟩ :: r) = _
      rw [asked_nm a1]
      unfold askedK
      rw [name_nm a1]
      simp only
      rw [is_nm, if_neg (by decide), is_nm, decide_eq_true rfl, if_pos rfl, tl_nm, hd_cons, if_pos rfl, tl_cons (by simp)]
    · intro d
      refine rdp_atom ⟨by simp [Pd.hd, bare], by simp [Pd.hd, bare]⟩ (fun e a r => ?_)
      have hk := hdep k (List.mem_cons_self ..)
      obtain ⟨d, rfl⟩ : ∃ e, d = e + 1 := ⟨d - 1, by omega⟩
      rw [tokP_is]
      show singleK (d + 1) (nmK notW a :: (bTk k (a + 4)) ++ r) = _
      rw [List.cons_append, single_not (by rw [is_nm]; rfl), tl_nm, (hkid k (List.mem_cons_self ..) d).one (by omega)]
      rfl
    · have hb : ∀ d, depP (.mk (bare 6) ks) ≤ d + 1 → ∀ a r, isK 1 andW r = false → bothK d (tokP (.mk (bare 6) ks) a ++ r) = .ok (.mk (bare 6) ks, r) := by
        intro d hd a r hr
        match ks, h2 with
        | u :: us, h2 =>
          rw [tokP_is]
          show levelK 6 andW (singleK d) (joinTk andW [7] a ((u :: us).map itmK) ++ r) = _
          rw [level_ok 6 (singleK d) andW [7] (fun _ => True) (fun _ _ _ _ => trivial) u us (fun x hx a r _ => ?_) hr trivial]
          · unfold foldK
            rw [if_neg (by rintro rfl; simp at h2)]
            rfl
          · have h7 := (hkid x hx d).one (by have := hdep x hx; omega) a r
            have e : brkTk [7] (itmK x) a = bTk x a := by
              unfold bTk brkTk
              by_cases e7 : (itmK x).op = 7
              · rw [if_pos (by simp [e7]), if_pos (by simp [e7])]
              · rw [if_neg (by simpa using e7), if_neg (by
                  have := h6 x hx
                  simp only [List.mem_cons, List.mem_nil_iff, or_false]
                  rintro (e | e)
                  · exact this e
                  · exact e7 e)]
            rw [e]; exact h7
      have ha : ∀ d, depP (.mk (bare 6) ks) ≤ d + 1 → ∀ a r, isK 1 andW r = false → isK 1 orW r = false → predK d (tokP (.mk (bare 6) ks) a ++ r) = .ok (.mk (bare 6) ks, r) := fun d hd a r hr ho => level_one 7 _ orW (hb d hd a r hr) ho
      intro d
      refine ⟨rdp_br (.inl rfl) ha, fun e a r hr => hb d ?_ a r hr, fun e a r hr ho => ha d ?_ a r hr ho⟩
      · rcases e with e | e <;> omega
      · rcases e with e | e <;> omega
    · have ha : ∀ d, depP (.mk (bare 7) ks) ≤ d + 1 → ∀ a r, isK 1 andW r = false → isK 1 orW r = false → predK d (tokP (.mk (bare 7) ks) a ++ r) = .ok (.mk (bare 7) ks, r) := by
        intro d hd a r hr ho
        match ks, h2 with
        | u :: us, h2 =>
          rw [tokP_is]
          show levelK 7 orW (bothK d) (joinTk orW [] a ((u :: us).map itmK) ++ r) = _
          rw [level_ok 7 (bothK d) orW [] (fun r => isK 1 andW r = false) (fun us a r hr => run_hd orW andW [] us a hr (by decide)) u us (fun x hx a r hr => ?_) ho hr]
          · unfold foldK
            rw [if_neg (by rintro rfl; simp at h2)]
            rfl
          · have e : brkTk [] (itmK x) a = tokP x a := by
              unfold brkTk
              rw [if_neg (by simp)]; rfl
            rw [e]
            have := hdep x hx
            exact (hkid x hx d).both (.inr ⟨h7 x hx, by omega⟩) a r hr
      intro d
      refine ⟨rdp_br (.inr rfl) ha, fun e a r hr => ?_, fun e a r hr ho => ha d ?_ a r hr ho⟩
      · rcases e with e | e
        · exact absurd e.1 (by simp [Pd.hd, bare])
        · exact absurd rfl e.1
      · rcases e with e | e <;> omega
/-- all of it, with an end behind -/
theorem whole_ok {p : Pd} (h : mayP p = true) (a b : Nat) : wholeK (tokP p a ++ [⟨0, [], 0, b⟩]) = .ok p := by
  unfold mayP at h
  rw [Bool.and_eq_true, decide_eq_true_eq] at h
  unfold wholeK
  rw [(rdp p h.2 6).all (.inr h.1.2) a [⟨0, [], 0, b⟩] rfl rfl]
  rfl
end Go.Proofs.YtipgaafgnefmdaaGreatDoor


namespace Go.Proofs.YtipgaafgnefmdaaGreatDoor
set_option linter.unusedVariables false
set_option linter.unusedSimpArgs false
set_option maxRecDepth 100000
open Go.RowKit

/-! ### One token -/
/-- no letter, digit or _ at the head -/
def EndI (r : Tx) : Prop := r = [] ∨ ∃ c r', r = c :: r' ∧ innB c = false
theorem EndW.i {r : Tx} (h : EndW r) : EndI r := by
  rcases h with rfl | ⟨c, r', rfl, hc⟩
  · exact .inl rfl
  · refine .inr ⟨c, r', rfl, ?_⟩
    unfold wcB at hc
    have : c = 32 ∨ c = 41 := by
      have := of_decide_eq_false hc
      by_cases h1 : c = 32
      · exact .inl h1
      · by_cases h2 : c = 41
        · exact .inr h2
        · exact absurd ⟨h1, h2⟩ this
    rcases this with rfl | rfl <;> decide
theorem span_full {p : UInt8 → Bool} : ∀ {s r : Tx}, (∀ c ∈ s, p c = true) → (r = [] ∨ ∃ c r', r = c :: r' ∧ p c = false) → spanN p (s ++ r) = s.length
  | [], r, _, hr => by
    rcases hr with rfl | ⟨c, r', rfl, hc⟩
    · rfl
    · exact span_no hc
  | c :: s, r, hs, hr => by
    rw [List.cons_append, span_yes (hs c (List.mem_cons_self ..)), span_full (fun x hx => hs x (List.mem_cons_of_mem _ hx)) hr]
    rfl
/-- a word: it begins with a letter -/
def WordB (s : Tx) : Prop := (∃ c q, s = c :: q ∧ letB c = true) ∧ ∀ c ∈ s, innB c = true
theorem lex_word {s r : Tx} (hs : WordB s) (hr : EndI r) (a : Nat) : tokB a (s ++ r) = preT [nmK s a] (tokB (a + s.length) r) := by
  obtain ⟨⟨c, q, rfl, hc⟩, hi⟩ := hs
  have hsp := span_full hi hr
  have h1 : oneB (c :: (q ++ r)) = some (⟨1, c :: q, 0, 0⟩, (c :: q).length) := by
    rw [oneB, if_pos hc, ← List.cons_append, hsp, List.take_left]
  rw [List.cons_append, tok_one a h1, ← List.cons_append, List.drop_left]
  rfl
theorem name_isw {s : Tx} (h : nameB s = true) : WordB s := by
  have e := of_decide_eq_true h
  have hb : ∀ (j : Nat) (c : UInt8), okI j c.toNat = true → innB c = true := by
    intro j c hc
    unfold okI ltrI dgtI at hc
    unfold innB letB digB
    simp only [Bool.or_eq_true, Bool.and_eq_true, decide_eq_true_eq] at hc ⊢
    omega
  constructor
  · cases s with
    | nil => simp at e
    | cons c q =>
      refine ⟨c, q, rfl, ?_⟩
      have := e.2.2.2 0 (by simp)
      unfold okI ltrI dgtI at this
      unfold letB
      simp only [List.getElem_cons_zero, Bool.or_eq_true, Bool.and_eq_true, decide_eq_true_eq] at this ⊢
      omega
  · intro c hc
    obtain ⟨j, hj, rfl⟩ := List.mem_iff_getElem.1 hc
    exact hb j _ (e.2.2.2 j hj)
theorem lex_name {s r : Tx} (hs : nameB s = true) (hr : EndI r) (a : Nat) : tokB a (s ++ r) = preT [nmK s a] (tokB (a + s.length) r) := lex_word (name_isw hs) hr a
theorem lex_blank (a : Nat) (r : Tx) : tokB a (32 :: r) = tokB (a + 1) r := tok_blank a (by decide)
theorem one_mark {c : UInt8} {q r t : Tx} (h : letB c = false ∧ digB c = false ∧ c ≠ 45 ∧ c ≠ 39) (hm : mkT (c :: r) = some t) : oneB (c :: r) = some (⟨4, t, 0, 0⟩, t.length) := by
  rw [oneB, if_neg (by simp [h.1]), if_neg (by simp [h.2.1, h.2.2.1]), if_neg h.2.2.2, hm]
  rfl
theorem lex_mark1 (c : UInt8) (hc : c = 40 ∨ c = 41 ∨ c = 42 ∨ c = 44) (a : Nat) (r : Tx) : tokB a (c :: r) = preT [mkK [c] a] (tokB (a + 1) r) := by
  rcases hc with rfl | rfl | rfl | rfl
  · rw [tok_one a (one_mark (q := []) (t := [40]) (by decide) (by simp [mkT, marksL, List.isPrefixOf, List.find?_cons]))]; rfl
  · rw [tok_one a (one_mark (q := []) (t := [41]) (by decide) (by simp [mkT, marksL, List.isPrefixOf, List.find?_cons]))]; rfl
  · rw [tok_one a (one_mark (q := []) (t := [42]) (by decide) (by simp [mkT, marksL, List.isPrefixOf, List.find?_cons]))]; rfl
  · rw [tok_one a (one_mark (q := []) (t := [44]) (by decide) (by simp [mkT, marksL, List.isPrefixOf, List.find?_cons]))]; rfl
theorem lex_markB {n : Int} (h1 : 1 ≤ n) (h6 : n ≤ 6) (a : Nat) (r : Tx) : tokB a (markB n ++ 32 :: r) = preT [mkK (markB n) a] (tokB (a + (markB n).length) (32 :: r)) := by
  have : n = 1 ∨ n = 2 ∨ n = 3 ∨ n = 4 ∨ n = 5 ∨ n = 6 := by omega
  rcases this with rfl | rfl | rfl | rfl | rfl | rfl
  · show tokB a (61 :: 32 :: r) = _
    rw [tok_one a (one_mark (q := []) (t := [61]) (by decide) (by simp [mkT, marksL, List.isPrefixOf, List.find?_cons]))]; rfl
  · show tokB a (60 :: 62 :: 32 :: r) = _
    rw [tok_one a (one_mark (q := []) (t := [60, 62]) (by decide) (by simp [mkT, marksL, List.isPrefixOf, List.find?_cons]))]; rfl
  · show tokB a (60 :: 32 :: r) = _
    rw [tok_one a (one_mark (q := []) (t := [60]) (by decide) (by simp [mkT, marksL, List.isPrefixOf, List.find?_cons]))]; rfl
  · show tokB a (60 :: 61 :: 32 :: r) = _
    rw [tok_one a (one_mark (q := []) (t := [60, 61]) (by decide) (by simp [mkT, marksL, List.isPrefixOf, List.find?_cons]))]; rfl
  · show tokB a (62 :: 32 :: r) = _
    rw [tok_one a (one_mark (q := []) (t := [62]) (by decide) (by simp [mkT, marksL, List.isPrefixOf, List.find?_cons]))]; rfl
  · show tokB a (62 :: 61 :: 32 :: r) = _
    rw [tok_one a (one_mark (q := []) (t := [62, 61]) (by decide) (by simp [mkT, marksL, List.isPrefixOf, List.find?_cons]))]; rfl
theorem itoa_tail (v : Int) (h : I64b v) {c : UInt8} {q : Tx} (hq : Lib.itoa v = c :: q) : ∀ d ∈ q, digB d = true := by
  rcases itoa_shape h hq with ⟨_, h2, _, _⟩ | ⟨d, h1, _, h2, _, _⟩
  · exact fun x hx => List.all_eq_true.1 h2 x (List.mem_cons_of_mem _ hx)
  · obtain ⟨_, rfl⟩ := List.cons.inj h1
    exact fun x hx => List.all_eq_true.1 h2 x hx
theorem lex_num {v : Int} (hv : I64b v) {r : Tx} (hr : EndW r) (a : Nat) : tokB a (Lib.itoa v ++ r) = preT [⟨2, [], v, a⟩] (tokB (a + (Lib.itoa v).length) r) := by
  obtain ⟨c, q, hq⟩ := itoa_hd1 v hv
  have hb := itoa_by v hv
  have hc := hb c (by rw [hq]; exact List.mem_cons_self ..)
  have hq2 : ∀ d ∈ q, digB d = true := itoa_tail v hv hq
  have hr2 : r = [] ∨ ∃ c r', r = c :: r' ∧ digB c = false := by
    rcases hr.i with rfl | ⟨d, r', rfl, hd⟩
    · exact .inl rfl
    · refine .inr ⟨d, r', rfl, ?_⟩
      unfold innB at hd
      simp only [Bool.or_eq_false_iff] at hd
      exact hd.1.2
  have hsp := span_full hq2 hr2
  have hl : letB c = false := by
    rcases hc with rfl | hc
    · decide
    · unfold letB; unfold digB at hc; simp only [decide_eq_true_eq] at hc; exact decide_eq_false (by omega)
  have h1 : oneB (c :: (q ++ r)) = some (⟨2, [], v, 0⟩, (c :: q).length) := by
    rw [oneB, if_neg (by simp [hl]), if_pos (by rcases hc with rfl | hc <;> simp [*]), hsp]
    have e : (c :: (q ++ r)).take (1 + q.length) = c :: q := by
      rw [← List.cons_append, Nat.add_comm]
      exact List.take_left' rfl
    rw [e, ← hq, valB_itoa hv]
    simp [hq, Nat.add_comm]
  rw [hq, List.cons_append, tok_one a h1, ← List.cons_append, List.drop_left]
  rfl
theorem lex_text (t : Tx) {r : Tx} (hr : r.head? ≠ some 39) (a : Nat) : tokB a (quoT t ++ r) = preT [⟨3, t, 0, a⟩] (tokB (a + (quoT t).length) r) := by
  have e : quoT t ++ r = 39 :: (dblB t ++ 39 :: r) := by simp [quoT]
  have h1 : oneB (39 :: (dblB t ++ 39 :: r)) = some (⟨3, t, 0, 0⟩, (dblB t).length + 1 + 1) := by
    rw [oneB, if_neg (by decide), if_neg (by decide), if_pos rfl, qt_dbl t r hr]
    rfl
  have e2 : (39 :: (dblB t ++ 39 :: r)).drop ((dblB t).length + 1 + 1) = r := by
    have : 39 :: (dblB t ++ 39 :: r) = (39 :: (dblB t ++ [39])) ++ r := by simp
    rw [this, List.drop_left' (by simp)]
  rw [e, tok_one a h1, e2]
  have e3 : (quoT t).length = (dblB t).length + 1 + 1 := by simp [quoT]
  rw [e3]
  rfl
theorem lex_val {k : Int} {c : Cl} (hm : mayC k false c = true) (hn : I64b c.num) {r : Tx} (hr : EndW r) (a : Nat) : tokB a (valT k c ++ r) = preT [valTk k c a] (tokB (a + (valT k c).length) r) := by
  obtain ⟨n, i, t⟩ := c
  unfold mayC at hm
  rw [Bool.and_eq_true] at hm
  obtain ⟨ht, hm⟩ := hm
  cases n
  · rw [if_neg (by simp)] at hm
    dsimp only at hm hn
    unfold isTy at ht
    by_cases h3 : k = 3
    · subst h3
      exact lex_text t (endW_not hr) a
    · rw [if_neg h3, Bool.and_eq_true] at hm
      obtain ⟨hte, hm⟩ := hm
      obtain rfl : t = [] := by simpa using hte
      by_cases h1 : k = 1
      · subst h1
        exact lex_num hn hr a
      · have h2 : k = 2 := by
          simp only [Bool.or_eq_true, beq_iff_eq] at ht
          omega
        subst h2
        have hi : i = 0 ∨ i = 1 := by
          simp only [Bool.or_eq_true, beq_iff_eq] at hm
          omega
        rcases hi with rfl | rfl
        · exact lex_word (s := falseW) ⟨⟨_, _, rfl, by decide⟩, by decide⟩ hr.i a
        · exact lex_word (s := trueW) ⟨⟨_, _, rfl, by decide⟩, by decide⟩ hr.i a
  · rw [if_pos rfl] at hm
    simp at hm

/-! ### A predicate's -/
def LX (p : Pd) : Prop := ∀ a r, EndW r → tokB a (textP p ++ r) = preT (tokP p a) (tokB (a + (textP p).length) r)
theorem lex_brk (ops : List Int) {p : Pd} (hp : LX p) (a : Nat) {r : Tx} (hr : EndW r) : tokB a (brkP ops p ++ r) = preT (brkTk ops (itmK p) a) (tokB (a + (brkP ops p).length) r) := by
  by_cases h : p.hd.op ∈ ops
  · rw [show brkTk ops (itmK p) a = mkK [40] a :: (tokP p (a + 1) ++ [mkK [41] (a + 1 + (textP p).length)]) from if_pos h, show brkP ops p = 40 :: textP p ++ [41] from if_pos h]
    have e : 40 :: textP p ++ [41] ++ r = 40 :: (textP p ++ 41 :: r) := by simp
    rw [e, lex_mark1 40 (.inl rfl), hp _ _ (endW_41 r), lex_mark1 41 (.inr (.inl rfl)), preT_app, preT_app]
    have el : (40 :: textP p ++ [41]).length = 1 + (textP p).length + 1 := by simp; omega
    rw [el]
    simp only [List.cons_append, List.nil_append]
    congr 2
    omega
  · rw [show brkTk ops (itmK p) a = tokP p a from if_neg h, show brkP ops p = textP p from if_neg h]
    exact hp a r hr
theorem lex_run (w : Tx) (hw : WordB w) (ops : List Int) (us : List Pd) (hu : ∀ u ∈ us, LX u) : ∀ (a : Nat) (r : Tx), EndW r →
    tokB a (us.flatMap (fun u => 32 :: w ++ [32] ++ brkP ops u) ++ r) = preT (runTk w ops a (us.map itmK)) (tokB (a + (us.flatMap (fun u => 32 :: w ++ [32] ++ brkP ops u)).length) r) := by
  induction us with
  | nil => intro a r _; simp [runTk, preT_nil]
  | cons u us ih =>
    intro a r hr
    have e : (u :: us).flatMap (fun u => 32 :: w ++ [32] ++ brkP ops u) ++ r = 32 :: (w ++ 32 :: (brkP ops u ++ (us.flatMap (fun u => 32 :: w ++ [32] ++ brkP ops u) ++ r))) := by
      rw [List.flatMap_cons]; simp
    have hr2 : EndW (us.flatMap (fun u => 32 :: w ++ [32] ++ brkP ops u) ++ r) := by
      cases us with
      | nil => exact hr
      | cons v us => rw [List.flatMap_cons]; exact endW_32 _
    rw [e, lex_blank, lex_word hw (EndW.i (endW_32 _)), lex_blank, lex_brk ops (hu u (List.mem_cons_self ..)) _ hr2, ih (fun x hx => hu x (List.mem_cons_of_mem _ hx)) _ r hr, preT_app, preT_app]
    have el : lenTt ops (itmK u) = (brkP ops u).length := rfl
    rw [List.map_cons, runTk, el, List.flatMap_cons]
    simp only [List.length_cons, List.length_append, List.cons_append, List.nil_append, List.length_nil]
    rw [show a + 1 + w.length + 1 = a + w.length + 2 by omega]
    congr 2
    omega
theorem join_flat (sep : Tx) (f : Pd → Tx) (u : Pd) (us : List Pd) : Lib.join ((u :: us).map f) sep = f u ++ us.flatMap fun v => sep ++ f v := by
  unfold Lib.join
  induction us generalizing u with
  | nil => simp [List.intercalate]
  | cons v us ih =>
    have e : List.intercalate sep ((u :: v :: us).map f) = f u ++ sep ++ List.intercalate sep ((v :: us).map f) := by simp [List.intercalate]
    rw [e, ih v, List.flatMap_cons]
    simp
theorem lex_join (w : Tx) (hw : WordB w) (ops : List Int) (u : Pd) (us : List Pd) (hu : ∀ x ∈ u :: us, LX x) (a : Nat) {r : Tx} (hr : EndW r) :
    tokB a (Lib.join ((u :: us).map (brkP ops)) (32 :: w ++ [32]) ++ r) = preT (joinTk w ops a ((u :: us).map itmK)) (tokB (a + (Lib.join ((u :: us).map (brkP ops)) (32 :: w ++ [32])).length) r) := by
  have hr2 : EndW (us.flatMap (fun v => 32 :: w ++ [32] ++ brkP ops v) ++ r) := by
    cases us with
    | nil => exact hr
    | cons v us => rw [List.flatMap_cons]; exact endW_32 _
  rw [join_flat, List.append_assoc, lex_brk ops (hu u (List.mem_cons_self ..)) a hr2, lex_run w hw ops us (fun x hx => hu x (List.mem_cons_of_mem _ hx)) _ r hr, preT_app]
  have el : lenTt ops (itmK u) = (brkP ops u).length := rfl
  rw [List.map_cons, joinTk, el, List.length_append, Nat.add_assoc]
theorem andW_word : WordB andW := ⟨⟨_, _, rfl, by decide⟩, by decide⟩
theorem orW_word : WordB orW := ⟨⟨_, _, rfl, by decide⟩, by decide⟩
theorem lex_pd (p : Pd) : oneP p = true → numP p → LX p := by
  induction p using Pd.ind with
  | h hd ks ih =>
    intro h1 hn
    rw [oneP, Bool.and_eq_true, oneL_all] at h1
    rw [numP] at hn
    have hone := List.all_eq_true.1 h1.2
    have hnum := (numL_all ks).1 hn.2
    have hkid : ∀ k ∈ ks, LX k := fun k hk => ih k hk (hone k hk) (hnum k hk)
    have hs := shape_of h1.1
    unfold Shape at hs
    intro a r hr
    rw [tokP_is]
    rcases hs with ⟨rfl, rfl⟩ | ⟨col, cmp, val, kind, rfl, rfl, a1, b1, c1, d1⟩ | ⟨col, rfl, rfl, a1⟩ | ⟨col, pat, rfl, rfl, a1⟩ | ⟨k, rfl, rfl⟩ | ⟨rfl, h2, h6⟩ | ⟨rfl, h2, h7⟩
    · show tokB a (textP (.mk (bare 1) []) ++ r) = _
      rw [textP]
      exact lex_word (s := allW) ⟨⟨_, _, rfl, by decide⟩, by decide⟩ hr.i a
    · have e : textP (.mk ⟨2, col, cmp, val, kind, []⟩ []) = col ++ [32] ++ markB cmp ++ [32] ++ valT kind val := by rw [textP]; rfl
      have e2 : col ++ [32] ++ markB cmp ++ [32] ++ valT kind val ++ r = col ++ 32 :: (markB cmp ++ 32 :: (valT kind val ++ r)) := by simp
      rw [e, e2, lex_name a1 (EndW.i (endW_32 _)), lex_blank, lex_markB b1 c1, lex_blank, lex_val d1 hn.1 hr, preT_app, preT_app]
      show preT [nmK col a, mkK (markB cmp) (a + col.length + 1), valTk kind val (a + col.length + 1 + (markB cmp).length + 1)] _ = preT [nmK col a, mkK (markB cmp) (a + col.length + 1), valTk kind val (a + col.length + 1 + (markB cmp).length + 1)] _
      congr 2
      simp only [List.length_append, List.length_cons, List.length_nil]
      omega
    · have e : textP (.mk ⟨3, col, 0, zCl, 0, []⟩ []) = col ++ [32, 105, 115, 32, 110, 117, 108, 108] := by rw [textP]; rfl
      have e2 : col ++ [32, 105, 115, 32, 110, 117, 108, 108] ++ r = col ++ 32 :: (isW ++ 32 :: (nullW ++ r)) := by simp [isW, nullW]
      rw [e, e2, lex_name a1 (EndW.i (endW_32 _)), lex_blank, lex_word (s := isW) ⟨⟨_, _, rfl, by decide⟩, by decide⟩ (EndW.i (endW_32 _)), lex_blank, lex_word (s := nullW) ⟨⟨_, _, rfl, by decide⟩, by decide⟩ hr.i, preT_app, preT_app]
      show preT [nmK col a, nmK isW (a + col.length + 1), nmK nullW (a + col.length + 1 + 2 + 1)] _ = preT [nmK col a, nmK isW (a + col.length + 1), nmK nullW (a + col.length + 4)] _
      congr 2
      simp [isW, nullW]
      omega
    · have e : textP (.mk ⟨4, col, 0, zCl, 0, pat⟩ []) = col ++ [32, 108, 105, 107, 101, 32] ++ quoT pat := by rw [textP]; rfl
      have e2 : col ++ [32, 108, 105, 107, 101, 32] ++ quoT pat ++ r = col ++ 32 :: (likeW ++ 32 :: (quoT pat ++ r)) := by simp [likeW]
      rw [e, e2, lex_name a1 (EndW.i (endW_32 _)), lex_blank, lex_word (s := likeW) ⟨⟨_, _, rfl, by decide⟩, by decide⟩ (EndW.i (endW_32 _)), lex_blank, lex_text pat (endW_not hr), preT_app, preT_app]
      show preT [nmK col a, nmK likeW (a + col.length + 1), ⟨3, pat, 0, ((a + col.length + 1 + 4 + 1 : Nat) : Int)⟩] _ = preT [nmK col a, nmK likeW (a + col.length + 1), ⟨3, pat, 0, ((a + col.length + 6 : Nat) : Int)⟩] _
      congr 2
      simp [likeW]
      omega
    · have e : textP (.mk (bare 5) [k]) = [110, 111, 116, 32] ++ brkP [6, 7] k := by rw [textP]; show [110, 111, 116, 32] ++ _ = _; rw [textL]; rfl
      have e2 : [110, 111, 116, 32] ++ brkP [6, 7] k ++ r = notW ++ 32 :: (brkP [6, 7] k ++ r) := by simp [notW]
      rw [e, e2, lex_word (s := notW) ⟨⟨_, _, rfl, by decide⟩, by decide⟩ (EndW.i (endW_32 _)), lex_blank, lex_brk [6, 7] (hkid k (List.mem_cons_self ..)) _ hr, preT_app]
      show preT (nmK notW a :: brkTk [6, 7] (itmK k) (a + 3 + 1)) _ = preT (nmK notW a :: brkTk [6, 7] (itmK k) (a + 4)) _
      congr 2
      simp [notW]
      omega
    · match ks, h2 with
      | u :: us, h2 =>
        have e : textP (.mk (bare 6) (u :: us)) = Lib.join ((u :: us).map (brkP [7])) (32 :: andW ++ [32]) := by
          rw [textP]
          show Lib.join ((textL (u :: us)).map (brk [7])) andT = _
          rw [textL_brk]; rfl
        rw [e]
        exact lex_join andW andW_word [7] u us hkid a hr
    · match ks, h2 with
      | u :: us, h2 =>
        have e : textP (.mk (bare 7) (u :: us)) = Lib.join ((u :: us).map (brkP [])) (32 :: orW ++ [32]) := by
          rw [textP]
          show Lib.join ((textL (u :: us)).map (brk [])) orT = _
          rw [textL_brk]; rfl
        rw [e]
        exact lex_join orW orW_word [] u us hkid a hr
/-- a predicate's text, all of it -/
theorem back_pd {p : Pd} (h : mayP p = true) (hn : numP p) (hl : (textP p).length ≤ 400) : telP (textP p) = (p, ((textP p).length : Int), 0) := by
  have h1 : oneP p = true := by
    unfold mayP at h
    rw [Bool.and_eq_true] at h
    exact h.2
  have ht := lex_pd p h1 hn 0 [] endW_nil
  rw [List.append_nil, tok_nil] at ht
  have hw : wsB (textP p) = (tokP p 0 ++ [⟨0, [], 0, ((0 + (textP p).length : Nat) : Int)⟩], (textP p).length, 0) := all_ok (by omega) (by rw [ht]; rfl)
  unfold telP
  rw [hw]
  simp only
  rw [if_neg (by simp), whole_ok h]
  simp only
  rw [if_pos h]
end Go.Proofs.YtipgaafgnefmdaaGreatDoor


namespace Go.Proofs.YtipgaafgnefmdaaGreatDoor
set_option linter.unusedVariables false
set_option linter.unusedSimpArgs false
set_option maxRecDepth 100000
open Go.RowKit

theorem all_is {q : Qy} : allQ q = true ↔ q.cols = [] ∧ q.aggs = [] := by
  unfold allQ
  rw [Bool.and_eq_true, decide_eq_true_eq, decide_eq_true_eq, List.length_eq_zero_iff, List.length_eq_zero_iff]
theorem unl_name {l : List Tx} (h : unlB l = true) : ∀ x ∈ l, nameB x = true := by
  unfold unlB at h
  rw [Bool.and_eq_true, List.all_eq_true] at h
  exact h.1
theorem grp_end (b : Tx) : EndE (grpT b) := by
  unfold grpT
  split
  · exact .inl rfl
  · exact .inr (.inr ⟨_, rfl⟩)
theorem tail_end (p : Pd) (b : Tx) : EndW (whrT p ++ grpT b) := by
  unfold whrT
  split
  · rw [List.nil_append]; exact (grp_end b).w
  · exact endW_32 _
theorem may_one {p : Pd} (h : mayP p = true) : oneP p = true := by
  unfold mayP at h
  rw [Bool.and_eq_true] at h
  exact h.2
theorem all_one {p : Pd} (h : oneP p = true) (h1 : p.hd.op = 1) : p = .mk (bare 1) [] := by
  obtain ⟨hd, ks⟩ := p
  rw [oneP, Bool.and_eq_true] at h
  dsimp only [Pd.hd] at h1
  rcases shape_of h.1 with ⟨rfl, rfl⟩ | ⟨_, _, _, _, rfl, _⟩ | ⟨_, rfl, _⟩ | ⟨_, _, rfl, _⟩ | ⟨_, rfl, _⟩ | ⟨rfl, _⟩ | ⟨rfl, _⟩
  · rfl
  all_goals exact absurd h1 (by simp [bare])
end Go.Proofs.YtipgaafgnefmdaaGreatDoor


namespace Go.Proofs.YtipgaafgnefmdaaGreatDoor
set_option linter.unusedVariables false
set_option linter.unusedSimpArgs false
set_option maxRecDepth 100000
open Go.RowKit

theorem endI_32 (r : Tx) : EndI (32 :: r) := .inr ⟨_, _, rfl, by decide⟩
theorem endI_44 (r : Tx) : EndI (44 :: r) := .inr ⟨_, _, rfl, by decide⟩
/-- s is read as the tokens T, whatever is behind it, but a letter, digit or _ -/
def LexI (s : Tx) (T : Nat → List Tk) : Prop := ∀ a r, EndI r → tokB a (s ++ r) = preT (T a) (tokB (a + s.length) r)

/-! ### Lists with commas -/
def cmTk {α : Type} (txt : α → Tx) (tok : α → Nat → List Tk) : Nat → List α → List Tk
  | _, [] => []
  | a, x :: r => mkK [44] a :: (tok x (a + 2) ++ cmTk txt tok (a + 2 + (txt x).length) r)
def lsTk {α : Type} (txt : α → Tx) (tok : α → Nat → List Tk) (a : Nat) : List α → List Tk
  | [] => []
  | x :: r => tok x a ++ cmTk txt tok (a + (txt x).length) r
theorem lex_cm {α : Type} (txt : α → Tx) (tok : α → Nat → List Tk) (l : List α) (hl : ∀ x ∈ l, LexI (txt x) (tok x)) : ∀ a r, EndI r → tokB a (l.flatMap (fun x => 44 :: 32 :: txt x) ++ r) = preT (cmTk txt tok a l) (tokB (a + (l.flatMap (fun x => 44 :: 32 :: txt x)).length) r) := by
  induction l with
  | nil => intro a r _; simp [cmTk, preT_nil]
  | cons x l ih =>
    intro a r hr
    have e : (x :: l).flatMap (fun x => 44 :: 32 :: txt x) ++ r = 44 :: 32 :: (txt x ++ (l.flatMap (fun x => 44 :: 32 :: txt x) ++ r)) := by
      rw [List.flatMap_cons]; simp
    have hr2 : EndI (l.flatMap (fun x => 44 :: 32 :: txt x) ++ r) := by
      cases l with
      | nil => exact hr
      | cons v l => rw [List.flatMap_cons]; exact endI_44 _
    rw [e, lex_mark1 44 (.inr (.inr (.inr rfl))), lex_blank, hl x (List.mem_cons_self ..) _ _ hr2, ih (fun y hy => hl y (List.mem_cons_of_mem _ hy)) _ r hr, preT_app, preT_app]
    rw [cmTk, List.flatMap_cons]
    simp only [List.length_cons, List.length_append, List.cons_append, List.nil_append, List.length_nil]
    rw [show a + 1 + 1 = a + 2 by omega]
    congr 2
    omega
theorem join_flatG {α : Type} (sep : Tx) (f : α → Tx) (u : α) (us : List α) : Lib.join ((u :: us).map f) sep = f u ++ us.flatMap fun v => sep ++ f v := by
  unfold Lib.join
  induction us generalizing u with
  | nil => simp [List.intercalate]
  | cons v us ih =>
    have e : List.intercalate sep ((u :: v :: us).map f) = f u ++ sep ++ List.intercalate sep ((v :: us).map f) := by simp [List.intercalate]
    rw [e, ih v, List.flatMap_cons]
    simp
theorem lex_ls {α : Type} (txt : α → Tx) (tok : α → Nat → List Tk) (l : List α) (hn : l ≠ []) (hl : ∀ x ∈ l, LexI (txt x) (tok x)) : LexI (Lib.join (l.map txt) comT) (fun a => lsTk txt tok a l) := by
  intro a r hr
  match l, hn with
  | u :: us, _ =>
    have hr2 : EndI (us.flatMap (fun x => comT ++ txt x) ++ r) := by
      cases us with
      | nil => exact hr
      | cons v us => rw [List.flatMap_cons]; exact endI_44 _
    rw [join_flatG, List.append_assoc, hl u (List.mem_cons_self ..) a _ hr2]
    have h2 := lex_cm txt tok us (fun x hx => hl x (List.mem_cons_of_mem _ hx)) (a + (txt u).length) r hr
    show preT _ (tokB _ (us.flatMap (fun x => 44 :: 32 :: txt x) ++ r)) = _
    rw [h2, preT_app, List.length_append, Nat.add_assoc]
    rfl
theorem cm_len {α : Type} (txt : α → Tx) (tok : α → Nat → List Tk) (l : List α) : ∀ a r, l.length ≤ (cmTk txt tok a l ++ r).length := by
  induction l with
  | nil => intro a r; simp
  | cons x l ih =>
    intro a r
    have := ih (a + 2 + (txt x).length) r
    simp only [cmTk, List.length_cons, List.cons_append, List.length_append] at this ⊢
    omega
theorem comma_ok {α : Type} (txt : α → Tx) (tok : α → Nat → List Tk) (step : List Tk → Rd α) (l : List α) (hl : ∀ x ∈ l, ∀ a r, step (tok x a ++ r) = .ok (x, r)) {r : List Tk} (hr : isK 4 [44] r = false) : ∀ n a, l.length ≤ n → commaK step n (cmTk txt tok a l ++ r) = .ok (l, r) := by
  induction l with
  | nil =>
    intro n a _
    show commaK step n r = _
    cases n with
    | zero => rfl
    | succ n => rw [commaK, if_neg (by simp [hr])]
  | cons u us ih =>
    intro n a hn
    obtain ⟨n, rfl⟩ : ∃ m, n = m + 1 := ⟨n - 1, by simp at hn; omega⟩
    rw [cmTk, List.cons_append, commaK, is_mk, decide_eq_true rfl, if_pos rfl, tl_mk, List.append_assoc, hl u (List.mem_cons_self ..)]
    simp only
    rw [ih (fun x hx => hl x (List.mem_cons_of_mem _ hx)) n _ (by simp at hn; omega)]
theorem list_ok {α : Type} (txt : α → Tx) (tok : α → Nat → List Tk) (step : List Tk → Rd α) (l : List α) (hn : l ≠ []) (hl : ∀ x ∈ l, ∀ a r, step (tok x a ++ r) = .ok (x, r)) {r : List Tk} (hr : isK 4 [44] r = false) (a : Nat) : listK step (lsTk txt tok a l ++ r) = .ok (l, r) := by
  match l, hn with
  | u :: us, _ =>
    unfold listK
    rw [lsTk, List.append_assoc, hl u (List.mem_cons_self ..)]
    simp only
    rw [comma_ok txt tok step us (fun x hx => hl x (List.mem_cons_of_mem _ hx)) hr _ _ (cm_len txt tok us _ r)]

/-! ### What is asked for -/
def nameTk (n : Tx) (a : Nat) : List Tk := [nmK n a]
def countW : Tx := [99, 111, 117, 110, 116]
def toldTk (x : Ag) (a : Nat) : List Tk :=
  if x.op = 1 then [nmK countW a, mkK [40] (a + 5), mkK [42] (a + 6), mkK [41] (a + 7)]
  else [nmK (wordA x.op) a, mkK [40] (a + 3), nmK x.col (a + 4), mkK [41] (a + 4 + x.col.length)]
theorem lex_nameI {n : Tx} (h : nameB n = true) : LexI n (nameTk n) := fun a r hr => lex_name h hr a
theorem word_ops {o : Int} (h1 : 2 ≤ o) (h2 : o ≤ 5) : WordB (wordA o) ∧ (wordA o).length = 3 ∧ aggW (wordA o) = o ∧ nameB (wordA o) = false := by
  have : o = 2 ∨ o = 3 ∨ o = 4 ∨ o = 5 := by omega
  rcases this with rfl | rfl | rfl | rfl
  all_goals exact ⟨⟨⟨_, _, rfl, by decide⟩, by decide⟩, by decide, by decide, by decide +kernel⟩
theorem endI_40 (r : Tx) : EndI (40 :: r) := .inr ⟨_, _, rfl, by decide⟩
theorem endI_41 (r : Tx) : EndI (41 :: r) := .inr ⟨_, _, rfl, by decide⟩
theorem lex_told {x : Ag} (h : agB x = true) : LexI (toldA x) (toldTk x) := by
  intro a r hr
  rcases ag_is h with ⟨h1, h2⟩ | ⟨h1, h2, h3, h4⟩
  · have e : toldA x ++ r = countW ++ 40 :: 42 :: 41 :: r := by unfold toldA; rw [if_pos h1]; rfl
    have el : (toldA x).length = 8 := by unfold toldA; rw [if_pos h1]; rfl
    rw [e, el, lex_word (s := countW) ⟨⟨_, _, rfl, by decide⟩, by decide⟩ (endI_40 _), lex_mark1 40 (.inl rfl), lex_mark1 42 (.inr (.inr (.inl rfl))), lex_mark1 41 (.inr (.inl rfl)), preT_app, preT_app, preT_app]
    unfold toldTk
    rw [if_pos h1]
    rfl
  · obtain ⟨w1, w2, _, _⟩ := word_ops h2 h3
    have e : toldA x ++ r = wordA x.op ++ 40 :: (x.col ++ 41 :: r) := by unfold toldA; rw [if_neg h1]; simp
    have el : (toldA x).length = 3 + 1 + x.col.length + 1 := by unfold toldA; rw [if_neg h1]; simp only [List.length_append, List.length_cons, List.length_nil, w2]
    rw [e, el, lex_word w1 (endI_40 _), w2, lex_mark1 40 (.inl rfl), lex_name h4 (endI_41 _), lex_mark1 41 (.inr (.inl rfl)), preT_app, preT_app, preT_app]
    unfold toldTk
    rw [if_neg h1]
    show preT [nmK (wordA x.op) a, mkK [40] (a + 3), nmK x.col (a + 3 + 1), mkK [41] (a + 3 + 1 + x.col.length)] _ = preT [nmK (wordA x.op) a, mkK [40] (a + 3), nmK x.col (a + 4), mkK [41] (a + 4 + x.col.length)] _
    congr 2
    omega
theorem agg_ok {x : Ag} (h : agB x = true) (a : Nat) (r : List Tk) : aggK (toldTk x a ++ r) = .ok (x, r) := by
  obtain ⟨o, c⟩ := x
  rcases ag_is h with ⟨h1, h2⟩ | ⟨h1, h2, h3, h4⟩
  · dsimp only at h1 h2
    subst h1
    subst h2
    show aggK (nmK countW a :: mkK [40] (a + 5) :: mkK [42] (a + 6) :: mkK [41] (a + 7) :: r) = _
    unfold aggK
    rw [hd_cons, tl_nm, if_pos ⟨rfl, by show aggW countW ≠ 0; decide⟩, must_mk]
    simp only
    rw [if_pos (show aggW (nmK countW a).txt = 1 by show aggW countW = 1; decide), must_mk]
    simp only
    rw [must_mk]
  · dsimp only at h1 h2 h3 h4
    obtain ⟨_, _, w3, _⟩ := word_ops h2 h3
    have e : toldTk ⟨o, c⟩ a ++ r = nmK (wordA o) a :: mkK [40] (a + 3) :: nmK c (a + 4) :: mkK [41] (a + 4 + c.length) :: r := by unfold toldTk; rw [if_neg h1]; rfl
    have ew : (nmK (wordA o) a).txt = wordA o := rfl
    rw [e]
    unfold aggK
    rw [hd_cons, tl_nm, ew, w3, if_pos ⟨rfl, by omega⟩, must_mk]
    simp only
    rw [if_neg h1, name_nm h4]
    simp only
    rw [must_mk]
def whatTk (q : Qy) (a : Nat) : List Tk := if allQ q = true then [mkK [42] a] else if q.aggs = [] then lsTk (fun n => n) nameTk a q.cols else lsTk toldA toldTk a q.aggs
theorem lex_what {q : Qy} (h : mayQ q = true) : LexI (listQ q) (whatTk q) := by
  intro a r hr
  unfold whatTk listQ
  by_cases ha : allQ q = true
  · rw [if_pos ha, if_pos ha]
    exact lex_mark1 42 (.inr (.inr (.inl rfl))) a r
  · rw [if_neg ha, if_neg ha]
    unfold askedQ
    rcases may_kinds h with ⟨h1, _, _, h4⟩ | ⟨h1, _, h3, h4, _⟩
    · rw [if_pos h1, h1]
      have hc : q.cols ≠ [] := fun e => ha (all_is.2 ⟨e, h1⟩)
      have := lex_ls (fun n : Tx => n) nameTk q.cols hc (fun x hx => lex_nameI (unl_name h4 x hx)) a r hr
      simpa using this
    · rw [if_neg h1, h4]
      exact lex_ls toldA toldTk q.aggs h1 (fun x hx => lex_told (h3 x hx)) a r hr
theorem what_ok {q : Qy} (h : mayQ q = true) (a : Nat) {r : List Tk} (hr : isK 4 [44] r = false) : whatK (whatTk q a ++ r) = .ok ((q.cols, q.aggs), r) := by
  unfold whatTk
  by_cases ha : allQ q = true
  · rw [if_pos ha, (all_is.1 ha).1, (all_is.1 ha).2]
    unfold whatK
    show (if isK 4 [42] (mkK [42] a :: r) = true then _ else _) = _
    rw [is_mk, decide_eq_true rfl, if_pos rfl]
    show Except.ok (([], []), tlK (mkK [42] a :: r)) = _
    rw [tl_mk]
  · rw [if_neg ha]
    rcases may_kinds h with ⟨h1, _, _, h4⟩ | ⟨h1, _, h3, h4, _⟩
    · rw [if_pos h1, h1]
      have hc : q.cols ≠ [] := fun e => ha (all_is.2 ⟨e, h1⟩)
      have hl := list_ok (fun n : Tx => n) nameTk nameK q.cols hc (fun x hx a r => name_nm (unl_name h4 x hx) a r) hr a
      unfold whatK
      rw [hl]
      obtain ⟨u, us, e⟩ := List.exists_cons_of_ne_nil hc
      have hu : nameB u = true := unl_name h4 u (by rw [e]; exact List.mem_cons_self ..)
      rw [e]
      show (if isK 4 [42] (nmK u a :: (cmTk _ nameTk _ us ++ r)) = true then _ else if namedK (nmK u a :: (cmTk _ nameTk _ us ++ r)) = true then _ else _) = _
      rw [is_nm4, if_neg (by simp), if_pos (by unfold namedK; rw [hd_cons]; simp [nmK, hu])]
    · rw [if_neg h1, h4]
      have hl := list_ok toldA toldTk aggK q.aggs h1 (fun x hx a r => agg_ok (h3 x hx) a r) hr a
      unfold whatK
      rw [hl]
      obtain ⟨u, us, e⟩ := List.exists_cons_of_ne_nil h1
      have hu : agB u = true := h3 u (by rw [e]; exact List.mem_cons_self ..)
      have ht : ∃ w T, toldTk u a = nmK w a :: T ∧ nameB w = false := by
        unfold toldTk
        rcases ag_is hu with ⟨g1, _⟩ | ⟨g1, g2, g3, _⟩
        · rw [if_pos g1]; exact ⟨_, _, rfl, by decide +kernel⟩
        · rw [if_neg g1]; exact ⟨_, _, rfl, (word_ops g2 g3).2.2.2⟩
      obtain ⟨w, T, e2, hw⟩ := ht
      rw [e, lsTk, e2]
      show (if isK 4 [42] (nmK w a :: (T ++ cmTk _ toldTk _ us ++ r)) = true then _ else if namedK (nmK w a :: (T ++ cmTk _ toldTk _ us ++ r)) = true then _ else _) = _
      rw [is_nm4, if_neg (by simp), if_neg (by unfold namedK; rw [hd_cons]; simp [nmK, hw])]

/-! ### All of it -/
def whereTk (p : Pd) (a : Nat) : List Tk := if p.hd.op = 1 then [] else nmK whereW (a + 1) :: tokP p (a + 7)
def groupTk (b : Tx) (a : Nat) : List Tk := if b = [] then [] else [nmK groupW (a + 1), nmK byW (a + 7), nmK b (a + 10)]
theorem lex_group {b : Tx} (h : b = [] ∨ nameB b = true) (a : Nat) : tokB a (grpT b) = preT (groupTk b a) (tokB (a + (grpT b).length) []) := by
  unfold grpT groupTk
  by_cases hb : b = []
  · rw [if_pos hb, if_pos hb, preT_nil]; rfl
  · rw [if_neg hb, if_neg hb]
    have hn : nameB b = true := by
      rcases h with h | h
      · exact absurd h hb
      · exact h
    have e : groupT ++ b = 32 :: (groupW ++ 32 :: (byW ++ 32 :: (b ++ []))) := by simp [groupT, groupW, byW]
    rw [e, lex_blank, lex_word (s := groupW) ⟨⟨_, _, rfl, by decide⟩, by decide⟩ (endI_32 _), lex_blank, lex_word (s := byW) ⟨⟨_, _, rfl, by decide⟩, by decide⟩ (endI_32 _), lex_blank, lex_name hn (.inl rfl), preT_app, preT_app]
    show preT [nmK groupW (a + 1), nmK byW (a + 1 + 5 + 1), nmK b (a + 1 + 5 + 1 + 2 + 1)] _ = preT [nmK groupW (a + 1), nmK byW (a + 7), nmK b (a + 10)] _
    congr 2
    simp [groupW, byW]
    omega
theorem grp_endW (b : Tx) : EndW (grpT b) := (grp_end b).w
theorem lex_where {p : Pd} (h : mayP p = true) (hn : numP p) (a : Nat) {r : Tx} (hr : EndW r) : tokB a (whrT p ++ r) = preT (whereTk p a) (tokB (a + (whrT p).length) r) := by
  unfold whrT whereTk
  by_cases h1 : p.hd.op = 1
  · rw [if_pos h1, if_pos h1, preT_nil]; rfl
  · rw [if_neg h1, if_neg h1]
    have e : whereT ++ textP p ++ r = 32 :: (whereW ++ 32 :: (textP p ++ r)) := by simp [whereT, whereW]
    rw [e, lex_blank, lex_word (s := whereW) ⟨⟨_, _, rfl, by decide⟩, by decide⟩ (endI_32 _), lex_blank, lex_pd p (may_one h) hn _ r hr, preT_app]
    show preT (nmK whereW (a + 1) :: tokP p (a + 1 + 5 + 1)) _ = preT (nmK whereW (a + 1) :: tokP p (a + 7)) _
    congr 2
    simp [whereT, whereW]
    omega
def tokQ (q : Qy) : List Tk :=
  let a1 := 7 + (listQ q).length
  let a2 := a1 + 6 + q.tab.length
  let a3 := a2 + (whrT q.whr).length
  nmK selW 0 :: (whatTk q 7 ++ nmK fromW (a1 + 1) :: nmK q.tab (a1 + 6) :: (whereTk q.whr a2 ++ (groupTk q.by_ a3 ++ [⟨0, [], 0, ((a3 + (grpT q.by_).length : Nat) : Int)⟩])))
theorem may_by {q : Qy} (h : mayQ q = true) : q.by_ = [] ∨ nameB q.by_ = true := by
  rcases may_kinds h with ⟨_, h2, _⟩ | ⟨_, _, _, _, h5⟩
  · exact .inl h2
  · exact h5
theorem lex_query {q : Qy} (h : mayQ q = true) (hn : numP q.whr) : tokB 0 (textQ q) = .ok (tokQ q) := by
  have e : textQ q = selW ++ 32 :: (listQ q ++ 32 :: (fromW ++ 32 :: (q.tab ++ (whrT q.whr ++ grpT q.by_)))) := by
    unfold textQ
    simp [selT, fromT, selW, fromW]
  have ht : EndI (whrT q.whr ++ grpT q.by_) := (tail_end q.whr q.by_).i
  rw [e, lex_word (s := selW) ⟨⟨_, _, rfl, by decide⟩, by decide⟩ (endI_32 _), lex_blank, lex_what h _ _ (endI_32 _), lex_blank, lex_word (s := fromW) ⟨⟨_, _, rfl, by decide⟩, by decide⟩ (endI_32 _), lex_blank, lex_name (may_parts h).1 ht, lex_where (may_parts h).2 hn _ (grp_endW q.by_), lex_group (may_by h), tok_nil]
  unfold tokQ
  simp only [preT, List.cons_append, List.nil_append, List.append_assoc, List.length_cons, List.length_nil, selW, fromW, Nat.zero_add]
theorem query_ok {q : Qy} (h : mayQ q = true) : queryK (tokQ q) = .ok q := by
  have ht : ∀ (a3 : Nat) (z : Int) w, w ≠ groupW → isK 1 w (groupTk q.by_ a3 ++ [⟨0, [], 0, z⟩]) = false := by
    intro a3 z w hw
    unfold groupTk
    split
    · rfl
    · show isK 1 w (nmK groupW (a3 + 1) :: _) = false
      rw [is_nm]; exact decide_eq_false (fun e => hw e.symm)
  have hg : ∀ (a3 : Nat) (z : Int), groupK (groupTk q.by_ a3 ++ [⟨0, [], 0, z⟩]) = .ok (q.by_, [⟨0, [], 0, z⟩]) := by
    intro a3 z
    unfold groupTk groupK
    by_cases hb : q.by_ = []
    · rw [if_pos hb, hb]; rfl
    · have hn : nameB q.by_ = true := by
        rcases may_by h with e | e
        · exact absurd e hb
        · exact e
      rw [if_neg hb]
      show (if isK 1 groupW (nmK groupW (a3 + 1) :: nmK byW (a3 + 7) :: nmK q.by_ (a3 + 10) :: [⟨0, [], 0, z⟩]) = true then _ else _) = _
      rw [is_nm, decide_eq_true rfl, if_pos rfl]
      simp only [List.cons_append, List.nil_append]
      rw [tl_nm, must_nm]
      exact name_nm hn _ _
  unfold tokQ queryK
  simp only
  rw [must_nm]
  simp only
  rw [what_ok h 7 (by exact is_nm4 _ _ _ _)]
  simp only
  rw [must_nm]
  simp only
  rw [name_nm (may_parts h).1]
  simp only
  have hw : ∀ (a2 a3 : Nat) (z : Int), whereK (whereTk q.whr a2 ++ (groupTk q.by_ a3 ++ [⟨0, [], 0, z⟩])) = .ok (q.whr, groupTk q.by_ a3 ++ [⟨0, [], 0, z⟩]) := by
    intro a2 a3 z
    unfold whereTk whereK
    by_cases h1 : q.whr.hd.op = 1
    · rw [if_pos h1, List.nil_append, ht a3 z whereW (by decide), if_neg (by simp), all_one (may_one (may_parts h).2) h1]
      rfl
    · rw [if_neg h1]
      show (if isK 1 whereW (nmK whereW (a2 + 1) :: (tokP q.whr (a2 + 7) ++ _)) = true then predK 6 (tlK (nmK whereW (a2 + 1) :: (tokP q.whr (a2 + 7) ++ _))) else _) = _
      rw [is_nm, decide_eq_true rfl, if_pos rfl, tl_nm]
      have hm := (may_parts h).2
      unfold mayP at hm
      rw [Bool.and_eq_true, decide_eq_true_eq] at hm
      exact (rdp q.whr hm.2 6).all (.inr hm.1.2) _ _ (ht a3 z andW (by decide)) (ht a3 z orW (by decide))
  rw [hw]
  simp only
  rw [hg]
  rfl
/-- a query's text, all of it -/
theorem back_qy {q : Qy} (h : mayQ q = true) (hn : numP q.whr) (hl : (textQ q).length ≤ 400) : telQ (textQ q) = (q, ((textQ q).length : Int), 0) := by
  have hw : wsB (textQ q) = (tokQ q, (textQ q).length, 0) := all_ok (by omega) (lex_query h hn)
  unfold telQ
  rw [hw]
  simp only
  rw [if_neg (by simp), query_ok h]
  simp only
  rw [if_pos h]
end Go.Proofs.YtipgaafgnefmdaaGreatDoor


namespace Go.Proofs.YtipgaafgnefmdaaGreatDoor
set_option linter.unusedVariables false
set_option linter.unusedSimpArgs false
set_option maxRecDepth 100000
open Go.RowKit

def bigH (h : Ph) (n : Nat) : Bool := decide (n ≤ 1000 ∧ h.col.length ≤ 1000 ∧ h.pat.length ≤ 1000 ∧ h.val.txt.length ≤ 1000)
mutual
def bigP : Pd → Bool | .mk h ks => bigH h ks.length && bigL ks
def bigL : List Pd → Bool | [] => true | k :: r => bigP k && bigL r
end
theorem bigL_all (l : List Pd) : bigL l = l.all bigP := by
  induction l with
  | nil => rfl
  | cons k r ih => rw [bigL, ih]; rfl
theorem bigP_is (h : Ph) (ks : List Pd) : bigP (.mk h ks) = (bigH h ks.length && ks.all bigP) := by rw [bigP, bigL_all]
theorem bigP_mk {h : Ph} {ks : List Pd} (e : bigP (.mk h ks) = true) : ks.length ≤ 1000 ∧ h.col.length ≤ 1000 ∧ h.pat.length ≤ 1000 ∧ h.val.txt.length ≤ 1000 ∧ ∀ k ∈ ks, bigP k = true := by
  rw [bigP, Bool.and_eq_true, bigL_all] at e
  unfold bigH at e
  have e1 := of_decide_eq_true e.1
  exact ⟨e1.1, e1.2.1, e1.2.2.1, e1.2.2.2, List.all_eq_true.1 e.2⟩
theorem big_of_len (p : Pd) : lenP p = true → bigP p = true := by
  induction p using Pd.ind with
  | h hd ks ih =>
    intro e
    rw [lenP, Bool.and_eq_true, lenL_all] at e
    have e1 := of_decide_eq_true e.1
    rw [bigP_is, Bool.and_eq_true, List.all_eq_true]
    exact ⟨decide_eq_true (by omega), fun k hk => ih k hk (List.all_eq_true.1 e.2 k hk)⟩
/-- .. of queries -/
structure BgQ (q : Qy) : Prop where
  cols : q.cols.length ≤ 1000
  names : ∀ x ∈ q.cols, x.length ≤ 1000
  aggs : q.aggs.length ≤ 1000
  acol : ∀ a ∈ q.aggs, a.col.length ≤ 1000
  tab : q.tab.length ≤ 1000
  by_ : q.by_.length ≤ 1000
  lens : bigP q.whr = true
  deep : depP q.whr ≤ 100
theorem SmQ.big {q : Qy} (h : SmQ q) : BgQ q :=
  ⟨by have := h.cols; omega, fun x hx => by have := h.names x hx; omega, by have := h.aggs; omega, fun x hx => by have := h.acol x hx; omega, by have := h.tab; omega, by have := h.by_; omega, big_of_len _ h.lens, by have := h.deep; omega⟩
end Go.Proofs.YtipgaafgnefmdaaGreatDoor


namespace Go.Proofs.YtipgaafgnefmdaaGreatDoor
set_option linter.unusedVariables false
set_option linter.unusedSimpArgs false
set_option maxRecDepth 100000
open Go.RowKit

theorem i64b_0 : I64b 0 := by unfold I64b; omega
theorem i64b_1 : I64b 1 := by unfold I64b; omega

/-! ### Tokens -/
/-- a token as it may come out of a text -/
structure TkW (t : Tk) : Prop where
  len : t.txt.length ≤ 400
  num : I64b t.num
  mark : t.kind = 4 → t.txt ∈ marksL
  word : t.kind = 1 → ¬ t.txt ∈ marksL
/-- the last token is an end, and all are such ones -/
def EndL (l : List Tk) : Prop := (∃ m e, l = m ++ [e] ∧ e.kind = 0) ∧ (∀ t ∈ l, TkW t) ∧ l.length ≤ 401
theorem EndL.ne {l : List Tk} (h : EndL l) : 0 < l.length := by obtain ⟨⟨m, e, rfl, _⟩, _⟩ := h; simp
theorem EndL.hd {l : List Tk} (h : EndL l) : ∃ t r, l = t :: r ∧ hdT l = t := by
  obtain ⟨⟨m, e, rfl, _⟩, _⟩ := h
  cases m with
  | nil => exact ⟨e, [], rfl, rfl⟩
  | cons t m => exact ⟨t, m ++ [e], rfl, rfl⟩
theorem EndL.tkw {l : List Tk} (h : EndL l) : TkW (hdT l) := by
  obtain ⟨t, r, e, ht⟩ := h.hd
  rw [ht]
  exact h.2.1 t (by rw [e]; exact List.mem_cons_self)
theorem EndL.len {l : List Tk} (h : EndL l) : (hdT l).txt.length ≤ 1000000000 := by have := h.tkw.len; omega
theorem EndL.tl {l : List Tk} (h : EndL l) : EndL (tlK l) := by
  obtain ⟨⟨m, e, rfl, he⟩, hb, hl⟩ := h
  cases m with
  | nil =>
    unfold tlK
    rw [if_pos (show (hdT ([] ++ [e])).kind = 0 from he)]
    exact ⟨⟨[], e, rfl, he⟩, hb, hl⟩
  | cons t m =>
    unfold tlK
    split
    · exact ⟨⟨t :: m, e, rfl, he⟩, hb, hl⟩
    · exact ⟨⟨m, e, rfl, he⟩, fun t ht => hb t (List.mem_cons_of_mem _ ht), by simp at hl ⊢; omega⟩
theorem tl_le (l : List Tk) : (tlK l).length ≤ l.length := by unfold tlK; split <;> simp
theorem tl_less {l : List Tk} (h : EndL l) (hk : ¬ (hdT l).kind = 0) : (tlK l).length + 1 = l.length := by
  unfold tlK; rw [if_neg hk, List.length_tail]; have := h.ne; omega
theorem isK_kind {k : Int} {s : Tx} {l : List Tk} (h : isK k s l = true) : (hdT l).kind = k := by
  unfold isK at h; rw [Bool.and_eq_true] at h; exact of_decide_eq_true h.1
theorem one_w {c : UInt8} {r : List UInt8} {t : Tk} {n : Nat} (h : oneB (c :: r) = some (t, n)) : t.txt.length ≤ (c :: r).length ∧ I64b t.num ∧ (t.kind = 4 → t.txt ∈ marksL) ∧ (t.kind = 1 → ¬ t.txt ∈ marksL) ∧ t.kind ≠ 0 := by
  simp only [oneB] at h
  split at h
  · rename_i hl
    obtain ⟨rfl, rfl⟩ := Prod.mk.inj (Option.some.inj h)
    have hi : innB c = true := by simp [innB, hl]
    refine ⟨by rw [List.length_take]; omega, by unfold I64b; dsimp only; omega, fun e => by simp at e, fun _ hm => ?_, by dsimp only; omega⟩
    rw [span_yes hi, List.take_succ_cons] at hm
    have hc : c = 60 ∨ c = 62 ∨ c = 61 ∨ c = 44 ∨ c = 40 ∨ c = 41 ∨ c = 42 := by
      simp only [marksL, List.mem_cons, List.cons.injEq, List.mem_nil_iff, or_false] at hm
      rcases hm with h | h | h | h | h | h | h | h | h | h <;> simp [h.1]
    rcases hc with rfl | rfl | rfl | rfl | rfl | rfl | rfl <;> exact absurd hl (by decide)
  split at h
  · obtain ⟨v, hv, he⟩ := Option.map_eq_some_iff.1 h
    obtain ⟨rfl, rfl⟩ := Prod.mk.inj he
    exact ⟨by simp, (valB_is hv).1, fun e => by simp at e, fun e => by simp at e, by dsimp only; omega⟩
  split at h
  · obtain ⟨x, hx, he⟩ := Option.map_eq_some_iff.1 h
    obtain ⟨rfl, rfl⟩ := Prod.mk.inj he
    obtain ⟨_, _, _, _, h5⟩ := qt_le r x hx
    exact ⟨by dsimp only; simp; omega, by unfold I64b; dsimp only; omega, fun e => by simp at e, fun e => by simp at e, by dsimp only; omega⟩
  · obtain ⟨m, hm, he⟩ := Option.map_eq_some_iff.1 h
    obtain ⟨rfl, rfl⟩ := Prod.mk.inj he
    obtain ⟨h1, h2⟩ := mkT_pre hm
    exact ⟨(List.isPrefixOf_iff_prefix.1 h1).length_le, by unfold I64b; dsimp only; omega, fun _ => h2, fun e => by simp at e, by dsimp only; omega⟩
theorem tok_w : ∀ (f a : Nat) (l : List UInt8) (ts : List Tk), tokN f a l = .ok ts → l.length ≤ f →
    (∃ m e, ts = m ++ [e] ∧ e.kind = 0) ∧ (∀ t ∈ ts, t.txt.length ≤ l.length ∧ I64b t.num ∧ (t.kind = 4 → t.txt ∈ marksL) ∧ (t.kind = 1 → ¬ t.txt ∈ marksL)) ∧ ts.length ≤ l.length + 1
  | f, a, [], ts, h, _ => by
    have e : tokN f a [] = .ok [⟨0, [], 0, a⟩] := by cases f <;> rfl
    rw [e] at h
    obtain rfl := Except.ok.inj h
    refine ⟨⟨[], _, rfl, rfl⟩, fun t ht => ?_, by simp⟩
    obtain rfl := List.mem_singleton.1 ht
    exact ⟨by simp, by unfold I64b; dsimp only; omega, fun e => by simp at e, fun e => by simp at e⟩
  | 0, _, _ :: _, _, _, hl => by simp at hl
  | f + 1, a, c :: r, ts, h, hl => by
    rw [List.length_cons] at hl
    unfold tokN at h
    split at h
    · obtain ⟨h1, h2, h3⟩ := tok_w f _ r ts h (by omega)
      exact ⟨h1, fun t ht => ⟨by have := (h2 t ht).1; simp; omega, (h2 t ht).2⟩, by simp; omega⟩
    · split at h
      · cases h
      · rename_i t n h1
        obtain ⟨i1, i2, _⟩ := one_is h1
        obtain ⟨w1, w2, w3, w4, w5⟩ := one_w h1
        have hd : ((c :: r).drop n).length ≤ r.length := by rw [List.length_drop, List.length_cons]; omega
        cases hy : tokN f (a + n) ((c :: r).drop n) with
        | error e => rw [hy] at h; cases h
        | ok us =>
          rw [hy] at h
          have h : [putAt t a] ++ us = ts := Except.ok.inj h
          subst h
          obtain ⟨⟨m, e, e1, e2⟩, g2, g3⟩ := tok_w f _ _ us hy (by omega)
          refine ⟨⟨putAt t a :: m, e, by rw [e1]; rfl, e2⟩, fun x hx => ?_, by simp at g3 hd ⊢; omega⟩
          rcases List.mem_cons.1 hx with rfl | hx
          · exact ⟨w1, w2, w3, w4⟩
          · exact ⟨by have := (g2 x hx).1; simp at this ⊢; omega, (g2 x hx).2⟩
theorem ws_end {s : Tx} (h : (wsB s).2.2 = 0) : EndL (wsB s).1 := by
  unfold wsB at h ⊢
  split at h
  · simp at h
  · rename_i hs
    rw [if_neg hs]
    cases ht : tokB 0 s with
    | error e => rw [ht] at h; simp at h
    | ok ts =>
      obtain ⟨h1, h2, h3⟩ := tok_w _ _ _ _ ht (Nat.le_refl _)
      exact ⟨h1, fun t hm => ⟨by have := (h2 t hm).1; omega, (h2 t hm).2.1, (h2 t hm).2.2.1, (h2 t hm).2.2.2⟩, by dsimp only; omega⟩
/-- a word, or a mark -/
def sayK (s : Tx) (l : List Tk) : Bool := (decide ((hdT l).kind = 1) || decide ((hdT l).kind = 4)) && decide ((hdT l).txt = s)
theorem say_word {s : Tx} (hs : ¬ s ∈ marksL) {l : List Tk} (h : EndL l) : sayK s l = isK 1 s l := by
  have hm := h.tkw.mark
  unfold sayK isK
  by_cases h4 : (hdT l).kind = 4
  · by_cases ht : (hdT l).txt = s
    · rw [ht] at hm; exact absurd (hm h4) hs
    · rw [decide_eq_false ht, Bool.and_false, Bool.and_false]
  · rw [decide_eq_false h4, Bool.or_false]
theorem say_mark {s : Tx} (hs : s ∈ marksL) {l : List Tk} (h : EndL l) : sayK s l = isK 4 s l := by
  have hm := h.tkw.word
  unfold sayK isK
  by_cases h4 : (hdT l).kind = 1
  · by_cases ht : (hdT l).txt = s
    · rw [ht] at hm; exact absurd hs (hm h4)
    · rw [decide_eq_false ht, Bool.and_false, Bool.and_false]
  · rw [decide_eq_false h4, Bool.false_or]

/-! ### Where a reader stands -/
/-- the tokens left, or the place at which it failed -/
abbrev Sg := Except Int (List Tk)
def onS {α : Type} (σ : Sg) (f : List Tk → Rd α) : Rd α := match σ with | .ok l => f l | .error k => .error k
def onM (σ : Sg) (f : List Tk → Except Int (List Tk)) : Sg := match σ with | .ok l => f l | .error k => .error k
def dropV {α : Type} (x : Rd α) : Sg := match x with | .ok p => .ok p.2 | .error k => .error k
def isX (k : Int) (s : Tx) (σ : Sg) : Bool := match σ with | .ok l => isK k s l | .error _ => false
def kindX (k : Int) (σ : Sg) : Bool := match σ with | .ok l => decide ((hdT l).kind = k) | .error _ => false
def placeX (σ : Sg) : Int := match σ with | .ok l => (hdT l).at_ | .error k => k
def namedX (σ : Sg) : Bool := match σ with | .ok l => namedK l | .error _ => false
def tailX (σ : Sg) : List Tk := match σ with | .ok l => tlK l | .error _ => []
def mapR {α β : Type} (f : α → β) (x : Rd α) : Rd β := match x with | .ok p => .ok (f p.1, p.2) | .error k => .error k
theorem isX_ok {k : Int} {s : Tx} {σ : Sg} (h : isX k s σ = true) : ∃ l, σ = .ok l ∧ isK k s l = true := by
  cases σ with
  | ok l => exact ⟨l, rfl, h⟩
  | error e => cases h
/-- what is read is so, and no more is left -/
def Reads {α : Type} (f : List Tk → Rd α) (G : α → Prop) : Prop := ∀ l, EndL l → ∀ b r, f l = .ok (b, r) → EndL r ∧ r.length ≤ l.length ∧ G b

/-! ### Lists -/
def manyK {α : Type} (k : Int) (s : Tx) (step : List Tk → Rd α) : Nat → List Tk → Rd (List α)
  | 0, l => .ok ([], l)
  | n + 1, l => if isK k s l = true then (match step (tlK l) with
      | .error e => .error e
      | .ok (p, r) => match manyK k s step n r with | .error e => .error e | .ok (ps, r2) => .ok (p :: ps, r2)) else .ok ([], l)
def someK {α : Type} (k : Int) (s : Tx) (step : List Tk → Rd α) (l : List Tk) : Rd (List α) :=
  match step l with
  | .error e => .error e
  | .ok (p, r) => match manyK k s step r.length r with | .error e => .error e | .ok (ps, r2) => .ok (p :: ps, r2)
theorem chain_many (step : List Tk → Rd Pd) (w : Tx) : ∀ n l, chainK step w n l = manyK 1 w step n l
  | 0, l => rfl
  | n + 1, l => by
    unfold chainK manyK
    split
    · cases step (tlK l) with
      | error e => rfl
      | ok p => obtain ⟨p, r⟩ := p; dsimp only; rw [chain_many step w n r]; cases manyK 1 w step n r <;> rfl
    · rfl
theorem comma_many {α : Type} (step : List Tk → Rd α) : ∀ n l, commaK step n l = manyK 4 [44] step n l
  | 0, l => rfl
  | n + 1, l => by
    unfold commaK manyK
    split
    · cases step (tlK l) with
      | error e => rfl
      | ok p => obtain ⟨p, r⟩ := p; dsimp only; rw [comma_many step n r]; all_goals (cases manyK 4 [44] step n r <;> rfl)
    · rfl
def foldL (op : Int) (ps : List Pd) : Pd := match ps with | [] => noPd | p :: r => foldK op p r
theorem level_some (op : Int) (w : Tx) (step : List Tk → Rd Pd) (l : List Tk) : levelK op w step l = mapR (foldL op) (someK 1 w step l) := by
  unfold levelK someK
  cases step l with
  | error e => rfl
  | ok p =>
    obtain ⟨p, r⟩ := p
    dsimp only
    rw [chain_many]
    cases manyK 1 w step r.length r with
    | error e => rfl
    | ok q => rfl
theorem list_some {α : Type} (step : List Tk → Rd α) (l : List Tk) : listK step l = someK 4 [44] step l := by
  unfold listK someK
  cases step l with
  | error e => rfl
  | ok p => obtain ⟨p, r⟩ := p; dsimp only; rw [comma_many]; all_goals (cases manyK 4 [44] step r.length r <;> rfl)
/-- ahead of what is read -/
def preR {α : Type} (ps : List α) (x : Rd (List α)) : Rd (List α) := match x with | .ok q => .ok (ps ++ q.1, q.2) | .error k => .error k
/-- a loop that reads a list: X is what it comes to, ps is read, there it stands -/
def Lv {α : Type} (k : Int) (s : Tx) (step : List Tk → Rd α) (X : Rd (List α)) (ps : List α) (σ : Sg) : Prop :=
  ps.length ≤ 402 ∧ match σ with
  | .error e => X = .error e
  | .ok r => EndL r ∧ ps.length + r.length ≤ 402 ∧ ∃ n, r.length ≤ n ∧ X = preR ps (manyK k s step n r)
theorem lv_start {α : Type} {k : Int} {s : Tx} {step : List Tk → Rd α} {G : α → Prop} (hr : Reads step G) {σ : Sg} (he : ∀ l, σ = .ok l → EndL l) {a : α} (ha : ∀ b r, onS σ step = .ok (b, r) → a = b) :
    Lv k s step (onS σ (someK k s step)) [a] (dropV (onS σ step)) := by
  refine ⟨by simp, ?_⟩
  cases σ with
  | error e => rfl
  | ok l =>
    unfold onS someK at *
    dsimp only at *
    cases hx : step l with
    | error e => rfl
    | ok p =>
      obtain ⟨p, r⟩ := p
      obtain ⟨e1, e2, _⟩ := hr l (he l rfl) p r hx
      obtain rfl := ha p r hx
      have := (he l rfl).2.2
      refine ⟨e1, by simp; omega, r.length, Nat.le_refl _, ?_⟩
      dsimp only
      cases manyK k s step r.length r with
      | error e => rfl
      | ok q => rfl
theorem lv_more {α : Type} {k : Int} (hk : k ≠ 0) {s : Tx} {step : List Tk → Rd α} {G : α → Prop} (hr : Reads step G) {X : Rd (List α)} {ps : List α} {r : List Tk} (h : Lv k s step X ps (.ok r)) (hi : isK k s r = true) {a : α} (ha : ∀ b q, step (tlK r) = .ok (b, q) → a = b) :
    Lv k s step X (ps ++ [a]) (dropV (step (tlK r))) := by
  obtain ⟨h0, h1, h2, n, h3, h4⟩ := h
  have hn := h1.ne
  have hl := tl_less h1 (by rw [isK_kind hi]; exact hk)
  refine ⟨by simp; omega, ?_⟩
  obtain ⟨m, rfl⟩ : ∃ m, n = m + 1 := ⟨n - 1, by omega⟩
  rw [manyK, if_pos hi] at h4
  cases hx : step (tlK r) with
  | error e => rw [hx] at h4; exact h4
  | ok p =>
    obtain ⟨p, q⟩ := p
    obtain ⟨e1, e2, _⟩ := hr _ h1.tl p q hx
    obtain rfl := ha p q hx
    rw [hx] at h4
    dsimp only at h4
    refine ⟨e1, by simp; omega, m, by dsimp only; omega, ?_⟩
    rw [h4]
    cases manyK k s step m q with
    | error e => rfl
    | ok z => simp [preR]
theorem lv_end {α : Type} {k : Int} {s : Tx} {step : List Tk → Rd α} {X : Rd (List α)} {ps : List α} {σ : Sg} (h : Lv k s step X ps σ) (hi : isX k s σ = false) : dropV X = σ ∧ ∀ b r, X = .ok (b, r) → ps = b := by
  obtain ⟨h0, h⟩ := h
  cases σ with
  | error e => obtain rfl := h; exact ⟨rfl, fun b r e => by cases e⟩
  | ok r =>
    obtain ⟨h1, h2, n, h3, h4⟩ := h
    have e : manyK k s step n r = .ok ([], r) := by
      cases n with
      | zero => rfl
      | succ n => rw [manyK, if_neg (by have : isK k s r = false := hi; simp [this])]
    rw [e] at h4
    subst h4
    refine ⟨rfl, fun b q e => ?_⟩
    simp [preR] at e
    exact e.1

/-! ### How great -/
theorem reads_name : Reads nameK (fun s => s.length ≤ 400) := by
  intro l h b r e
  unfold nameK at e
  split at e
  · obtain ⟨rfl, rfl⟩ := Prod.mk.inj (Except.ok.inj e)
    exact ⟨h.tl, tl_le l, h.tkw.len⟩
  · cases e
theorem must_ok {k : Int} {s : Tx} {l r : List Tk} (h : EndL l) (e : mustK k s l = .ok r) : EndL r ∧ r.length ≤ l.length := by
  unfold mustK at e
  split at e
  · obtain rfl := Except.ok.inj e
    exact ⟨h.tl, tl_le l⟩
  · cases e
theorem reads_val : Reads valK (fun x => x.1.txt.length ≤ 400 ∧ I64b x.1.num) := by
  intro l h b r e
  have h1 := h.tkw.len
  have h2 := h.tkw.num
  have i0 : I64b 0 := by unfold I64b; omega
  have i1 : I64b 1 := by unfold I64b; omega
  unfold valK at e
  repeat' split at e
  all_goals first
    | (cases e; done)
    | (obtain ⟨rfl, rfl⟩ := Prod.mk.inj (Except.ok.inj e)
       exact ⟨h.tl, tl_le l, by first | exact h1 | simp, by first | exact h2 | exact i0 | exact i1⟩)
def GdP (d : Nat) (p : Pd) : Prop := bigP p = true ∧ depP p ≤ d ∧ numP p
theorem gd_leaf {h : Ph} (h1 : h.col.length ≤ 400) (h2 : h.pat.length ≤ 400) (h3 : h.val.txt.length ≤ 400) (h4 : I64b h.val.num) {d : Nat} (hd : 1 ≤ d) : GdP d (.mk h []) := by
  refine ⟨?_, by rw [depP, depL]; omega, ?_⟩
  · rw [bigP_is, Bool.and_eq_true]
    exact ⟨decide_eq_true ⟨by simp, by omega, by omega, by omega⟩, rfl⟩
  · rw [numP]; exact ⟨h4, trivial⟩
theorem depL_le {ks : List Pd} {m : Nat} (h : ∀ x ∈ ks, depP x ≤ m) : depL ks ≤ m := by
  induction ks with
  | nil => simp [depL]
  | cons k r ih =>
    rw [depL]
    have := h k (List.mem_cons_self ..)
    have := ih fun x hx => h x (List.mem_cons_of_mem _ hx)
    omega
theorem gd_node {op : Int} {ks : List Pd} {d : Nat} (hl : ks.length ≤ 1000) (h : ∀ k ∈ ks, GdP d k) : GdP (d + 1) (.mk ⟨op, [], 0, zCl, 0, []⟩ ks) := by
  refine ⟨?_, ?_, ?_⟩
  · rw [bigP_is, Bool.and_eq_true, List.all_eq_true]
    exact ⟨decide_eq_true ⟨hl, by simp, by simp, by simp [zCl]⟩, fun k hk => (h k hk).1⟩
  · rw [depP]; have := depL_le (fun x hx => (h x hx).2.1); omega
  · rw [numP, numL_all]; exact ⟨by unfold I64b zCl; dsimp only; omega, fun k hk => (h k hk).2.2⟩
theorem gd_mono {d e : Nat} {p : Pd} (h : GdP d p) (hd : d ≤ e) : GdP e p := ⟨h.1, Nat.le_trans h.2.1 hd, h.2.2⟩
theorem reads_asked : Reads askedK (GdP 1) := by
  intro l h b r e
  unfold askedK at e
  cases hn : nameK l with
  | error k => rw [hn] at e; cases e
  | ok x =>
    obtain ⟨c, q⟩ := x
    obtain ⟨g1, g2, g3⟩ := reads_name l h c q hn
    rw [hn] at e
    dsimp only at e
    have i0 : I64b zCl.num := by unfold I64b zCl; dsimp only; omega
    split at e
    · cases hm : mustK 1 nullW (tlK q) with
      | error k => rw [hm] at e; cases e
      | ok r2 =>
        rw [hm] at e
        obtain ⟨rfl, rfl⟩ := Prod.mk.inj (Except.ok.inj e)
        obtain ⟨m1, m2⟩ := must_ok g1.tl hm
        have := tl_le q
        exact ⟨m1, by omega, gd_leaf g3 (by simp) (by simp [zCl]) i0 (Nat.le_refl _)⟩
    · split at e
      · split at e
        · obtain ⟨rfl, rfl⟩ := Prod.mk.inj (Except.ok.inj e)
          have := tl_le q
          have := tl_le (tlK q)
          exact ⟨g1.tl.tl, by omega, gd_leaf g3 g1.tl.tkw.len (by simp [zCl]) i0 (Nat.le_refl _)⟩
        · cases e
      · split at e
        · cases hv : valK (tlK q) with
          | error k => rw [hv] at e; cases e
          | ok y =>
            obtain ⟨⟨v, k⟩, r2⟩ := y
            rw [hv] at e
            obtain ⟨rfl, rfl⟩ := Prod.mk.inj (Except.ok.inj e)
            obtain ⟨m1, m2, m3, m4⟩ := reads_val _ g1.tl _ _ hv
            have := tl_le q
            exact ⟨m1, by omega, gd_leaf g3 (by simp) m3 m4 (Nat.le_refl _)⟩
        · cases e
theorem reads_many {α : Type} {k : Int} (hk : k ≠ 0) {s : Tx} {step : List Tk → Rd α} {G : α → Prop} (hr : Reads step G) : ∀ n l, EndL l → ∀ ps r, manyK k s step n l = .ok (ps, r) → EndL r ∧ ps.length + r.length ≤ l.length ∧ ∀ p ∈ ps, G p
  | 0, l, h, ps, r, e => by
    obtain ⟨rfl, rfl⟩ := Prod.mk.inj (Except.ok.inj e)
    exact ⟨h, by simp, fun p hp => by cases hp⟩
  | n + 1, l, h, ps, r, e => by
    rw [manyK] at e
    split at e
    · rename_i hi
      have hl := tl_less h (by rw [isK_kind hi]; exact hk)
      cases hx : step (tlK l) with
      | error z => rw [hx] at e; cases e
      | ok y =>
        obtain ⟨p, q⟩ := y
        rw [hx] at e
        dsimp only at e
        obtain ⟨a1, a2, a3⟩ := hr _ h.tl p q hx
        cases hy : manyK k s step n q with
        | error z => rw [hy] at e; cases e
        | ok z =>
          obtain ⟨zs, r2⟩ := z
          rw [hy] at e
          obtain ⟨rfl, rfl⟩ := Prod.mk.inj (Except.ok.inj e)
          obtain ⟨b1, b2, b3⟩ := reads_many hk hr n q a1 zs r2 hy
          refine ⟨b1, by simp; omega, fun x hx => ?_⟩
          rcases List.mem_cons.1 hx with rfl | hx
          · exact a3
          · exact b3 x hx
    · obtain ⟨rfl, rfl⟩ := Prod.mk.inj (Except.ok.inj e)
      exact ⟨h, by simp, fun p hp => by cases hp⟩
theorem reads_some {α : Type} {k : Int} (hk : k ≠ 0) {s : Tx} {step : List Tk → Rd α} {G : α → Prop} (hr : Reads step G) : Reads (someK k s step) (fun ps => ps.length ≤ 402 ∧ ∀ p ∈ ps, G p) := by
  intro l h b r e
  unfold someK at e
  cases hx : step l with
  | error z => rw [hx] at e; cases e
  | ok y =>
    obtain ⟨p, q⟩ := y
    rw [hx] at e
    dsimp only at e
    obtain ⟨a1, a2, a3⟩ := hr _ h p q hx
    cases hy : manyK k s step q.length q with
    | error z => rw [hy] at e; cases e
    | ok z =>
      obtain ⟨zs, r2⟩ := z
      rw [hy] at e
      obtain ⟨rfl, rfl⟩ := Prod.mk.inj (Except.ok.inj e)
      obtain ⟨b1, b2, b3⟩ := reads_many hk hr _ q a1 zs r2 hy
      have := h.2.2
      refine ⟨b1, by omega, by simp; omega, fun x hx => ?_⟩
      rcases List.mem_cons.1 hx with rfl | hx
      · exact a3
      · exact b3 x hx
theorem reads_level {op : Int} {w : Tx} {step : List Tk → Rd Pd} {d : Nat} (hr : Reads step (GdP d)) : Reads (levelK op w step) (GdP (d + 1)) := by
  intro l h b r e
  rw [level_some] at e
  cases hx : someK 1 w step l with
  | error z => rw [hx] at e; cases e
  | ok y =>
    obtain ⟨ps, q⟩ := y
    rw [hx] at e
    obtain ⟨rfl, rfl⟩ := Prod.mk.inj (Except.ok.inj e)
    obtain ⟨a1, a2, a3, a4⟩ := reads_some (by decide) hr l h ps q hx
    refine ⟨a1, a2, ?_⟩
    cases ps with
    | nil => exact gd_leaf (by simp) (by simp) (by simp [zCl]) (by unfold I64b zCl; dsimp only; omega) (by omega)
    | cons p ps =>
      show GdP (d + 1) (foldK op p ps)
      unfold foldK
      split
      · exact gd_mono (a4 p (List.mem_cons_self ..)) (by omega)
      · exact gd_node (by simp at a3 ⊢; omega) a4
theorem reads_single : ∀ d, Reads (singleK d) (GdP (2 * d + 1))
  | 0 => by intro l h b r e; cases e
  | d + 1 => by
    have hp : Reads (predK d) (GdP (2 * d + 3)) := reads_level (reads_level (reads_single d))
    intro l h b r e
    cases h1 : isK 1 notW l with
    | true =>
      rw [single_not h1] at e
      cases hx : singleK d (tlK l) with
      | error z => rw [hx] at e; cases e
      | ok y =>
        obtain ⟨p, q⟩ := y
        rw [hx] at e
        obtain ⟨rfl, rfl⟩ := Prod.mk.inj (Except.ok.inj e)
        obtain ⟨a1, a2, a3⟩ := reads_single d _ h.tl p q hx
        have := tl_le l
        exact ⟨a1, by omega, gd_mono (gd_node (by simp) (fun k hk => by obtain rfl := List.mem_singleton.1 hk; exact a3)) (by omega)⟩
    | false =>
      cases h2 : isK 4 [40] l with
      | true =>
        rw [single_open h1 h2] at e
        cases hx : predK d (tlK l) with
        | error z => rw [hx] at e; cases e
        | ok y =>
          obtain ⟨p, q⟩ := y
          rw [hx] at e
          dsimp only at e
          obtain ⟨a1, a2, a3⟩ := hp _ h.tl p q hx
          cases hm : mustK 4 [41] q with
          | error z => rw [hm] at e; cases e
          | ok r2 =>
            rw [hm] at e
            obtain ⟨rfl, rfl⟩ := Prod.mk.inj (Except.ok.inj e)
            obtain ⟨m1, m2⟩ := must_ok a1 hm
            have := tl_le l
            exact ⟨m1, by omega, gd_mono a3 (by omega)⟩
      | false =>
        cases h3 : isK 1 allW l with
        | true =>
          rw [single_all h1 h2 h3] at e
          obtain ⟨rfl, rfl⟩ := Prod.mk.inj (Except.ok.inj e)
          exact ⟨h.tl, tl_le l, gd_leaf (by simp) (by simp) (by simp [zCl]) (by unfold I64b zCl; dsimp only; omega) (by omega)⟩
        | false =>
          rw [single_asked h1 h2 h3] at e
          obtain ⟨a1, a2, a3⟩ := reads_asked l h b r e
          exact ⟨a1, a2, gd_mono a3 (by omega)⟩
theorem reads_both (d : Nat) : Reads (bothK d) (GdP (2 * d + 2)) := reads_level (reads_single d)
theorem reads_pred (d : Nat) : Reads (predK d) (GdP (2 * d + 3)) := reads_level (reads_both d)
theorem reads_agg : Reads aggK (fun a => a.col.length ≤ 400) := by
  intro l h b r e
  unfold aggK at e
  split at e
  · cases hm : mustK 4 [40] (tlK l) with
    | error z => rw [hm] at e; cases e
    | ok r1 =>
      rw [hm] at e
      dsimp only at e
      obtain ⟨m1, m2⟩ := must_ok h.tl hm
      have := tl_le l
      split at e
      · cases hm2 : mustK 4 [42] r1 with
        | error z => rw [hm2] at e; cases e
        | ok r2 =>
          rw [hm2] at e
          dsimp only at e
          obtain ⟨n1, n2⟩ := must_ok m1 hm2
          cases hm3 : mustK 4 [41] r2 with
          | error z => rw [hm3] at e; cases e
          | ok r3 =>
            rw [hm3] at e
            obtain ⟨rfl, rfl⟩ := Prod.mk.inj (Except.ok.inj e)
            obtain ⟨o1, o2⟩ := must_ok n1 hm3
            exact ⟨o1, by omega, by simp⟩
      · cases hm2 : nameK r1 with
        | error z => rw [hm2] at e; cases e
        | ok y =>
          obtain ⟨c, r2⟩ := y
          rw [hm2] at e
          dsimp only at e
          obtain ⟨n1, n2, n3⟩ := reads_name _ m1 c r2 hm2
          cases hm3 : mustK 4 [41] r2 with
          | error z => rw [hm3] at e; cases e
          | ok r3 =>
            rw [hm3] at e
            obtain ⟨rfl, rfl⟩ := Prod.mk.inj (Except.ok.inj e)
            obtain ⟨o1, o2⟩ := must_ok n1 hm3
            exact ⟨o1, by omega, n3⟩
  · cases e
theorem reads_what : Reads whatK (fun x => (x.1.length ≤ 402 ∧ ∀ c ∈ x.1, c.length ≤ 400) ∧ x.2.length ≤ 402 ∧ ∀ a ∈ x.2, a.col.length ≤ 400) := by
  intro l h b r e
  unfold whatK at e
  split at e
  · obtain ⟨rfl, rfl⟩ := Prod.mk.inj (Except.ok.inj e)
    exact ⟨h.tl, tl_le l, ⟨by simp, fun c hc => by cases hc⟩, by simp, fun c hc => by cases hc⟩
  · split at e
    · rw [list_some] at e
      cases hx : someK 4 [44] nameK l with
      | error z => rw [hx] at e; cases e
      | ok y =>
        obtain ⟨ps, q⟩ := y
        rw [hx] at e
        obtain ⟨rfl, rfl⟩ := Prod.mk.inj (Except.ok.inj e)
        obtain ⟨a1, a2, a3, a4⟩ := reads_some (by decide) reads_name l h ps q hx
        exact ⟨a1, a2, ⟨a3, a4⟩, by simp, fun c hc => by cases hc⟩
    · rw [list_some] at e
      cases hx : someK 4 [44] aggK l with
      | error z => rw [hx] at e; cases e
      | ok y =>
        obtain ⟨ps, q⟩ := y
        rw [hx] at e
        obtain ⟨rfl, rfl⟩ := Prod.mk.inj (Except.ok.inj e)
        obtain ⟨a1, a2, a3, a4⟩ := reads_some (by decide) reads_agg l h ps q hx
        exact ⟨a1, a2, ⟨by simp, fun c hc => by cases hc⟩, a3, a4⟩
theorem whole_gd {l : List Tk} (h : EndL l) {p : Pd} (e : wholeK l = .ok p) : bigP p = true ∧ depP p ≤ 100 ∧ numP p := by
  unfold wholeK at e
  cases hx : predK 6 l with
  | error z => rw [hx] at e; cases e
  | ok y =>
    obtain ⟨q, r⟩ := y
    rw [hx] at e
    dsimp only at e
    unfold endK at e
    split at e
    · obtain rfl := Except.ok.inj e
      obtain ⟨_, _, g1, g2, g3⟩ := reads_pred 6 l h q r hx
      exact ⟨g1, by omega, g3⟩
    · cases e
theorem query_gd {l : List Tk} (h : EndL l) {q : Qy} (e : queryK l = .ok q) : BgQ q ∧ numP q.whr := by
  unfold queryK at e
  cases h1 : mustK 1 selW l with
  | error z => rw [h1] at e; cases e
  | ok l1 =>
  rw [h1] at e
  obtain ⟨a1, _⟩ := must_ok h h1
  dsimp only at e
  cases h2 : whatK l1 with
  | error z => rw [h2] at e; cases e
  | ok y =>
  obtain ⟨⟨c, g⟩, l2⟩ := y
  rw [h2] at e
  obtain ⟨a2, _, ⟨b1, b2⟩, b3, b4⟩ := reads_what l1 a1 _ l2 h2
  dsimp only at e b1 b2 b3 b4
  cases h3 : mustK 1 fromW l2 with
  | error z => rw [h3] at e; cases e
  | ok l3 =>
  rw [h3] at e
  obtain ⟨a3, _⟩ := must_ok a2 h3
  dsimp only at e
  cases h4 : nameK l3 with
  | error z => rw [h4] at e; cases e
  | ok y =>
  obtain ⟨t, l4⟩ := y
  rw [h4] at e
  obtain ⟨a4, _, b5⟩ := reads_name l3 a3 t l4 h4
  dsimp only at e
  cases h5 : whereK l4 with
  | error z => rw [h5] at e; cases e
  | ok y =>
  obtain ⟨p, l5⟩ := y
  rw [h5] at e
  have hw : EndL l5 ∧ GdP 15 p := by
    unfold whereK at h5
    split at h5
    · obtain ⟨x1, _, x3⟩ := reads_pred 6 _ a4.tl p l5 h5
      exact ⟨x1, x3⟩
    · obtain ⟨rfl, rfl⟩ := Prod.mk.inj (Except.ok.inj h5)
      exact ⟨a4, gd_leaf (by simp) (by simp) (by simp [zCl]) (by unfold I64b zCl; dsimp only; omega) (by omega)⟩
  obtain ⟨a5, b6, b7, b8⟩ := hw
  dsimp only at e
  cases h6 : groupK l5 with
  | error z => rw [h6] at e; cases e
  | ok y =>
  obtain ⟨b, l6⟩ := y
  rw [h6] at e
  have hb : b.length ≤ 400 := by
    unfold groupK at h6
    split at h6
    · cases h7 : mustK 1 byW (tlK l5) with
      | error z => rw [h7] at h6; cases h6
      | ok l7 =>
        rw [h7] at h6
        obtain ⟨a7, _⟩ := must_ok a5.tl h7
        exact (reads_name l7 a7 b l6 h6).2.2
    · obtain ⟨rfl, rfl⟩ := Prod.mk.inj (Except.ok.inj h6)
      simp
  dsimp only at e
  unfold endK at e
  split at e
  · obtain rfl := Except.ok.inj e
    exact ⟨⟨by dsimp only; omega, fun x hx => by have := b2 x hx; omega, by dsimp only; omega, fun x hx => by have := b4 x hx; omega, by dsimp only; omega, by dsimp only; omega, b6, by dsimp only; omega⟩, b8⟩
  · cases e
end Go.Proofs.YtipgaafgnefmdaaGreatDoor


namespace Go.Proofs.YtipgaafgnefmdaaGreatDoor
set_option linter.unusedVariables false
set_option linter.unusedSimpArgs false
set_option maxRecDepth 100000
open Go.RowKit

def tkL (t : Tk) : List Value := [.int .i64 t.kind, .string ⟨t.txt.toArray⟩, .int .i64 t.num, .int .i64 t.at_]
def tkA (t : Tk) : Array Value := #[.int .i64 t.kind, .string ⟨t.txt.toArray⟩, .int .i64 t.num, .int .i64 t.at_]
def tkV (t : Tk) : Value := .agg (tkA t)
theorem fd_tk : Fd tkL 4 := ⟨fun _ => rfl, fun x u hu => by simp [tkL] at hu; rcases hu with rfl | rfl | rfl | rfl <;> rfl, by omega, by omega⟩
theorem eln_tkW : Eln 77 99 (.agg #[.int .i64 0, .string ⟨#[]⟩, .int .i64 0, .int .i64 0]) 4 40 := ⟨Tryz.underlying77, by kernel_rfl, rfl, by decide⟩
abbrev Tks (w : World) (v : Value) (l : List Tk) : Prop := Ns tkL 4 w v l
abbrev TkoW (w : World) (B : Nat) (v : Value) (l : List Tk) : Prop := No tkL 4 99 w B v l
abbrev TkBW (w : World) (g : Nat) (c : Tk) : Prop := Blk w g 99 #[.int .i64 c.kind, .string ⟨c.txt.toArray⟩, .int .i64 c.num, .int .i64 c.at_]
abbrev TkBR (w : World) (g : Nat) (c : Tk) : Prop := Blk w g 64 #[.int .i64 c.kind, .string ⟨c.txt.toArray⟩, .int .i64 c.num, .int .i64 c.at_]
theorem tkW_new (w : World) (c : Tk) : TkBW (w.alloc (.cells #[.int .i64 c.kind, .string ⟨c.txt.toArray⟩, .int .i64 c.num, .int .i64 c.at_] 99)) w.heap.size c := Blk.new _ _ _
theorem ret_tkW {fn : Func} {p u : Tmp} (h : fn.results = #[.cell p 99, .tmp u]) (tmps : Array Value) (w : World) (g : Nat) (c : Tk) (v : Value)
    (hp : tmps.getD p undef = .pointer (some ⟨g, 0, none⟩)) (hv : tmps.getD u undef = v) (hg : TkBW w g c) : (results fn tmps).run Tryz.prog w = .ok (.tuple #[tkV c, v]) w := by
  have hl : (loadVar 99 ⟨g, 0, none⟩).run Tryz.prog w = .ok (tkV c) w :=
    run_loadVar_row w g 99 99 _ (0, 0) _ hg Tryz.underlying99 rfl (by kernel_rfl)
  rw [results_cell_tmp h, hp, hv]
  simp [asAddr, hl, Result.andThen]
/-- what a walk asks of a token in a block -/
def TkF (w : World) (g : Nat) (t : Tk) : Prop :=
    w.cell? ⟨g, 0, none⟩ = some (.int .i64 t.kind) ∧ w.cell? ⟨g, 1, none⟩ = some (.string ⟨t.txt.toArray⟩) ∧ w.cell? ⟨g, 2, none⟩ = some (.int .i64 t.num) ∧ w.cell? ⟨g, 3, none⟩ = some (.int .i64 t.at_) ∧
    w.frozen? ⟨g, 0, none⟩ = false ∧ w.frozen? ⟨g, 1, none⟩ = false ∧ w.frozen? ⟨g, 2, none⟩ = false ∧ w.frozen? ⟨g, 3, none⟩ = false
theorem TkBW.facts {w : World} {g : Nat} {t : Tk} (h : TkBW w g t) : TkF w g t := ⟨h.cell 0, h.cell 1, h.cell 2, h.cell 3, h.frozen 0, h.frozen 1, h.frozen 2, h.frozen 3⟩
theorem TkBR.facts {w : World} {g : Nat} {t : Tk} (h : TkBR w g t) : TkF w g t := ⟨h.cell 0, h.cell 1, h.cell 2, h.cell 3, h.frozen 0, h.frozen 1, h.frozen 2, h.frozen 3⟩
/-- a token stored whole, as a walk spells it -/
def setTk (w : World) (g : Nat) (t : Tk) : World := (((w.setCell ⟨g, 0, none⟩ (.int .i64 t.kind)).setCell ⟨g, 1, none⟩ (.string ⟨t.txt.toArray⟩)).setCell ⟨g, 2, none⟩ (.int .i64 t.num)).setCell ⟨g, 3, none⟩ (.int .i64 t.at_)
theorem setTk_fr (w : World) (g : Nat) (t : Tk) : Fr (One g) w (setTk w g t) := ((((Fr.refl (One g) w).set1 0 _).set1 1 _).set1 2 _).set1 3 _
theorem setTk_W {w : World} {g : Nat} {c : Tk} (h : TkBW w g c) (t : Tk) : TkBW (setTk w g t) g t := (((h.set 0 _).set 1 _).set 2 _).set 3 _
/-- the empty token in the block made first, behind what was done since -/
theorem tkW_after {w w1 : World} (hf : Fr Non (w.alloc (.cells #[.int .i64 0, .string ⟨#[]⟩, .int .i64 0, .int .i64 0] 99)) w1) : TkBW w1 w.heap.size noTk ∧ Fr Non w w1 :=
  ⟨(tkW_new w noTk).fr hf (fun e => e), ((Fr.refl Non w).alloc _).then hf⟩
theorem setTk_end {w w1 : World} (hf : Fr Non w w1) (t : Tk) : Fr Non w (setTk w1 w.heap.size t) := hf.fresh (setTk_fr _ _ _) (fun k e => by have : k = w.heap.size := e; omega)
end Go.Proofs.YtipgaafgnefmdaaGreatDoor


namespace Go.Proofs.YtipgaafgnefmdaaGreatDoor
set_option linter.unusedVariables false
set_option linter.unusedSimpArgs false
set_option maxRecDepth 100000
open Go.RowKit

/-- a text's cell -/
def sv (l : List UInt8) : Value := .string ⟨l.toArray⟩
theorem sv_one (l : List UInt8) : (sv l).oneCell' = true := rfl
theorem el_str : El 23 9 (.string ⟨#[]⟩) 16 := ⟨Tryz.underlying23, by kernel_rfl, rfl, by decide, by kernel_rfl, fun _ => by kernel_rfl⟩
end Go.Proofs.YtipgaafgnefmdaaGreatDoor


namespace Go.Proofs.YtipgaafgnefmdaaGreatDoor
set_option linter.unusedVariables false
set_option linter.unusedSimpArgs false
set_option maxRecDepth 100000
open Go.RowKit

theorem isletter_any (r : Int) (w : World) : Calls Tryz.prog 74 #[.int .i32 r] w fun e w' => e = .returned (.bool (ltrI r)) ∧ w = w' := by
  by_cases h1 : 97 ≤ r
  · by_cases h2 : r ≤ 122
    · have H := Lib.hid (show ltrI r = true by simp [ltrI, h1, h2])
      go_enter Tryz.func74, Tryz.ntmps74
      go_wp2
      go_ret
      exact ⟨ret_boolE H.out.symm, rfl⟩
    · have H := Lib.hid (show ltrI r = false by simp [ltrI, h1, h2])
      go_enter Tryz.func74, Tryz.ntmps74
      go_wp2
      go_ret
      exact ⟨ret_boolE H.out.symm, rfl⟩
  · have H := Lib.hid (show ltrI r = false by simp [ltrI, h1])
    go_enter Tryz.func74, Tryz.ntmps74
    go_wp2
    go_ret
    exact ⟨ret_boolE H.out.symm, rfl⟩
theorem isdigit_any (r : Int) (w : World) : Calls Tryz.prog 75 #[.int .i32 r] w fun e w' => e = .returned (.bool (dgtI r)) ∧ w = w' := by
  by_cases h1 : 48 ≤ r
  · by_cases h2 : r ≤ 57
    · have H := Lib.hid (show dgtI r = true by simp [dgtI, h1, h2])
      go_enter Tryz.func75, Tryz.ntmps75
      go_wp2
      go_ret
      exact ⟨ret_boolE H.out.symm, rfl⟩
    · have H := Lib.hid (show dgtI r = false by simp [dgtI, h1, h2])
      go_enter Tryz.func75, Tryz.ntmps75
      go_wp2
      go_ret
      exact ⟨ret_boolE H.out.symm, rfl⟩
  · have H := Lib.hid (show dgtI r = false by simp [dgtI, h1])
    go_enter Tryz.func75, Tryz.ntmps75
    go_wp2
    go_ret
    exact ⟨ret_boolE H.out.symm, rfl⟩

set_option maxHeartbeats 4000000 in
theorem isword_any (l : List UInt8) (w : World) : Calls Tryz.prog 73 #[.string ⟨l.toArray⟩] w fun e w' => e = .returned (.bool (decide (l ∈ wordsL))) ∧ w = w' := by
  go_enter Tryz.func73, Tryz.ntmps73
  go_wp2
  all_goals
    go_ret
    exact ⟨ret_boolE (by simp_all [wordsL]), rfl⟩

theorem words_any (w : World) : Calls Tryz.prog 65 #[] w fun e w' => ∃ v, e = .returned v ∧ Vs sv w' v wordsL ∧ Fr Non w w' := by
  have hv := ow_lit (f := sv) (E := 9) w 0 _ wordsL #[.string ⟨#[97, 110, 100]⟩, .string ⟨#[111, 114]⟩, .string ⟨#[110, 111, 116]⟩, .string ⟨#[105, 115]⟩, .string ⟨#[110, 117, 108, 108]⟩, .string ⟨#[108, 105, 107, 101]⟩, .string ⟨#[116, 114, 117, 101]⟩, .string ⟨#[102, 97, 108, 115, 101]⟩, .string ⟨#[115, 101, 108, 101, 99, 116]⟩, .string ⟨#[102, 114, 111, 109]⟩, .string ⟨#[119, 104, 101, 114, 101]⟩, .string ⟨#[103, 114, 111, 117, 112]⟩, .string ⟨#[98, 121]⟩, .string ⟨#[97, 108, 108]⟩, .string ⟨#[99, 111, 117, 110, 116]⟩, .string ⟨#[104, 97, 115]⟩, .string ⟨#[115, 117, 109]⟩, .string ⟨#[109, 105, 110]⟩, .string ⟨#[109, 97, 120]⟩] rfl rfl (Nat.zero_le _) (by unfold maxLen; decide)
  have HV := Lib.hid hv.vs
  clear hv
  go_enter Tryz.func65, Tryz.ntmps65
  go_wp2
  go_ret
  exact ⟨_, rfl, HV.out, (Fr.refl _ _).alloc _⟩
end Go.Proofs.YtipgaafgnefmdaaGreatDoor


namespace Go.Proofs.YtipgaafgnefmdaaGreatDoor
set_option linter.unusedVariables false
set_option linter.unusedSimpArgs false
set_option maxRecDepth 100000
open Go.RowKit

theorem slenN (l : List UInt8) : ByteArray.size ⟨l.toArray⟩ = l.length := by simp [ByteArray.size]
theorem not_word {l : List UInt8} (h : ∀ j (hj : j < wordsL.length), wordsL[j] ≠ l) : l ∉ wordsL := by
  intro hm
  obtain ⟨j, hj, e⟩ := List.mem_iff_getElem.1 hm
  exact h j hj e
theorem nmOk_more {l : List UInt8} {k : Nat} (h : ∀ j (hj : j < l.length), j < k → okI j (l[j]).toNat = true) (hk : k < l.length) (hc : okI k (l[k]).toNat = true) : ∀ j (hj : j < l.length), j < k + 1 → okI j (l[j]).toNat = true := by
  intro j hj hlt
  by_cases e : j = k
  · subst e; exact hc
  · exact h j hj (by omega)

set_option maxHeartbeats 2000000 in
theorem rname_any (l : List UInt8) (w : World) (hl : l.length ≤ 1000000000) : Calls Tryz.prog 36 #[.string ⟨l.toArray⟩] w fun e w' => e = .returned (.bool (nameB l)) ∧ Fr Non w w' := by
  have hs := slenN l
  go_enter Tryz.func36, Tryz.ntmps36
  go_wp2
  go_loop [3] (fun i => ∃ k : Nat, k ≤ l.length ∧ i = .int .i64 k ∧ Hid (∀ j (hj : j < l.length), j < k → okI j (l[j]).toNat = true)) (fun i => l.length - (intOf i).toNat)
  case atStart => exact ⟨0, by omega, rfl, Lib.hid (fun _ _ h => by omega)⟩
  case round =>
    obtain ⟨k, hk, rfl, hok⟩ := hrel
    by_cases hlt : k < l.length
    · obtain ⟨c, hc⟩ : ∃ c, l[k] = c := ⟨_, rfl⟩
      have hb := byte_at l k c hlt hc
      have HC := Lib.hid hc
      clear hc
      have HM := Lib.hid (fun (h : okI k c.toNat = true) => nmOk_more hok.out hlt (by rw [HC.out]; exact h))
      have HX := Lib.hid (fun (h : okI k c.toNat = false) => name_bad hlt (by rw [HC.out]; exact h))
      clear HC hok
      go_wp2
      all_goals first
        | (go_ret
           refine ⟨ret_boolE (HX.out ?_).symm, Fr.refl _ _⟩
           clear HX HM hb hs
           rw [Bool.eq_false_iff]
           intro hh
           simp [okI, ltrI, dgtI] at *
           done)
        | (go_ret
           refine ⟨ret_boolE (HX.out ?_).symm, Fr.refl _ _⟩
           clear HX HM hb hs
           rw [Bool.eq_false_iff]
           intro hh
           simp [okI, ltrI, dgtI] at *
           omega)
        | (go_roundw
           case rel =>
             refine ⟨k + 1, by omega, by go_num, Lib.hid (HM.out ?_)⟩
             clear HX HM hb hs
             simp [okI, ltrI, dgtI] at *
             omega
           case measure => simp [intOf]; omega)
        | (go_roundw
           case rel =>
             refine ⟨k + 1, by omega, by go_num, Lib.hid (HM.out ?_)⟩
             clear HX HM hb hs
             simp [okI, ltrI, dgtI] at *
             done
           case measure => simp [intOf]; omega)
    · have HO : Hid (nmOk l) := Lib.hid (fun j hj => hok.out j hj (by omega))
      clear hok
      go_wp2_with fail
      refine (words_any _).mono ?_
      rintro e w1 ⟨v, rfl, hv, hf1⟩
      have hw : wordsL.length = 19 := rfl
      obtain ⟨A, c, he, hc, hn, hcell⟩ := hv
      rw [hw] at he hc
      subst he
      have HN := Lib.hid hn
      have HCE := Lib.hid hcell
      have HF := Lib.hid hf1
      clear hn hcell hf1
      go_wp2
      go_loop [8] (fun i => ∃ q : Nat, q ≤ 19 ∧ i = .int .i64 q ∧ Hid (∀ j (hj : j < wordsL.length), j < q → wordsL[j] ≠ l)) (fun i => 19 - (intOf i).toNat)
      case atStart => exact ⟨0, by omega, rfl, Lib.hid (fun _ _ h => by omega)⟩
      case round =>
        obtain ⟨q, hq, rfl, hne⟩ := hrel
        by_cases hlq : q < 19
        · cases A with
          | none => have := HN.out rfl; omega
          | some a =>
            have hql : q < wordsL.length := by rw [hw]; exact hlq
            have hce := HCE.out a rfl q hql
            unfold sv at hce
            by_cases he : wordsL[q] = l
            · have HE := Lib.hid (name_word (l := l) (by rw [← he]; exact List.getElem_mem hql))
              rw [he] at hce
              clear he
              go_wp2
              go_ret
              exact ⟨ret_boolE HE.out.symm, HF.out⟩
            · have HE : Hid (∀ j (hj : j < wordsL.length), j < q + 1 → wordsL[j] ≠ l) := Lib.hid (fun j hj hlt => by
                by_cases e : j = q
                · subst e; exact he
                · exact hne.out j hj (by omega))
              have hb : (wordsL[q] == l) = false := by rw [beq_eq_false_iff_ne]; exact he
              clear he hne
              generalize wordsL[q] = x at *
              go_wp2
              go_roundw
              case rel => exact ⟨q + 1, by omega, by go_num, HE⟩
              case measure => simp [intOf]; omega
        · have HW : Hid (l ∉ wordsL) := Lib.hid (not_word fun j hj => hne.out j hj (by rw [hw] at hj; omega))
          clear hne
          by_cases h1 : 1 ≤ l.length
          · by_cases h2 : l.length ≤ 12
            · have H := Lib.hid (name_yes h1 h2 HW.out HO.out)
              go_wp2
              go_ret
              exact ⟨ret_boolE (by rw [H.out]; exact decide_eq_true (by omega)), HF.out⟩
            · have H := Lib.hid (name_long (l := l) (by omega))
              go_wp2
              go_ret
              exact ⟨ret_boolE (by rw [H.out]; exact decide_eq_false (by omega)), HF.out⟩
          · have H := Lib.hid (name_nil (l := l) (by omega))
            go_wp2
            go_ret
            exact ⟨ret_boolE H.out.symm, HF.out⟩

set_option maxHeartbeats 2000000 in
theorem sname_any (l : List UInt8) (w : World) (hl : l.length ≤ 1000000000) : Calls Tryz.prog 50 #[.string ⟨l.toArray⟩] w fun e w' => e = .returned (.bool (nameB l)) ∧ Fr Non w w' := by
  have hs := slenN l
  by_cases h0 : l = []
  · subst h0
    go_enter Tryz.func50, Tryz.ntmps50
    go_wp2
    go_ret
    exact ⟨rfl, Fr.refl _ _⟩
  · have h0b : (l == []) = false := by rw [beq_eq_false_iff_ne]; exact h0
    have HL : Hid (1 ≤ l.length) := Lib.hid (Nat.pos_of_ne_zero (fun e => h0 (List.eq_nil_of_length_eq_zero e)))
    clear h0
    by_cases h12 : 12 < l.length
    · have H := Lib.hid (name_long h12)
      go_enter Tryz.func50, Tryz.ntmps50
      go_wp2
      go_ret
      exact ⟨ret_boolE H.out.symm, Fr.refl _ _⟩
    · have HI := fun W => isword_any l W
      cases hw : decide (l ∈ wordsL)
      · simp only [hw] at HI
        have HW := Lib.hid (of_decide_eq_false hw)
        clear hw
        replace HI := Lib.hid HI
        go_enter Tryz.func50, Tryz.ntmps50
        go_wp2_with fail
        refine (HI.out _).mono ?_
        rintro e w1 ⟨rfl, rfl⟩
        clear HI
        go_wp2
        go_loopw [3, 4] (fun _ _ wr => ∃ k : Nat, k ≤ l.length ∧ wr = w.iter ⟨l.toArray⟩ k ∧ Hid (∀ j (hj : j < l.length), j < k → okI j (l[j]).toNat = true)) (fun _ _ wr => l.length - wr.iterPos w.heap.size)
        case atStart => exact ⟨0, by omega, rfl, Lib.hid (fun _ _ h => by omega)⟩
        case round =>
          obtain ⟨k, hk, rfl, hok⟩ := hrel
          by_cases hlt : k < l.length
          · obtain ⟨c, hc⟩ : ∃ c, l[k] = c := ⟨_, rfl⟩
            have hm := World.iterPos_iter w ⟨l.toArray⟩ k
            have HC := Lib.hid hc
            have hbk : (⟨l.toArray⟩ : ByteArray)[k]'(by rw [hs]; exact hlt) = c := hc
            clear hc
            have HM := Lib.hid (fun (h : okI k c.toNat = true) => nmOk_more hok.out hlt (by rw [HC.out]; exact h))
            have HX := Lib.hid (fun (h : okI k c.toNat = false) => name_bad hlt (by rw [HC.out]; exact h))
            clear HC hok
            by_cases hhi : c.toNat < 128
            · have hn := fun ty => run_next_ascii (P := Tryz.prog) w ⟨l.toArray⟩ k ty (by rw [hs]; exact hlt) (by rw [hbk]; exact hhi)
              rw [hbk] at hn
              clear hbk hhi
              have hm1 := World.iterPos_iter w ⟨l.toArray⟩ (k + 1)
              have FR1 := Lib.hid ((Fr.refl Non w).alloc (.stringIter ⟨l.toArray⟩ (k + 1)))
              replace hm1 := Lib.hid hm1
              change Hid (Fr Non w (w.iter ⟨l.toArray⟩ (k + 1))) at FR1
              have HM1 := hm1
              clear hm1
              have HL1 := fun W => isletter_any c.toNat W
              have HD1 := fun W => isdigit_any c.toNat W
              cases hL : ltrI c.toNat
              · simp only [hL] at HL1
                replace HL1 := Lib.hid HL1
                by_cases hk0 : k = 0
                · subst hk0
                  replace HX := Lib.hid (HX.out (by simp [okI, hL]))
                  clear HD1 HM hL
                  go_wp2_with fail
                  refine (HL1.out _).mono ?_
                  rintro e w1 ⟨rfl, rfl⟩
                  clear HL1
                  go_wp2
                  go_ret
                  exact ⟨ret_boolE HX.out.symm, FR1.out⟩
                · have hkb : ((k : Int) == 0) = false := by rw [beq_eq_false_iff_ne]; omega
                  have HK0 := Lib.hid hk0
                  clear hk0
                  cases hD : dgtI c.toNat
                  · simp only [hD] at HD1
                    replace HD1 := Lib.hid HD1
                    by_cases h95 : (c.toNat : Int) = 95
                    · replace HM := Lib.hid (HM.out (by simp [okI, hL, hD, h95]; exact .inr HK0.out))
                      have h95b : ((c.toNat : Int) == 95) = true := by rw [beq_iff_eq]; exact h95
                      clear HX hL hD h95
                      go_wp2_with fail
                      refine (HL1.out _).mono ?_
                      rintro e w1 ⟨rfl, rfl⟩
                      clear HL1
                      go_wp2_with fail
                      refine (HD1.out _).mono ?_
                      rintro e w1 ⟨rfl, rfl⟩
                      clear HD1
                      go_wp2
                      go_roundw
                      case rel => exact ⟨k + 1, by omega, rfl, HM⟩
                      case measure => rw [hm, HM1.out]; omega
                    · replace HX := Lib.hid (HX.out (by simp [okI, hL, hD, h95]))
                      have h95b : ((c.toNat : Int) == 95) = false := by rw [beq_eq_false_iff_ne]; exact h95
                      clear HM hL hD h95
                      go_wp2_with fail
                      refine (HL1.out _).mono ?_
                      rintro e w1 ⟨rfl, rfl⟩
                      clear HL1
                      go_wp2_with fail
                      refine (HD1.out _).mono ?_
                      rintro e w1 ⟨rfl, rfl⟩
                      clear HD1
                      go_wp2
                      go_ret
                      exact ⟨ret_boolE HX.out.symm, FR1.out⟩
                  · simp only [hD] at HD1
                    replace HD1 := Lib.hid HD1
                    replace HM := Lib.hid (HM.out (by simp [okI, hL, hD]; exact HK0.out))
                    clear HX hL hD
                    go_wp2_with fail
                    refine (HL1.out _).mono ?_
                    rintro e w1 ⟨rfl, rfl⟩
                    clear HL1
                    go_wp2_with fail
                    refine (HD1.out _).mono ?_
                    rintro e w1 ⟨rfl, rfl⟩
                    clear HD1
                    go_wp2
                    go_roundw
                    case rel => exact ⟨k + 1, by omega, rfl, HM⟩
                    case measure => rw [hm, HM1.out]; omega
              · simp only [hL] at HL1
                replace HL1 := Lib.hid HL1
                replace HM := Lib.hid (HM.out (by simp [okI, hL]))
                clear HX hL HD1
                go_wp2_with fail
                refine (HL1.out _).mono ?_
                rintro e w1 ⟨rfl, rfl⟩
                clear HL1
                go_wp2
                go_roundw
                case rel => exact ⟨k + 1, by omega, rfl, HM⟩
                case measure => rw [hm, HM1.out]; omega
            · have hn := fun ty => run_next_any (P := Tryz.prog) w ⟨l.toArray⟩ k ty (by rw [hs]; exact hlt)
              have hr := (decode_high ⟨l.toArray⟩ k (by rw [hs]; exact hlt) (by rw [hbk]; omega)).1
              replace HX := Lib.hid (HX.out (okI_high (by omega)))
              clear HM hbk
              generalize (Utf8.decode ⟨l.toArray⟩ k).1 = r at *
              generalize k + (Utf8.decode ⟨l.toArray⟩ k).2 = p at *
              have FR1 := Lib.hid ((Fr.refl Non w).alloc (.stringIter ⟨l.toArray⟩ p))
              change Hid (Fr Non w (w.iter ⟨l.toArray⟩ p)) at FR1
              have HL1 := fun W => isletter_any r W
              have HD1 := fun W => isdigit_any r W
              have e1 : ltrI r = false := by simp [ltrI]; omega
              have e2 : dgtI r = false := by simp [dgtI]; omega
              have h95b : ((r : Int) == 95) = false := by rw [beq_eq_false_iff_ne]; omega
              simp only [e1] at HL1
              simp only [e2] at HD1
              replace HL1 := Lib.hid HL1
              replace HD1 := Lib.hid HD1
              clear e1 e2 hr hhi
              by_cases hk0 : k = 0
              · subst hk0
                clear HD1
                go_wp2_with fail
                refine (HL1.out _).mono ?_
                rintro e w1 ⟨rfl, rfl⟩
                clear HL1
                go_wp2
                go_ret
                exact ⟨ret_boolE HX.out.symm, FR1.out⟩
              · have hkb : ((k : Int) == 0) = false := by rw [beq_eq_false_iff_ne]; omega
                clear hk0
                go_wp2_with fail
                refine (HL1.out _).mono ?_
                rintro e w1 ⟨rfl, rfl⟩
                clear HL1
                go_wp2_with fail
                refine (HD1.out _).mono ?_
                rintro e w1 ⟨rfl, rfl⟩
                clear HD1
                go_wp2
                go_ret
                exact ⟨ret_boolE HX.out.symm, FR1.out⟩
          · have hn := fun ty => run_next_end (P := Tryz.prog) w ⟨l.toArray⟩ k ty (by rw [hs]; exact hlt)
            have H := Lib.hid (name_yes HL.out (by omega) HW.out (fun j hj => hok.out j hj (by omega)))
            clear hok
            go_wp2
            go_ret
            exact ⟨ret_boolE H.out.symm, (Fr.refl _ _).alloc _⟩
      · simp only [hw] at HI
        have H := Lib.hid (name_word (of_decide_eq_true hw))
        clear hw
        replace HI := Lib.hid HI
        go_enter Tryz.func50, Tryz.ntmps50
        go_wp2_with fail
        refine (HI.out _).mono ?_
        rintro e w1 ⟨rfl, rfl⟩
        go_wp2
        go_ret
        exact ⟨ret_boolE H.out.symm, Fr.refl _ _⟩
end Go.Proofs.YtipgaafgnefmdaaGreatDoor
