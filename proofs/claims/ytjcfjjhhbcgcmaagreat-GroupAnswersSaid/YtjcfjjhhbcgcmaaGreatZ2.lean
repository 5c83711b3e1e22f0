/-
  Joined: MathSchema, MathNum, MathUtf, MathPred, MathGlob, MathPre2, MathQry, MathBig, Cell6, MathEval, MathGroup, MathGroup3, SlcP, AppC, ColC0, ColC, At0
-/
import Derived.Lib.Zigzag
import Derived.Deep.QuietTactic
import Derived.BigQuiet
import Derived.Deep.RegionHeld3
import Derived.Deep.DrawnRows
import Derived.Shelf.Strings.Replace
import Derived.Shelf.Strconv.Itoa4
import Derived.Shelf.Strings.OnBuilder
import Derived.Test.YtjcfjjhhbcgcmaaGreatProg
import Derived.Lib.SmallJoins
import Derived.Lib.AppendIntMem
import Derived.Laws.StructEq
import Derived.Laws.Rows
import Derived.Laws.ResultCell
import Derived.Deep.RegionWith
import Derived.Test.YtjcfjjhhbcgcmaaGreatZ1
import Derived.Lib.ItoaLen
import Derived.Lib.ItoaMem
import Derived.Lib.ParseIntBCases
import Derived.Lib.ParseIntBTie
import Derived.Lib.Replace
import Derived.Lib.CountLaws
import Derived.Lib.DecodeN
import Derived.Laws.RangeAny
import Derived.Laws.Cover4
import Derived.Lib.Join
import Derived.BigFrame
set_option linter.unusedVariables false
set_option linter.unusedSimpArgs false
set_option maxRecDepth 100000
namespace Go.Proofs.YtjcfjjhhbcgcmaaGreat
open Go.RowKit
def badC (c : Co) : Bool := !(nameB c.name && isTy c.ty)
def namesC (l : List Co) : List Tx := l.map Co.name
def chkC (l : List Co) : Int := if l.length = 0 ∨ l.any badC = true ∨ ¬ (namesC l).Nodup then 1 else if 6 < l.length then 4 else 0
theorem chk_bad {l : List Co} {k : Nat} (h : k < l.length) (hb : badC l[k] = true) : chkC l = 1 := if_pos (.inr (.inl (List.any_eq_true.2 ⟨_, List.getElem_mem h, hb⟩)))
theorem chk_any {l : List Co} (hb : l.any badC = true) : chkC l = 1 := if_pos (.inr (.inl hb))
theorem chk_dup {l : List Co} (h : ¬ (namesC l).Nodup) : chkC l = 1 := if_pos (.inr (.inr h))
theorem chk_none {l : List Co} (h : l.length = 0) : chkC l = 1 := if_pos (.inl h)
theorem chk_many {l : List Co} (h0 : ¬ l.length = 0) (h1 : l.any badC = false) (h2 : (namesC l).Nodup) (h3 : 6 < l.length) : chkC l = 4 := by
  unfold chkC; rw [if_neg (by rintro (h | h | h); exact h0 h; rw [h1] at h; cases h; exact h h2), if_pos h3]
theorem chk_ok {l : List Co} (h0 : ¬ l.length = 0) (h1 : l.any badC = false) (h2 : (namesC l).Nodup) (h3 : ¬ 6 < l.length) : chkC l = 0 := by
  unfold chkC; rw [if_neg (by rintro (h | h | h); exact h0 h; rw [h1] at h; cases h; exact h h2), if_neg h3]
theorem chk_is {l : List Co} (h : chkC l = 0) : ¬ l.length = 0 ∧ l.any badC = false ∧ (namesC l).Nodup ∧ l.length ≤ 6 := by
  unfold chkC at h
  split at h
  · cases h
  · rename_i h1
    split at h
    · cases h
    · refine ⟨fun e => h1 (.inl e), ?_, ?_, by omega⟩
      · cases hb : l.any badC
        · rfl
        · exact absurd (.inr (.inl hb)) h1
      · exact Classical.byContradiction fun e => h1 (.inr (.inr e))
theorem nodup_more {l : List Co} {k : Nat} (h : k < l.length) (h1 : (namesC (l.take k)).Nodup) (h2 : ∀ j (hj : j < l.length), j < k → l[j].name ≠ l[k].name) : (namesC (l.take (k + 1))).Nodup := by
  unfold namesC
  rw [List.take_succ_eq_append_getElem h, List.map_append, List.nodup_append]
  refine ⟨h1, by simp, ?_⟩
  intro a ha b hb
  obtain ⟨c, hc, rfl⟩ := List.mem_map.1 ha
  obtain rfl : l[k].name = b := by rw [List.map_cons, List.map_nil, List.mem_singleton] at hb; exact hb.symm
  obtain ⟨j, hj, rfl⟩ := List.mem_iff_getElem.1 hc
  rw [List.length_take] at hj
  rw [List.getElem_take]
  exact h2 j (by omega) (by omega)
theorem nodup_not {l : List Co} {j k : Nat} (hk : k < l.length) (hj : j < k) (h : l[j].name = l[k].name) : ¬ (namesC l).Nodup := by
  intro hn
  have h1 : (namesC l)[j]'(by unfold namesC; rw [List.length_map]; omega) = (namesC l)[k]'(by unfold namesC; rw [List.length_map]; omega) := by
    unfold namesC; rw [List.getElem_map, List.getElem_map]; exact h
  have := (List.getElem_inj hn).1 h1
  omega
theorem any_more {l : List Co} {k : Nat} (h : k < l.length) (h1 : (l.take k).any badC = false) (h2 : badC l[k] = false) : (l.take (k + 1)).any badC = false := by
  rw [List.take_succ_eq_append_getElem h, List.any_append, h1]; simp [h2]
theorem ne_more {l : List Co} {n : Tx} {k : Nat} (h : k < l.length) (ha : ∀ j (hj : j < l.length), j < k → l[j].name ≠ n) (hb : l[k].name ≠ n) : ∀ j (hj : j < l.length), j < k + 1 → l[j].name ≠ n := by
  intro j hj hlt
  by_cases e : j = k
  · subst e; exact hb
  · exact ha j hj (by omega)
def findC (l : List Co) (n : Tx) : Option Nat := l.findIdx? fun c => c.name == n
theorem find_at {l : List Co} {n : Tx} {k : Nat} (h : k < l.length) (he : l[k].name = n) (hn : ∀ j (hj : j < l.length), j < k → l[j].name ≠ n) : findC l n = some k := by
  unfold findC
  rw [List.findIdx?_eq_some_iff_getElem]
  exact ⟨h, by simpa using he, fun j hj => by simpa using hn j (by omega) hj⟩
theorem find_no {l : List Co} {n : Tx} (hn : ∀ j (hj : j < l.length), l[j].name ≠ n) : findC l n = none := by
  unfold findC
  rw [List.findIdx?_eq_none_iff]
  intro c hc
  obtain ⟨j, hj, rfl⟩ := List.mem_iff_getElem.1 hc
  simpa using hn j hj
theorem find_lt {l : List Co} {n : Tx} {k : Nat} (h : findC l n = some k) : k < l.length := by
  unfold findC at h
  exact (List.findIdx?_eq_some_iff_getElem.1 h).1
def rowB (l : List Co) (row : List Cl) : Bool := decide (l.length = row.length ∧ ∀ j (h : j < l.length) (h2 : j < row.length), mayC l[j].ty l[j].nl row[j] = true)
theorem row_len {l : List Co} {row : List Cl} (h : ¬ l.length = row.length) : rowB l row = false := decide_eq_false fun h' => h h'.1
theorem row_bad {l : List Co} {row : List Cl} {j : Nat} (h : j < l.length) (h2 : j < row.length) (hb : mayC l[j].ty l[j].nl row[j] = false) : rowB l row = false := decide_eq_false fun h' => by
  have := h'.2 j h h2; rw [hb] at this; cases this
theorem row_yes {l : List Co} {row : List Cl} (h : l.length = row.length) (h2 : ∀ j (h : j < l.length) (h2 : j < row.length), mayC l[j].ty l[j].nl row[j] = true) : rowB l row = true := decide_eq_true ⟨h, h2⟩
theorem row_more {l : List Co} {row : List Cl} {k : Nat} (h : k < l.length) (h2 : k < row.length) (ha : ∀ j (h : j < l.length) (h2 : j < row.length), j < k → mayC l[j].ty l[j].nl row[j] = true) (hb : mayC l[k].ty l[k].nl row[k] = true) :
    ∀ j (h : j < l.length) (h2 : j < row.length), j < k + 1 → mayC l[j].ty l[j].nl row[j] = true := by
  intro j hj hj2 hlt
  by_cases e : j = k
  · subst e; exact hb
  · exact ha j hj hj2 (by omega)
end Go.Proofs.YtjcfjjhhbcgcmaaGreat

namespace Go.Proofs.YtjcfjjhhbcgcmaaGreat
def I64b (x : Int) : Prop := -9223372036854775808 ≤ x ∧ x ≤ 9223372036854775807
end Go.Proofs.YtjcfjjhhbcgcmaaGreat

namespace Go.Proofs.YtjcfjjhhbcgcmaaGreat
def dcU (l : List UInt8) : Nat × Nat := Lib.decodeN l.length (l.getD 0 0).toNat (l.getD 1 0).toNat (l.getD 2 0).toNat (l.getD 3 0).toNat
theorem getbU (l : List UInt8) (i : Nat) : (⟨l.toArray⟩ : ByteArray).get! i = l.getD i 0 := by
  simp only [ByteArray.get!, List.getElem!_toArray, List.getD_eq_getElem?_getD]
  by_cases h : i < l.length
  · simp [h]
  · simp [List.getElem?_eq_none (Nat.le_of_not_lt h)]
    rfl
theorem dcU_at (l : List UInt8) (k : Nat) : Utf8.decode ⟨l.toArray⟩ k = dcU (l.drop k) := by
  rw [Lib.decode_at]
  unfold dcU
  simp only [getbU]
  have hs : ByteArray.size ⟨l.toArray⟩ = l.length := by simp [ByteArray.size]
  rw [hs, List.length_drop]
  simp only [List.getD_eq_getElem?_getD, List.getElem?_drop, Nat.add_zero]
def okU (r : Nat) : Prop := r < 55296 ∨ (57344 ≤ r ∧ r ≤ 1114111)
theorem decN_w (n b0 b1 b2 b3 : Nat) (hn : 1 ≤ n) : 1 ≤ (Lib.decodeN n b0 b1 b2 b3).2 ∧ (Lib.decodeN n b0 b1 b2 b3).2 ≤ n := by
  unfold Lib.decodeN
  repeat' split
  all_goals simp only
  all_goals omega
theorem decN_ok (n b0 b1 b2 b3 : Nat) (h0 : b0 < 256) (h1 : b1 < 256) (h2 : b2 < 256) (h3 : b3 < 256) : okU (Lib.decodeN n b0 b1 b2 b3).1 := by
  unfold Lib.decodeN okU
  repeat' split
  all_goals simp only
  all_goals omega
theorem dcU_w {l : List UInt8} (h : l ≠ []) : 1 ≤ (dcU l).2 ∧ (dcU l).2 ≤ l.length := decN_w _ _ _ _ _ (List.length_pos_iff.2 h)
theorem dcU_ok (l : List UInt8) : okU (dcU l).1 := decN_ok _ _ _ _ _ (UInt8.toNat_lt _) (UInt8.toNat_lt _) (UInt8.toNat_lt _) (UInt8.toNat_lt _)
def rnU : Nat → List UInt8 → List Nat
  | 0, _ => []
  | _ + 1, [] => []
  | n + 1, b :: l => (dcU (b :: l)).1 :: rnU n ((b :: l).drop (dcU (b :: l)).2)
def runesU (l : List UInt8) : List Nat := rnU l.length l
theorem rnU_nil (n : Nat) : rnU n [] = [] := by cases n <;> rfl
theorem rnU_more : ∀ (n m : Nat) (l : List UInt8), l.length ≤ n → l.length ≤ m → rnU n l = rnU m l
  | 0, m, l, h, _ => by
    obtain rfl : l = [] := List.eq_nil_of_length_eq_zero (by omega)
    rw [rnU_nil, rnU_nil]
  | n + 1, 0, l, _, h => by
    obtain rfl : l = [] := List.eq_nil_of_length_eq_zero (by omega)
    rw [rnU_nil, rnU_nil]
  | n + 1, m + 1, [], _, _ => rfl
  | n + 1, m + 1, b :: l, h1, h2 => by
    have hw := dcU_w (l := b :: l) (by simp)
    have hd : ((b :: l).drop (dcU (b :: l)).2).length ≤ l.length := by rw [List.length_drop, List.length_cons]; omega
    simp only [List.length_cons] at h1 h2
    simp only [rnU]
    rw [rnU_more n m _ (by omega) (by omega)]
theorem runesU_nil : runesU [] = [] := rfl
theorem runesU_head {l : List UInt8} (h : l ≠ []) : runesU l = (dcU l).1 :: runesU (l.drop (dcU l).2) := by
  cases l with
  | nil => exact absurd rfl h
  | cons b l =>
    have hw := dcU_w (l := b :: l) (by simp)
    unfold runesU
    simp only [List.length_cons, rnU]
    rw [rnU_more _ ((b :: l).drop (dcU (b :: l)).2).length _ (by rw [List.length_drop, List.length_cons]; omega) (Nat.le_refl _)]
theorem runesU_drop {l : List UInt8} {k : Nat} (h : k < l.length) : runesU (l.drop k) = (dcU (l.drop k)).1 :: runesU (l.drop (k + (dcU (l.drop k)).2)) := by
  rw [runesU_head (l := l.drop k) (by intro e; have := congrArg List.length e; simp at this; omega), List.drop_drop]
theorem runesU_end {l : List UInt8} {k : Nat} (h : ¬ k < l.length) : runesU (l.drop k) = [] := by
  rw [List.drop_eq_nil_of_le (by omega)]; rfl
theorem runesU_len (n : Nat) : ∀ (l : List UInt8), l.length ≤ n → (runesU l).length ≤ l.length := by
  induction n with
  | zero => intro l h; obtain rfl : l = [] := List.eq_nil_of_length_eq_zero (by omega); simp [runesU_nil]
  | succ n ih =>
    intro l h
    by_cases hl : l = []
    · subst hl; simp [runesU_nil]
    · have hw := dcU_w hl
      have := ih (l.drop (dcU l).2) (by rw [List.length_drop]; omega)
      rw [runesU_head hl, List.length_cons]
      rw [List.length_drop] at this
      omega
theorem runesU_le (l : List UInt8) : (runesU l).length ≤ l.length := runesU_len _ l (Nat.le_refl _)
end Go.Proofs.YtjcfjjhhbcgcmaaGreat

namespace Go.Proofs.YtjcfjjhhbcgcmaaGreat
open Go.RowKit
def zCl : Cl := ⟨false, 0, []⟩
structure Ph where
  op : Int
  col : Tx
  cmp : Int
  val : Cl
  kind : Int
  pat : Tx
  deriving DecidableEq
inductive Pd where
  | mk (h : Ph) (kids : List Pd)
def Pd.hd : Pd → Ph | .mk h _ => h
def Pd.kids : Pd → List Pd | .mk _ l => l
theorem Pd.eta (p : Pd) : p = .mk p.hd p.kids := by cases p; rfl
theorem Pd.ind {M : Pd → Prop} (h : ∀ hd ks, (∀ k ∈ ks, M k) → M (.mk hd ks)) (p : Pd) : M p :=
  Pd.rec (motive_1 := M) (motive_2 := fun l => ∀ k ∈ l, M k) (fun hd ks ih => h hd ks ih) (fun _ hk => by cases hk)
    (fun k r hk hr x hx => by
      rcases List.mem_cons.1 hx with rfl | hx
      · exact hk
      · exact hr x hx) p
mutual
def cntP : Pd → Nat | .mk _ ks => 1 + cntL ks
def cntL : List Pd → Nat | [] => 0 | k :: r => cntP k + cntL r
end
mutual
def depP : Pd → Nat | .mk _ ks => 1 + depL ks
def depL : List Pd → Nat | [] => 0 | k :: r => max (depP k) (depL r)
end
def lenH (h : Ph) (n : Nat) : Bool := decide (n ≤ 20 ∧ h.col.length ≤ 100 ∧ h.pat.length ≤ 100 ∧ h.val.txt.length ≤ 100)
mutual
def lenP : Pd → Bool | .mk h ks => lenH h ks.length && lenL ks
def lenL : List Pd → Bool | [] => true | k :: r => lenP k && lenL r
end
theorem lenL_all (l : List Pd) : lenL l = l.all lenP := by
  induction l with
  | nil => rfl
  | cons k r ih => rw [lenL, ih]; rfl
theorem depL_mem {l : List Pd} {k : Pd} (h : k ∈ l) : depP k ≤ depL l := by
  induction l with
  | nil => cases h
  | cons x r ih =>
    rw [depL]
    rcases List.mem_cons.1 h with rfl | h
    · omega
    · have := ih h; omega
theorem dep_pos (p : Pd) : 1 ≤ depP p := by cases p; rw [depP]; omega
def askOk (h : Ph) : Bool :=
  nameB h.col && (if h.op = 2 then decide (1 ≤ h.cmp ∧ h.cmp ≤ 6) && mayC h.kind false h.val && decide (h = ⟨h.op, h.col, h.cmp, h.val, h.kind, []⟩)
    else if h.op = 4 then decide (h.pat.length ≤ 40) && decide (h = ⟨h.op, h.col, 0, zCl, 0, h.pat⟩)
    else decide (h = ⟨h.op, h.col, 0, zCl, 0, []⟩))
def bareH (h : Ph) : Bool := decide (h = ⟨h.op, [], 0, zCl, 0, []⟩)
def kidOp (op : Int) (ks : List Pd) : Bool := ks.any fun k => k.hd.op == op
def hdOk (h : Ph) (ks : List Pd) : Bool :=
  if h.op = 1 then decide (ks.length = 0) && bareH h
  else if h.op = 2 ∨ h.op = 3 ∨ h.op = 4 then decide (ks.length = 0) && askOk h
  else if h.op = 5 then decide (ks.length = 1) && bareH h
  else if h.op = 6 ∨ h.op = 7 then decide (1 < ks.length) && bareH h && !kidOp h.op ks
  else false
mutual
def oneP : Pd → Bool | .mk h ks => hdOk h ks && oneL ks
def oneL : List Pd → Bool | [] => true | k :: r => oneP k && oneL r
end
theorem oneL_all (l : List Pd) : oneL l = l.all oneP := by
  induction l with
  | nil => rfl
  | cons k r ih => rw [oneL, ih]; rfl
def mayP (p : Pd) : Bool := decide (cntP p ≤ 16 ∧ depP p ≤ 6) && oneP p
section
variable {σ : Type}
mutual
def allP (f : σ → Pd → Nat → Option σ) : Pd → σ → Nat → Option σ | .mk h ks, s, d => (f s (.mk h ks) d).bind fun s' => allL f ks s' (d + 1)
def allL (f : σ → Pd → Nat → Option σ) : List Pd → σ → Nat → Option σ | [], s, _ => some s | k :: r, s, d => (allP f k s d).bind fun s' => allL f r s' d
end
end
def stepM (n : Nat) (p : Pd) (d : Nat) : Option Nat := if n + 1 ≤ 16 ∧ d ≤ 6 ∧ hdOk p.hd p.kids = true then some (n + 1) else none
theorem allM (p : Pd) : ∀ n d, n ≤ 16 → d ≤ 7 → allP stepM p n d = if n + cntP p ≤ 16 ∧ d + depP p ≤ 7 ∧ oneP p = true then some (n + cntP p) else none := by
  induction p using Pd.ind with
  | h hd ks ih =>
    have hL : ∀ (l : List Pd), (∀ k ∈ l, k ∈ ks) → ∀ n d, n ≤ 16 → d ≤ 7 → allL stepM l n d = if n + cntL l ≤ 16 ∧ d + depL l ≤ 7 ∧ oneL l = true then some (n + cntL l) else none := by
      intro l
      induction l with
      | nil => intro _ n d hn hd; rw [allL, cntL, depL, oneL, if_pos ⟨by omega, by omega, rfl⟩]; rfl
      | cons k r ih2 =>
        intro hm n d hn hd
        rw [allL, ih k (hm k (List.mem_cons_self ..)) n d hn hd, cntL, depL, oneL]
        by_cases h1 : n + cntP k ≤ 16 ∧ d + depP k ≤ 7 ∧ oneP k = true
        · rw [if_pos h1, Option.bind_some, ih2 (fun x hx => hm x (List.mem_cons_of_mem _ hx)) _ d h1.1 hd, h1.2.2, Bool.true_and]
          by_cases h2 : n + cntP k + cntL r ≤ 16 ∧ d + depL r ≤ 7 ∧ oneL r = true
          · rw [if_pos h2, if_pos ⟨by omega, by omega, h2.2.2⟩, Nat.add_assoc]
          · rw [if_neg h2, if_neg (by rintro ⟨a, b, c⟩; exact h2 ⟨by omega, by omega, c⟩)]
        · rw [if_neg h1, Option.bind_none, if_neg]
          rintro ⟨a, b, c⟩
          rw [Bool.and_eq_true] at c
          exact h1 ⟨by omega, by omega, c.1⟩
    intro n d hn hd7
    rw [allP, cntP, depP, oneP]
    unfold stepM
    by_cases h1 : n + 1 ≤ 16 ∧ d ≤ 6 ∧ hdOk hd ks = true
    · rw [if_pos (show n + 1 ≤ 16 ∧ d ≤ 6 ∧ hdOk (Pd.mk hd ks).hd (Pd.mk hd ks).kids = true from h1), Option.bind_some]
      have e := hL ks (fun _ h => h) (n + 1) (d + 1) h1.1 (by omega)
      unfold stepM at e
      rw [e, h1.2.2, Bool.true_and]
      by_cases h2 : n + 1 + cntL ks ≤ 16 ∧ d + 1 + depL ks ≤ 7 ∧ oneL ks = true
      · rw [if_pos h2, if_pos ⟨by omega, by omega, h2.2.2⟩, Nat.add_assoc]
      · rw [if_neg h2, if_neg (by rintro ⟨a, b, c⟩; exact h2 ⟨by omega, by omega, c⟩)]
    · rw [if_neg (show ¬ (n + 1 ≤ 16 ∧ d ≤ 6 ∧ hdOk (Pd.mk hd ks).hd (Pd.mk hd ks).kids = true) from h1), Option.bind_none, if_neg]
      rintro ⟨a, b, c⟩
      rw [Bool.and_eq_true] at c
      exact h1 ⟨by omega, by omega, c.1⟩
theorem may_all (p : Pd) : (allP stepM p 0 1).isSome = mayP p := by
  rw [allM p 0 1 (by omega) (by omega)]
  unfold mayP
  by_cases h : cntP p ≤ 16 ∧ depP p ≤ 6
  · rw [decide_eq_true h, Bool.true_and]
    cases h2 : oneP p
    · rw [if_neg (by simp)]; rfl
    · rw [if_pos ⟨by omega, by omega, rfl⟩]; rfl
  · rw [decide_eq_false h, Bool.false_and, if_neg (by omega)]; rfl
mutual
def sizeP : Pd → Int → Nat → Int | .mk _ ks, m, d => if d < 1 ∨ m < 1 then 17 else sizeL ks m (d - 1) 1
def sizeL : List Pd → Int → Nat → Int → Int | [], _, _, n => n | k :: r, m, d, n => if 16 < n then n else sizeL r m d (n + sizeP k (m - n) d)
end
theorem sizeL_big (l : List Pd) (m : Int) (d : Nat) (n : Int) (h : 16 < n) : sizeL l m d n = n := by
  cases l with
  | nil => rw [sizeL]
  | cons k r => rw [sizeL, if_pos h]
theorem size_is (p : Pd) : ∀ (m : Int) (d : Nat), m ≤ 16 → ((cntP p : Int) ≤ m ∧ depP p ≤ d → sizeP p m d = cntP p) ∧ (¬ ((cntP p : Int) ≤ m ∧ depP p ≤ d) → 16 < sizeP p m d) ∧ 1 ≤ sizeP p m d ∧ sizeP p m d ≤ 17 + 17 * d := by
  induction p using Pd.ind with
  | h hd ks ih =>
    have hL : ∀ (l : List Pd), (∀ k ∈ l, k ∈ ks) → ∀ (m : Int) (d : Nat) (n : Int), 1 ≤ n → n ≤ m → m ≤ 16 → (n + (cntL l : Int) ≤ m ∧ depL l ≤ d → sizeL l m d n = n + cntL l) ∧ (¬ (n + (cntL l : Int) ≤ m ∧ depL l ≤ d) → 16 < sizeL l m d n) ∧ 1 ≤ sizeL l m d n ∧ sizeL l m d n ≤ 17 + 17 * (d + 1) := by
      intro l
      induction l with
      | nil => intro _ m d n h1 h2 h3; rw [sizeL, cntL, depL]; exact ⟨fun _ => by simp, fun h => absurd ⟨by simpa using h2, Nat.zero_le _⟩ h, h1, by omega⟩
      | cons k r ih2 =>
        intro hm m d n h1 h2 h3
        obtain ⟨k1, k2, k3, k4⟩ := ih k (hm k (List.mem_cons_self ..)) (m - n) d (by omega)
        rw [sizeL, if_neg (by omega), cntL, depL]
        by_cases hk : (cntP k : Int) ≤ m - n ∧ depP k ≤ d
        · have e := k1 hk
          obtain ⟨r1, r2, r3, r4⟩ := ih2 (fun x hx => hm x (List.mem_cons_of_mem _ hx)) m d (n + cntP k) (by omega) (by omega) h3
          rw [e]
          refine ⟨fun h => ?_, fun h => r2 ?_, r3, r4⟩
          · rw [r1 ⟨by omega, by omega⟩]; omega
          · rintro ⟨a, b⟩
            exact h ⟨by omega, by omega⟩
        · have hb := k2 hk
          rw [sizeL_big r m d _ (by omega)]
          refine ⟨fun h => absurd ⟨by omega, by omega⟩ hk, fun _ => by omega, by omega, by omega⟩
    intro m d hm
    rw [sizeP, cntP, depP]
    by_cases h : d < 1 ∨ m < 1
    · rw [if_pos h]
      refine ⟨fun ⟨a, b⟩ => by omega, fun _ => by omega, by omega, by omega⟩
    · rw [if_neg h]
      obtain ⟨r1, r2, r3, r4⟩ := hL ks (fun _ h => h) m (d - 1) 1 (by omega) (by omega) hm
      refine ⟨fun ⟨a, b⟩ => ?_, fun hn => r2 ?_, r3, by omega⟩
      · rw [r1 ⟨by omega, by omega⟩]; omega
      · rintro ⟨a, b⟩
        exact hn ⟨by omega, by omega⟩
theorem may_size (p : Pd) : (decide (sizeP p 16 6 ≤ 16) && oneP p) = mayP p := by
  obtain ⟨h1, h2, _, _⟩ := size_is p 16 6 (by omega)
  unfold mayP
  congr 1
  rw [decide_eq_decide]
  constructor
  · intro h
    exact Classical.byContradiction fun hn => by
      have := h2 (by rintro ⟨a, b⟩; exact hn ⟨by omega, b⟩)
      omega
  · rintro ⟨a, b⟩
    rw [h1 ⟨by omega, b⟩]; omega
def okT (cols : List Co) (h : Ph) : Bool :=
  if h.col = [] then true else match findC cols h.col with
  | none => false
  | some k => match cols[k]? with
    | none => true
    | some c => if h.op = 2 then c.ty == h.kind else if h.op = 4 then c.ty == 3 else true
mutual
def typP (cols : List Co) : Pd → Bool | .mk h ks => okT cols h && typL cols ks
def typL (cols : List Co) : List Pd → Bool | [] => true | k :: r => typP cols k && typL cols r
end
theorem typL_all (cols : List Co) (l : List Pd) : typL cols l = l.all (typP cols) := by
  induction l with
  | nil => rfl
  | cons k r ih => rw [typL, ih]; rfl
def stepT (cols : List Co) (_ : Unit) (p : Pd) (_ : Nat) : Option Unit := if okT cols p.hd = true then some () else none
theorem allT (cols : List Co) (p : Pd) : ∀ d, allP (stepT cols) p () d = if typP cols p = true then some () else none := by
  induction p using Pd.ind with
  | h hd ks ih =>
    have hL : ∀ (l : List Pd), (∀ k ∈ l, k ∈ ks) → ∀ d, allL (stepT cols) l () d = if typL cols l = true then some () else none := by
      intro l
      induction l with
      | nil => intro _ d; rw [allL, typL, if_pos rfl]
      | cons k r ih2 =>
        intro hm d
        rw [allL, ih k (hm k (List.mem_cons_self ..)) d, typL]
        cases h1 : typP cols k
        · simp
        · rw [if_pos rfl, Option.bind_some, ih2 (fun x hx => hm x (List.mem_cons_of_mem _ hx)) d]; simp
    intro d
    rw [allP, typP]
    have e := hL ks (fun _ h => h) (d + 1)
    unfold stepT at e ⊢
    show (if okT cols hd = true then some () else none).bind _ = _
    cases h1 : okT cols hd
    · simp
    · rw [if_pos rfl, Option.bind_some, e]; simp
def fitP (cols : List Co) (p : Pd) : Int := if mayP p = false ∨ ¬ chkC cols = 0 then 1 else if typP cols p = true then 0 else 10
end Go.Proofs.YtjcfjjhhbcgcmaaGreat

namespace Go.Proofs.YtjcfjjhhbcgcmaaGreat
def smU (r : Nat) : Nat := if 65 ≤ r ∧ r ≤ 90 then r + 32 else r
def foldU (l : List UInt8) : List Nat := (runesU l).map smU
theorem foldU_le (l : List UInt8) : (foldU l).length ≤ l.length := by unfold foldU; rw [List.length_map]; exact runesU_le l
def mtG : List Nat → List Nat → Bool
  | [], t => t.isEmpty
  | c :: p, t => if c = 37 then (List.range (t.length + 1)).any fun k => mtG p (t.drop k) else
    match t with
    | [] => false
    | x :: t' => (c == 95 || c == x) && mtG p t'
def matchU (p s : List UInt8) : Bool := mtG (foldU p) (foldU s)
theorem mtG_nil (t : List Nat) : mtG [] t = true ↔ t = [] := by simp [mtG]
theorem mtG_many (p t : List Nat) : mtG (37 :: p) t = true ↔ ∃ k, k ≤ t.length ∧ mtG p (t.drop k) = true := by
  simp only [mtG, if_true, List.any_eq_true, List.mem_range]
  constructor
  · rintro ⟨k, h1, h2⟩; exact ⟨k, by omega, h2⟩
  · rintro ⟨k, h1, h2⟩; exact ⟨k, by omega, h2⟩
theorem mtG_one {c : Nat} (p t : List Nat) (h : c ≠ 37) : mtG (c :: p) t = true ↔ ∃ x t', t = x :: t' ∧ (c = 95 ∨ c = x) ∧ mtG p t' = true := by
  simp only [mtG, if_neg h]
  cases t with
  | nil => simp
  | cons x t =>
    simp only [Bool.and_eq_true, Bool.or_eq_true, beq_iff_eq]
    constructor
    · rintro ⟨h1, h2⟩; exact ⟨x, t, rfl, h1, h2⟩
    · rintro ⟨y, u, h1, h2, h3⟩
      simp only [List.cons.injEq] at h1
      obtain ⟨rfl, rfl⟩ := h1
      exact ⟨h2, h3⟩
theorem mtG_app : ∀ (p q t : List Nat), mtG (p ++ q) t = true ↔ ∃ k, k ≤ t.length ∧ mtG p (t.take k) = true ∧ mtG q (t.drop k) = true
  | [], q, t => by
    constructor
    · intro h; exact ⟨0, by omega, by simp [mtG], h⟩
    · rintro ⟨k, h1, h2, h3⟩
      rw [mtG_nil] at h2
      have : k = 0 ∨ t = [] := by
        rcases List.take_eq_nil_iff.1 h2 with h | h
        · exact .inl h
        · exact .inr h
      rcases this with rfl | rfl
      · exact h3
      · simpa using h3
  | c :: p, q, t => by
    by_cases hc : c = 37
    · subst hc
      rw [List.cons_append, mtG_many]
      constructor
      · rintro ⟨k, h1, h2⟩
        obtain ⟨m, h3, h4, h5⟩ := (mtG_app p q _).1 h2
        rw [List.length_drop] at h3
        refine ⟨k + m, by omega, ?_, by rwa [List.drop_drop] at h5⟩
        rw [mtG_many]
        refine ⟨k, by rw [List.length_take]; omega, ?_⟩
        rw [List.drop_take, show k + m - k = m by omega]
        exact h4
      · rintro ⟨k, h1, h2, h3⟩
        rw [mtG_many] at h2
        obtain ⟨m, h4, h5⟩ := h2
        rw [List.length_take] at h4
        refine ⟨m, by omega, (mtG_app p q _).2 ⟨k - m, by rw [List.length_drop]; omega, ?_, ?_⟩⟩
        · rw [List.drop_take] at h5; exact h5
        · rw [List.drop_drop, show m + (k - m) = k by omega]; exact h3
    · rw [List.cons_append, mtG_one _ _ hc]
      constructor
      · rintro ⟨x, t', rfl, h1, h2⟩
        obtain ⟨k, h3, h4, h5⟩ := (mtG_app p q _).1 h2
        exact ⟨k + 1, by simp; omega, (mtG_one _ _ hc).2 ⟨x, t'.take k, rfl, h1, h4⟩, h5⟩
      · rintro ⟨k, h1, h2, h3⟩
        obtain ⟨x, t', h4, h5, h6⟩ := (mtG_one _ _ hc).1 h2
        cases t with
        | nil => simp at h4
        | cons y t =>
          cases k with
          | zero => simp at h4
          | succ k =>
            simp only [List.take_succ_cons, List.cons.injEq] at h4
            obtain ⟨rfl, rfl⟩ := h4
            simp only [List.length_cons] at h1
            exact ⟨_, t, rfl, h5, (mtG_app p q _).2 ⟨k, by omega, h6, h3⟩⟩
theorem mtG_all (t : List Nat) : mtG [37] t = true := (mtG_many _ _).2 ⟨t.length, Nat.le_refl _, by simp [mtG]⟩
theorem mtG_snoc_many (q t : List Nat) (k : Nat) (hk : k ≤ t.length) : mtG (q ++ [37]) (t.take k) = (mtG q (t.take k) || (decide (0 < k) && mtG (q ++ [37]) (t.take (k - 1)))) := by
  rw [Bool.eq_iff_iff]
  simp only [Bool.or_eq_true, Bool.and_eq_true, decide_eq_true_eq]
  rw [mtG_app, mtG_app]
  simp only [List.length_take, List.take_take, mtG_all, and_true]
  constructor
  · rintro ⟨m, h1, h2⟩
    by_cases h : m = k
    · left; subst h; simpa using h2
    · right
      refine ⟨by omega, m, by omega, ?_⟩
      rw [show min m (k - 1) = m by omega]
      rwa [show min m k = m by omega] at h2
  · rintro (h | ⟨h0, m, h1, h2⟩)
    · exact ⟨k, by omega, by simpa using h⟩
    · refine ⟨m, by omega, ?_⟩
      rw [show min m k = m by omega]
      rwa [show min m (k - 1) = m by omega] at h2
theorem mtG_single {c : Nat} (t : List Nat) (h : c ≠ 37) : mtG [c] t = true ↔ ∃ x, t = [x] ∧ (c = 95 ∨ c = x) := by
  rw [mtG_one _ _ h]
  constructor
  · rintro ⟨x, t', rfl, h1, h2⟩
    rw [mtG_nil] at h2
    exact ⟨x, by rw [h2], h1⟩
  · rintro ⟨x, rfl, h1⟩
    exact ⟨x, [], rfl, h1, rfl⟩
theorem mtG_snoc_one (q t : List Nat) (c k : Nat) (hc : c ≠ 37) (hk : k ≤ t.length) : mtG (q ++ [c]) (t.take k) = (decide (0 < k) && mtG q (t.take (k - 1)) && (c == 95 || c == t.getD (k - 1) 0)) := by
  rw [Bool.eq_iff_iff]
  simp only [Bool.or_eq_true, Bool.and_eq_true, decide_eq_true_eq, beq_iff_eq]
  rw [mtG_app]
  have hlen : (t.take k).length = k := by rw [List.length_take]; omega
  constructor
  · rintro ⟨m, h1, h2, h3⟩
    obtain ⟨x, h4, h5⟩ := (mtG_single _ hc).1 h3
    have h6 := congrArg List.length h4
    rw [List.length_drop, hlen] at h6
    simp only [List.length_cons, List.length_nil] at h6
    have hm : m = k - 1 := by omega
    subst hm
    have h7 : t.getD (k - 1) 0 = x := by
      have := congrArg (fun l => l[0]?) h4
      simp only [List.getElem?_drop, List.getElem?_cons_zero, Nat.add_zero] at this
      rw [List.getElem?_take_of_lt (by omega)] at this
      simp [List.getD_eq_getElem?_getD, this]
    rw [List.take_take, show min (k - 1) k = k - 1 by omega] at h2
    exact ⟨⟨by omega, h2⟩, by rw [h7]; exact h5⟩
  · rintro ⟨⟨h1, h2⟩, h3⟩
    refine ⟨k - 1, by omega, ?_, ?_⟩
    · rw [List.take_take, show min (k - 1) k = k - 1 by omega]; exact h2
    · refine (mtG_single _ hc).2 ⟨t.getD (k - 1) 0, ?_, h3⟩
      apply List.ext_getElem
      · rw [List.length_drop, hlen]; simp; omega
      · intro i hi1 hi2
        simp only [List.length_cons, List.length_nil] at hi2
        obtain rfl : i = 0 := by omega
        simp [List.getD_eq_getElem?_getD, show k - 1 < t.length by omega]
def canG (q t : List Nat) : List Bool := (List.range (t.length + 1)).map fun k => mtG q (t.take k)
theorem canG_len (q t : List Nat) : (canG q t).length = t.length + 1 := by simp [canG]
def canK (q t : List Nat) (k : Nat) : List Bool := (canG q t).take k ++ List.replicate (t.length + 1 - k) false
theorem canK_len (q t : List Nat) (k : Nat) (h : k ≤ t.length + 1) : (canK q t k).length = t.length + 1 := by
  unfold canK; rw [List.length_append, List.length_take, canG_len, List.length_replicate]; omega
theorem canK_zero (q t : List Nat) : canK q t 0 = List.replicate (t.length + 1) false := by simp [canK]
theorem canK_all (q t : List Nat) : canK q t (t.length + 1) = canG q t := by
  unfold canK; rw [List.take_of_length_le (by rw [canG_len]; omega)]; simp
theorem canK_at (q t : List Nat) (k j : Nat) (hj : j < k) (hk : k ≤ t.length + 1) : (canK q t k)[j]? = some (mtG q (t.take j)) := by
  unfold canK
  rw [List.getElem?_append_left (by rw [List.length_take, canG_len]; omega), List.getElem?_take_of_lt hj]
  simp [canG, show j < t.length + 1 by omega]
theorem canG_get (q t : List Nat) (k : Nat) (h : k ≤ t.length) : (canG q t)[k]? = some (mtG q (t.take k)) := by
  simp [canG, show k < t.length + 1 by omega]
theorem canK_set (q t : List Nat) (k : Nat) (b : Bool) (hk : k ≤ t.length) (hb : b = mtG q (t.take k)) : (canK q t k).set k b = canK q t (k + 1) := by
  subst hb
  apply List.ext_getElem?
  intro j
  have hl := canK_len q t k (by omega)
  rcases Nat.lt_trichotomy j k with h | h | h
  · rw [List.getElem?_set_ne (by omega), canK_at _ _ _ _ h (by omega), canK_at _ _ _ _ (by omega) (by omega)]
  · subst h
    rw [List.getElem?_set_self (by omega), canK_at _ _ _ _ (by omega) (by omega)]
  · rw [List.getElem?_set_ne (by omega)]
    unfold canK
    rw [List.getElem?_append_right (by rw [List.length_take, canG_len]; omega), List.getElem?_append_right (by rw [List.length_take, canG_len]; omega)]
    simp only [List.length_take, canG_len, List.getElem?_replicate]
    have e1 : (j - min k (t.length + 1) < t.length + 1 - k) ↔ (j - min (k + 1) (t.length + 1) < t.length + 1 - (k + 1)) := by omega
    simp only [e1]
theorem canG_nil (t : List Nat) : canG [] t = (List.replicate (t.length + 1) false).set 0 true := by
  apply List.ext_getElem?
  intro j
  by_cases h : j ≤ t.length
  · rw [canG_get _ _ _ h]
    cases j with
    | zero => simp [mtG]
    | succ j =>
      rw [List.getElem?_set_ne (by omega), List.getElem?_replicate, if_pos (by omega)]
      have : mtG [] (t.take (j + 1)) = false := by
        rw [Bool.eq_false_iff]
        intro e
        rw [mtG_nil] at e
        have h5 := congrArg List.length e
        rw [List.length_take, List.length_nil] at h5
        omega
      rw [this]
  · rw [List.getElem?_eq_none (by rw [canG_len]; omega), List.getElem?_eq_none (by simp; omega)]
theorem canG_last (q t : List Nat) : (canG q t)[t.length]? = some (mtG q t) := by
  rw [canG_get _ _ _ (Nat.le_refl _), List.take_length]
theorem take_snocG {l : List Nat} {i : Nat} (h : i < l.length) : l.take (i + 1) = l.take i ++ [l[i]] := by
  rw [List.take_add_one]; simp [h]
def stG (P T : List Nat) (at_ place : Nat) (back : Int) (taken : Nat) : Prop :=
  (back = -1 ∧ taken = 0 ∧ (mtG P T = true ↔ mtG (P.drop at_) (T.drop place) = true)) ∨
  ∃ b : Nat, back = b ∧ b ≤ at_ ∧ taken ≤ place ∧ place - taken = at_ - b ∧ (∀ j, b ≤ j → j < at_ → P[j]? ≠ some 37) ∧
    (mtG P T = true ↔ ∃ j, taken ≤ j ∧ j ≤ T.length ∧ mtG (P.drop b) (T.drop j) = true) ∧ (mtG (P.drop b) (T.drop taken) = true ↔ mtG (P.drop at_) (T.drop place) = true)
theorem seg_at {P : List Nat} {a b i : Nat} (h4 : ∀ j, b ≤ j → j < a → P[j]? ≠ some 37) (h1 : b ≤ b + i) (h2 : b + i < a) (hl : i < (P.drop b).length) : (P.drop b)[i] ≠ 37 := by
  rw [List.getElem_drop]
  intro e
  rw [List.length_drop] at hl
  exact h4 (b + i) h1 h2 (by rw [List.getElem?_eq_getElem (by omega), e])
theorem stG_start (P T : List Nat) : stG P T 0 0 (-1) 0 := .inl ⟨rfl, rfl, by simp⟩
theorem mtG_seg : ∀ (n : Nat) (p t : List Nat), n ≤ p.length → (∀ j, j < n → ∀ h : j < p.length, p[j] ≠ 37) → mtG p t = true → n ≤ t.length ∧ mtG (p.drop n) (t.drop n) = true
  | 0, p, t, _, _, h => ⟨by omega, h⟩
  | n + 1, [], t, hl, _, _ => by simp at hl
  | n + 1, c :: p, t, hl, hp, h => by
    have hc := hp 0 (by omega) (by simp)
    simp only [List.getElem_cons_zero] at hc
    obtain ⟨x, t', rfl, _, h2⟩ := (mtG_one _ _ hc).1 h
    simp only [List.length_cons] at hl
    obtain ⟨h3, h4⟩ := mtG_seg n p t' (by omega) (fun j hj hjl => by have := hp (j + 1) (by omega) (by simp; omega); simpa using this) h2
    exact ⟨by simp; omega, h4⟩
theorem dropG_at {l : List Nat} {i : Nat} (h : i < l.length) : l.drop i = l[i] :: l.drop (i + 1) := List.drop_eq_getElem_cons h
theorem stG_many {P T : List Nat} {a p k : Nat} {back : Int} (h : stG P T a p back k) (ha : a < P.length) (hp : p ≤ T.length) (hc : P[a] = 37) : stG P T (a + 1) p ((a + 1 : Nat) : Int) p := by
  right
  refine ⟨a + 1, rfl, Nat.le_refl _, Nat.le_refl _, by omega, fun j h1 h2 => by omega, ?_, Iff.rfl⟩
  have key : mtG (P.drop a) (T.drop p) = true ↔ ∃ j, p ≤ j ∧ j ≤ T.length ∧ mtG (P.drop (a + 1)) (T.drop j) = true := by
    rw [dropG_at ha, hc, mtG_many]
    constructor
    · rintro ⟨m, h1, h2⟩
      rw [List.length_drop] at h1
      rw [List.drop_drop] at h2
      exact ⟨p + m, by omega, by omega, h2⟩
    · rintro ⟨j, h1, h2, h3⟩
      exact ⟨j - p, by rw [List.length_drop]; omega, by rw [List.drop_drop, show p + (j - p) = j by omega]; exact h3⟩
  rcases h with ⟨_, _, h⟩ | ⟨b, _, h1, h2, h3, h4, h5, h6⟩
  · rw [h, key]
  · rw [h5]
    constructor
    · rintro ⟨j, h7, h8, h9⟩
      by_cases e : j = k
      · subst e; exact key.1 (h6.1 h9)
      · obtain ⟨g1, g2⟩ := mtG_seg (a - b) (P.drop b) (T.drop j) (by rw [List.length_drop]; omega) (fun i hi hl => by
          exact seg_at h4 (by omega) (by omega) hl) h9
        rw [List.length_drop] at g1
        rw [List.drop_drop, List.drop_drop, Nat.add_sub_cancel' h1] at g2
        rw [dropG_at ha, hc, mtG_many] at g2
        obtain ⟨m, g3, g4⟩ := g2
        rw [List.length_drop] at g3
        rw [List.drop_drop] at g4
        exact ⟨j + (a - b) + m, by omega, by omega, g4⟩
    · intro h7
      exact ⟨k, Nat.le_refl _, by omega, h6.2 (key.2 h7)⟩
theorem stG_one {P T : List Nat} {a p k : Nat} {back : Int} (h : stG P T a p back k) (ha : a < P.length) (hp : p < T.length) (hc : P[a] ≠ 37) (hm : P[a] = 95 ∨ P[a] = T[p]) : stG P T (a + 1) (p + 1) back k := by
  have key : mtG (P.drop a) (T.drop p) = true ↔ mtG (P.drop (a + 1)) (T.drop (p + 1)) = true := by
    rw [dropG_at ha, dropG_at hp, mtG_one _ _ hc]
    constructor
    · rintro ⟨x, t', h1, h2, h3⟩
      simp only [List.cons.injEq] at h1
      obtain ⟨_, rfl⟩ := h1
      exact h3
    · intro h3
      exact ⟨_, _, rfl, hm, h3⟩
  rcases h with ⟨h0, h1, h⟩ | ⟨b, h0, h1, h2, h3, h4, h5, h6⟩
  · exact .inl ⟨h0, h1, h.trans key⟩
  · have e1 : p + 1 - k = a + 1 - b := by clear h5 h6 key; omega
    refine .inr ⟨b, h0, Nat.le_succ_of_le h1, Nat.le_succ_of_le h2, e1, fun j h7 h8 => ?_, h5, h6.trans key⟩
    by_cases e : j = a
    · subst e; rw [List.getElem?_eq_getElem ha]; exact fun h => hc (Option.some.inj h)
    · exact h4 j h7 (by omega)
theorem mtG_stop {P T : List Nat} {a p : Nat} (hp : p < T.length) (hno : ∀ h : a < P.length, P[a] ≠ 37 ∧ P[a] ≠ 95 ∧ P[a] ≠ T[p]) : mtG (P.drop a) (T.drop p) = false := by
  rw [Bool.eq_false_iff]
  intro e
  by_cases ha : a < P.length
  · obtain ⟨n1, n2, n3⟩ := hno ha
    rw [dropG_at ha, dropG_at hp, mtG_one _ _ n1] at e
    obtain ⟨x, t', h1, h2, _⟩ := e
    simp only [List.cons.injEq] at h1
    obtain ⟨rfl, _⟩ := h1
    rcases h2 with h2 | h2
    · exact n2 h2
    · exact n3 h2
  · rw [List.drop_eq_nil_of_le (by omega), mtG_nil] at e
    have := congrArg List.length e
    rw [List.length_drop] at this
    simp at this
    omega
theorem stG_back {P T : List Nat} {a p k b : Nat} (h : stG P T a p (b : Int) k) (hp : p < T.length) (hno : mtG (P.drop a) (T.drop p) = false) : stG P T b (k + 1) (b : Int) (k + 1) ∧ b ≤ a ∧ k ≤ p := by
  rcases h with ⟨h0, _, _⟩ | ⟨b', h0, h1, h2, h3, h4, h5, h6⟩
  · omega
  · obtain rfl : b = b' := by omega
    refine ⟨.inr ⟨b, rfl, Nat.le_refl _, Nat.le_refl _, by omega, fun j h7 h8 => by omega, ?_, Iff.rfl⟩, h1, h2⟩
    rw [h5]
    constructor
    · rintro ⟨j, h7, h8, h9⟩
      by_cases e : j = k
      · subst e
        rw [h6, hno] at h9
        cases h9
      · exact ⟨j, by omega, h8, h9⟩
    · rintro ⟨j, h7, h8, h9⟩
      exact ⟨j, by omega, h8, h9⟩
theorem stG_no {P T : List Nat} {a p k : Nat} {back : Int} (h : stG P T a p back k) (hb : back < 0) (hno : mtG (P.drop a) (T.drop p) = false) : mtG P T = false := by
  rcases h with ⟨_, _, h⟩ | ⟨b, h0, _⟩
  · rw [Bool.eq_false_iff]; intro e; rw [h, hno] at e; cases e
  · omega
theorem stG_end {P T : List Nat} {a k : Nat} {back : Int} (h : stG P T a T.length back k) (ha : a ≤ P.length) : mtG P T = mtG (P.drop a) [] := by
  have e0 : T.drop T.length = [] := by simp
  rcases h with ⟨_, _, h⟩ | ⟨b, h0, h1, h2, h3, h4, h5, h6⟩
  · rw [e0] at h
    rw [Bool.eq_iff_iff]; exact h
  · rw [e0] at h6
    rw [Bool.eq_iff_iff, h5]
    constructor
    · rintro ⟨j, h7, h8, h9⟩
      obtain ⟨g1, g2⟩ := mtG_seg (a - b) (P.drop b) (T.drop j) (by rw [List.length_drop]; omega) (fun i hi hl => by
        exact seg_at h4 (by omega) (by omega) hl) h9
      rw [List.length_drop] at g1
      obtain rfl : j = k := by omega
      exact h6.1 h9
    · intro h7
      exact ⟨k, Nat.le_refl _, h2, h6.2 h7⟩
theorem mtG_empty : ∀ p : List Nat, mtG p [] = p.all (fun c => c == 37)
  | [] => rfl
  | c :: p => by
    by_cases hc : c = 37
    · subst hc
      rw [List.all_cons, ← mtG_empty p]
      rw [Bool.eq_iff_iff, mtG_many]
      simp
    · simp [mtG, hc]
end Go.Proofs.YtjcfjjhhbcgcmaaGreat

namespace Go.Proofs.YtjcfjjhhbcgcmaaGreat
open Go.RowKit
mutual
def numP : Pd → Prop | .mk h ks => I64b h.val.num ∧ numL ks
def numL : List Pd → Prop | [] => True | k :: r => numP k ∧ numL r
end
theorem numL_all (l : List Pd) : numL l ↔ ∀ p ∈ l, numP p := by
  induction l with
  | nil => simp [numL]
  | cons k r ih => rw [numL, ih]; simp
end Go.Proofs.YtjcfjjhhbcgcmaaGreat

namespace Go.Proofs.YtjcfjjhhbcgcmaaGreat
open Go.RowKit
structure Ag where
  op : Int
  col : List UInt8
  deriving DecidableEq
structure Qy where
  tab : Tx
  cols : List Tx
  whr : Pd
  aggs : List Ag
  by_ : Tx
def agB (a : Ag) : Bool := if a.op = 1 then decide (a.col = []) else decide (2 ≤ a.op ∧ a.op ≤ 5) && nameB a.col
theorem ag_is {a : Ag} (h : agB a = true) : (a.op = 1 ∧ a.col = []) ∨ (¬ a.op = 1 ∧ 2 ≤ a.op ∧ a.op ≤ 5 ∧ nameB a.col = true) := by
  unfold agB at h
  split at h
  · rename_i h1
    exact .inl ⟨h1, of_decide_eq_true h⟩
  · rename_i h1
    rw [Bool.and_eq_true, decide_eq_true_eq] at h
    exact .inr ⟨h1, h.1.1, h.1.2, h.2⟩
def unlB (l : List Tx) : Bool := l.all nameB && decide l.Nodup
def plainQ (q : Qy) : Bool := decide (q.aggs.length = 0) && (decide (q.by_ = []) && (decide (q.cols.length ≤ 6) && unlB q.cols))
def foldQ (q : Qy) : Bool := decide (0 < q.aggs.length) && (decide (q.aggs.length ≤ 4) && (q.aggs.all agB && (decide (q.cols.length = 0) && (decide (q.by_ = []) || nameB q.by_))))
def mayQ (q : Qy) : Bool := nameB q.tab && (mayP q.whr && (plainQ q || foldQ q))
def mayD (q : Qy) : Bool := decide (q.cols.length ≤ 6 ∧ q.aggs.length ≤ 4) && (unlB q.cols && (if q.aggs.length = 0 then decide (q.by_ = []) else q.aggs.all agB && (decide (q.cols.length = 0) && (decide (q.by_ = []) || nameB q.by_))))
theorem unl_nil {l : List Tx} (h : l.length = 0) : unlB l = true := by
  obtain rfl := List.eq_nil_of_length_eq_zero h
  rfl
theorem may_doc (q : Qy) : mayQ q = (nameB q.tab && (mayP q.whr && mayD q)) := by
  unfold mayQ
  congr 2
  unfold plainQ foldQ mayD
  by_cases h0 : q.aggs.length = 0
  · rw [if_pos h0, h0]
    simp only [Nat.lt_irrefl, decide_false, Bool.false_and, Bool.or_false, decide_true, Bool.true_and, Nat.zero_le, and_true]
    cases decide (q.by_ = []) <;> simp
  · rw [if_neg h0, decide_eq_false h0, decide_eq_true (show 0 < q.aggs.length by omega), Bool.false_and, Bool.false_or, Bool.true_and]
    by_cases hc : q.cols.length = 0
    · rw [unl_nil hc, hc]
      by_cases h4 : q.aggs.length ≤ 4 <;> simp [h4]
    · rw [decide_eq_false hc]
      simp
def hasC (cols : List Co) (n : Tx) : Bool := (findC cols n).isSome
def sumN (cols : List Co) (a : Ag) : Bool := decide (a.op = 3) && (match cols[(findC cols a.col).getD 0]? with | some c => decide (c.ty ≠ 1) | none => false)
def allQ (q : Qy) : Bool := decide (q.cols.length = 0) && decide (q.aggs.length = 0)
def agN (l : List Ag) : List Tx := (l.filter fun a => decide (a.op ≠ 1)).map Ag.col
def byN (b : Tx) : List Tx := if b = [] then [] else [b]
def namedQ (cols : List Co) (q : Qy) : List Tx := if allQ q = true then namesC cols else q.cols ++ agN q.aggs ++ byN q.by_
def suitQ (cols : List Co) (q : Qy) : Bool := (namedQ cols q).all (hasC cols) && !(q.aggs.any (sumN cols))
def fitQ (cols : List Co) (q : Qy) : Int := if mayQ q = false ∨ ¬ chkC cols = 0 then 1 else if typP cols q.whr = true ∧ suitQ cols q = true then 0 else 10
def agT (cols : List Co) (a : Ag) : Bool := decide (a.op = 1) || (match findC cols a.col with | some k => !decide (a.op = 3) || (match cols[k]? with | some c => decide (c.ty = 1) | none => false) | none => false)
def suitD (cols : List Co) (q : Qy) : Bool := (decide (q.by_ = []) || hasC cols q.by_) && (q.cols.all (hasC cols) && q.aggs.all (agT cols))
theorem agT_is (cols : List Co) (a : Ag) : agT cols a = ((decide (a.op = 1) || hasC cols a.col) && !sumN cols a) := by
  unfold agT hasC sumN
  by_cases h1 : a.op = 1
  · simp [h1]
  · cases hf : findC cols a.col with
    | none => simp [h1]
    | some k =>
      have hk := find_lt hf
      simp only [h1, decide_false, Bool.false_or, Option.isSome_some, Bool.true_and, Option.getD_some]
      rw [List.getElem?_eq_getElem hk]
      simp
theorem hasC_own {cols : List Co} {n : Tx} (h : n ∈ namesC cols) : hasC cols n = true := by
  unfold hasC
  cases hf : findC cols n with
  | some k => rfl
  | none =>
    unfold findC at hf
    rw [List.findIdx?_eq_none_iff] at hf
    unfold namesC at h
    obtain ⟨c, hc, rfl⟩ := List.mem_map.1 h
    have := hf c hc
    simp at this
theorem suit_doc (cols : List Co) (q : Qy) (h : mayQ q = true) : suitQ cols q = suitD cols q := by
  unfold suitQ suitD
  rw [Bool.eq_iff_iff]
  simp only [Bool.and_eq_true, Bool.or_eq_true, Bool.not_eq_true', List.all_eq_true, List.any_eq_false, agT_is, decide_eq_true_eq]
  by_cases ha : allQ q = true
  · have e : namedQ cols q = namesC cols := if_pos ha
    unfold allQ at ha
    rw [Bool.and_eq_true, decide_eq_true_eq, decide_eq_true_eq] at ha
    have e1 := List.eq_nil_of_length_eq_zero ha.1
    have e2 := List.eq_nil_of_length_eq_zero ha.2
    have hb : q.by_ = [] := by
      unfold mayQ plainQ foldQ at h
      simp [e1, e2] at h
      exact h.2.2.1
    rw [e, e1, e2, hb]
    simp
    exact fun x hx => hasC_own hx
  · have e : namedQ cols q = q.cols ++ agN q.aggs ++ byN q.by_ := if_neg ha
    rw [e]
    simp only [List.mem_append]
    constructor
    · rintro ⟨h1, h2⟩
      refine ⟨?_, fun x hx => h1 x (.inl (.inl hx)), fun x hx => ⟨?_, by simpa using h2 x hx⟩⟩
      · by_cases hb : q.by_ = []
        · exact .inl hb
        · exact .inr (h1 _ (.inr (by unfold byN; rw [if_neg hb]; simp)))
      · by_cases hx1 : x.op = 1
        · exact .inl hx1
        · exact .inr (h1 _ (.inl (.inr (by unfold agN; exact List.mem_map.2 ⟨x, List.mem_filter.2 ⟨hx, by simpa using hx1⟩, rfl⟩))))
    · rintro ⟨h1, h2, h3⟩
      refine ⟨?_, fun x hx => by simpa using (h3 x hx).2⟩
      rintro x ((hx | hx) | hx)
      · exact h2 x hx
      · unfold agN at hx
        obtain ⟨a, ha, rfl⟩ := List.mem_map.1 hx
        obtain ⟨ha, hb⟩ := List.mem_filter.1 ha
        rcases (h3 a ha).1 with h4 | h4
        · simp [h4] at hb
        · exact h4
      · unfold byN at hx
        split at hx
        · cases hx
        · rename_i hb
          obtain rfl := List.mem_singleton.1 hx
          rcases h1 with h1 | h1
          · exact absurd h1 hb
          · exact h1
theorem may_parts {q : Qy} (h : mayQ q = true) : nameB q.tab = true ∧ mayP q.whr = true := by
  unfold mayQ at h
  simp only [Bool.and_eq_true] at h
  exact ⟨h.1, h.2.1⟩
structure SmQ (q : Qy) : Prop where
  cols : q.cols.length ≤ 15
  names : ∀ x ∈ q.cols, x.length ≤ 100
  aggs : q.aggs.length ≤ 15
  acol : ∀ a ∈ q.aggs, a.col.length ≤ 100
  tab : q.tab.length ≤ 100
  by_ : q.by_.length ≤ 100
  lens : lenP q.whr = true
  deep : depP q.whr ≤ 9
end Go.Proofs.YtjcfjjhhbcgcmaaGreat

namespace Go.Proofs.YtjcfjjhhbcgcmaaGreat
open Go.RowKit
def bigH (h : Ph) (n : Nat) : Bool := decide (n ≤ 1000 ∧ h.col.length ≤ 1000 ∧ h.pat.length ≤ 1000 ∧ h.val.txt.length ≤ 1000)
mutual
def bigP : Pd → Bool | .mk h ks => bigH h ks.length && bigL ks
def bigL : List Pd → Bool | [] => true | k :: r => bigP k && bigL r
end
theorem bigL_all (l : List Pd) : bigL l = l.all bigP := by
  induction l with
  | nil => rfl
  | cons k r ih => rw [bigL, ih]; rfl
theorem bigP_is (h : Ph) (ks : List Pd) : bigP (.mk h ks) = (bigH h ks.length && ks.all bigP) := by rw [bigP, bigL_all]
theorem bigP_mk {h : Ph} {ks : List Pd} (e : bigP (.mk h ks) = true) : ks.length ≤ 1000 ∧ h.col.length ≤ 1000 ∧ h.pat.length ≤ 1000 ∧ h.val.txt.length ≤ 1000 ∧ ∀ k ∈ ks, bigP k = true := by
  rw [bigP, Bool.and_eq_true, bigL_all] at e
  unfold bigH at e
  have e1 := of_decide_eq_true e.1
  exact ⟨e1.1, e1.2.1, e1.2.2.1, e1.2.2.2, List.all_eq_true.1 e.2⟩
theorem big_of_len (p : Pd) : lenP p = true → bigP p = true := by
  induction p using Pd.ind with
  | h hd ks ih =>
    intro e
    rw [lenP, Bool.and_eq_true, lenL_all] at e
    have e1 := of_decide_eq_true e.1
    rw [bigP_is, Bool.and_eq_true, List.all_eq_true]
    exact ⟨decide_eq_true (by omega), fun k hk => ih k hk (List.all_eq_true.1 e.2 k hk)⟩
structure BgQ (q : Qy) : Prop where
  cols : q.cols.length ≤ 1000
  names : ∀ x ∈ q.cols, x.length ≤ 1000
  aggs : q.aggs.length ≤ 1000
  acol : ∀ a ∈ q.aggs, a.col.length ≤ 1000
  tab : q.tab.length ≤ 1000
  by_ : q.by_.length ≤ 1000
  lens : bigP q.whr = true
  deep : depP q.whr ≤ 100
theorem SmQ.big {q : Qy} (h : SmQ q) : BgQ q :=
  ⟨by have := h.cols; omega, fun x hx => by have := h.names x hx; omega, by have := h.aggs; omega, fun x hx => by have := h.acol x hx; omega, by have := h.tab; omega, by have := h.by_; omega, big_of_len _ h.lens, by have := h.deep; omega⟩
end Go.Proofs.YtjcfjjhhbcgcmaaGreat

namespace Go.Proofs.YtjcfjjhhbcgcmaaGreat
open Go.RowKit
theorem as_int_int (W : World) (v : Value) : (Instr.typeAssert (.iface 2 v) 20 2 true).run Tryz.prog W = .ok (.tuple #[v, .bool true]) W := by kernel_rfl
theorem as_bool_int (W : World) (v : Value) : (Instr.typeAssert (.iface 4 v) 20 2 true).run Tryz.prog W = .ok (.tuple #[.int .i64 0, .bool false]) W := by kernel_rfl
theorem as_str_int (W : World) (v : Value) : (Instr.typeAssert (.iface 9 v) 20 2 true).run Tryz.prog W = .ok (.tuple #[.int .i64 0, .bool false]) W := by kernel_rfl
theorem as_bool_bool (W : World) (v : Value) : (Instr.typeAssert (.iface 4 v) 20 4 true).run Tryz.prog W = .ok (.tuple #[v, .bool true]) W := by kernel_rfl
theorem as_str_bool (W : World) (v : Value) : (Instr.typeAssert (.iface 9 v) 20 4 true).run Tryz.prog W = .ok (.tuple #[.bool false, .bool false]) W := by kernel_rfl
theorem as_str_str (W : World) (v : Value) : (Instr.typeAssert (.iface 9 v) 20 9 true).run Tryz.prog W = .ok (.tuple #[v, .bool true]) W := by kernel_rfl
theorem is_int (W : World) (v : Value) : (Instr.typeAssert (.iface 2 v) 20 2 false).run Tryz.prog W = .ok v W := by kernel_rfl
theorem is_bool (W : World) (v : Value) : (Instr.typeAssert (.iface 4 v) 20 4 false).run Tryz.prog W = .ok v W := by kernel_rfl
theorem is_str (W : World) (v : Value) : (Instr.typeAssert (.iface 9 v) 20 9 false).run Tryz.prog W = .ok v W := by kernel_rfl
theorem not_nil (W : World) (u : TypeId) (v : Value) : (binOp .eql 20 (.iface u v) .nilIface).run Tryz.prog W = .ok (.bool false) W := by kernel_rfl
theorem nil_nil (W : World) : (binOp .eql 20 .nilIface .nilIface).run Tryz.prog W = .ok (.bool true) W := by kernel_rfl
inductive An where
  | nil
  | int (i : Int)
  | bool (b : Bool)
  | text (t : List UInt8)
def anV : An → Value
  | .nil => .nilIface
  | .int i => .iface 2 (.int .i64 i)
  | .bool b => .iface 4 (.bool b)
  | .text t => .iface 9 (.string ⟨t.toArray⟩)
def bitI (b : Bool) : Int := if b then 1 else 0
def toA (ty : Int) (c : Cl) : An := if c.null then .nil else if ty = 1 then .int c.num else if ty = 2 then .bool (c.num != 0) else if ty = 3 then .text c.txt else .nil
set_option maxHeartbeats 1000000 in
theorem ato_any (ty : Int) (c : Cl) (w : World) : Calls Tryz.prog 94 #[.int .i64 ty, clV c] w fun e w' => e = .returned (anV (toA ty c)) ∧ Fr Non w w' := by
  obtain ⟨n, i, t⟩ := c
  unfold clV clC
  cases n
  · by_cases h1 : ty = 1
    · subst h1
      go_enter Tryz.func94, Tryz.ntmps94
      go_wp2
      go_ret
      exact ⟨rfl, (Fr.refl _ _).alloc _⟩
    · by_cases h2 : ty = 2
      · subst h2
        generalize hb : (i != 0) = b
        have HA : Hid (toA 2 ⟨false, i, t⟩ = .bool b) := Lib.hid (by rw [← hb]; rfl)
        go_enter Tryz.func94, Tryz.ntmps94
        go_wp2
        go_ret
        exact ⟨by rw [HA.out]; rfl, (Fr.refl _ _).alloc _⟩
      · by_cases h3 : ty = 3
        · subst h3
          go_enter Tryz.func94, Tryz.ntmps94
          go_wp2
          go_ret
          exact ⟨rfl, (Fr.refl _ _).alloc _⟩
        · have HA : Hid (toA ty ⟨false, i, t⟩ = .nil) := Lib.hid (by simp [toA, h1, h2, h3])
          go_enter Tryz.func94, Tryz.ntmps94
          go_wp2
          go_ret
          exact ⟨by rw [HA.out]; rfl, (Fr.refl _ _).alloc _⟩
  · go_enter Tryz.func94, Tryz.ntmps94
    go_wp2
    go_ret
    exact ⟨rfl, (Fr.refl _ _).alloc _⟩
end Go.Proofs.YtjcfjjhhbcgcmaaGreat

namespace Go.Proofs.YtjcfjjhhbcgcmaaGreat
open Go.RowKit
def agrI (op n : Int) : Bool := if op = 1 then n == 0 else if op = 2 then n != 0 else if op = 3 then decide (n < 0) else if op = 4 then decide (n ≤ 0) else if op = 5 then decide (0 < n) else decide (0 ≤ n)
def yesI (b : Bool) : Int := if b then 1 else 0
def notI (t : Int) : Int := if t = 1 then 0 else if t = 0 then 1 else 2
def chnI (s k : Int) (l : List Int) : Int := if s ∈ l then s else if (2 : Int) ∈ l then 2 else k
def cellN (cols : List Co) (row : List Cl) (n : Tx) : Cl := match findC cols n with | some k => row.getD k zCl | none => zCl
def cmpR (op : Int) (c v : Cl) : Int := if c.null then 2 else yesI (agrI op (ordC c v))
def likR (c : Cl) (p : Tx) : Int := if c.null then 2 else yesI (matchU p c.txt)
def truH (cols : List Co) (row : List Cl) (h : Ph) (ts : List Int) : Int :=
  if h.op = 2 then cmpR h.cmp (cellN cols row h.col) h.val
  else if h.op = 3 then yesI (cellN cols row h.col).null
  else if h.op = 4 then likR (cellN cols row h.col) h.pat
  else if h.op = 5 then notI (ts.headD 0)
  else if h.op = 6 then chnI 0 1 ts
  else if h.op = 7 then chnI 1 0 ts
  else 1
mutual
def truP (cols : List Co) (row : List Cl) : Pd → Int | .mk h ks => truH cols row h (truL cols row ks)
def truL (cols : List Co) (row : List Cl) : List Pd → List Int | [] => [] | k :: r => truP cols row k :: truL cols row r
end
theorem truL_map (cols : List Co) (row : List Cl) (l : List Pd) : truL cols row l = l.map (truP cols row) := by
  induction l with
  | nil => rfl
  | cons k r ih => rw [truL, ih]; rfl
theorem tru_is (cols : List Co) (row : List Cl) (h : Ph) (ks : List Pd) : truP cols row (.mk h ks) = truH cols row h (ks.map (truP cols row)) := by rw [truP, truL_map]
def Tru (t : Int) : Prop := t = 0 ∨ t = 1 ∨ t = 2
theorem tru_yes (b : Bool) : Tru (yesI b) := by cases b <;> simp [yesI, Tru]
theorem tru_not (t : Int) : Tru (notI t) := by unfold notI Tru; split <;> (try split) <;> simp
theorem tru_chn {s k : Int} (hs : Tru s) (hk : Tru k) (l : List Int) : Tru (chnI s k l) := by
  unfold chnI; split
  · exact hs
  · split
    · exact .inr (.inr rfl)
    · exact hk
theorem tru_cmp (op : Int) (c v : Cl) : Tru (cmpR op c v) := by
  unfold cmpR; split
  · exact .inr (.inr rfl)
  · exact tru_yes _
theorem tru_lik (c : Cl) (p : Tx) : Tru (likR c p) := by
  unfold likR; split
  · exact .inr (.inr rfl)
  · exact tru_yes _
theorem tru_head (cols : List Co) (row : List Cl) (h : Ph) (ts : List Int) : Tru (truH cols row h ts) := by
  unfold truH
  split
  · exact tru_cmp ..
  split
  · exact tru_yes _
  split
  · exact tru_lik ..
  split
  · exact tru_not _
  split
  · exact tru_chn (.inl rfl) (.inr (.inl rfl)) _
  split
  · exact tru_chn (.inr (.inl rfl)) (.inl rfl) _
  · exact .inr (.inl rfl)
theorem tru_one (cols : List Co) (row : List Cl) (p : Pd) : Tru (truP cols row p) := by obtain ⟨h, ks⟩ := p; rw [truP]; exact tru_head ..
theorem not_sub {t : Int} (h : Tru t) (h2 : t ≠ 2) : 1 - t = notI t := by rcases h with rfl | rfl | rfl <;> simp_all [notI]
theorem chn_at {s k : Int} {l : List Int} {j : Nat} (h : j < l.length) (e : l[j] = s) : chnI s k l = s := by
  unfold chnI; rw [if_pos (by rw [← e]; exact List.getElem_mem h)]
def ChnTo (s k : Int) (l : List Int) (j : Nat) (is : Int) : Prop := s ∉ l.take j ∧ is = if (2 : Int) ∈ l.take j then 2 else k
theorem chn_start (s k : Int) (l : List Int) : ChnTo s k l 0 k := ⟨by simp, by simp⟩
theorem take_mem {l : List Int} {j : Nat} (h : j < l.length) (x : Int) : x ∈ l.take (j + 1) ↔ x ∈ l.take j ∨ x = l[j] := by
  rw [List.take_add_one, List.getElem?_eq_getElem h, List.mem_append]; simp
theorem chn_more {s k : Int} {l : List Int} {j : Nat} {is : Int} (h : ChnTo s k l j is) (hj : j < l.length) (h1 : l[j] ≠ s) : ChnTo s k l (j + 1) (if l[j] = 2 then 2 else is) := by
  refine ⟨fun e => ?_, ?_⟩
  · rcases (take_mem hj s).1 e with e | e
    · exact h.1 e
    · exact h1 e.symm
  · rw [h.2]
    by_cases h2 : l[j] = 2
    · rw [if_pos h2, if_pos ((take_mem hj 2).2 (.inr h2.symm))]
    · rw [if_neg h2]
      by_cases h3 : (2 : Int) ∈ l.take j
      · rw [if_pos h3, if_pos ((take_mem hj 2).2 (.inl h3))]
      · rw [if_neg h3, if_neg]
        intro e
        rcases (take_mem hj 2).1 e with e | e
        · exact h3 e
        · exact h2 e.symm
theorem chn_end {s k : Int} {l : List Int} {j : Nat} {is : Int} (h : ChnTo s k l j is) (hj : l.length ≤ j) : chnI s k l = is := by
  obtain ⟨h1, h2⟩ := h
  rw [List.take_of_length_le hj] at h1 h2
  unfold chnI
  rw [if_neg h1, h2]
def HasTo (l : List Int) (j : Nat) (n m y : Bool) : Prop := n = decide ((0 : Int) ∈ l.take j) ∧ m = decide ((2 : Int) ∈ l.take j) ∧ y = decide ((1 : Int) ∈ l.take j)
theorem has_start (l : List Int) : HasTo l 0 false false false := ⟨by simp, by simp, by simp⟩
theorem has_more {l : List Int} {j : Nat} {n m y : Bool} (h : HasTo l j n m y) (hj : j < l.length) : HasTo l (j + 1) (n || l[j] == 0) (m || l[j] == 2) (y || l[j] == 1) := by
  have e : ∀ x : Int, (decide (x ∈ l.take j) || l[j] == x) = decide (x ∈ l.take (j + 1)) := fun x => by
    rw [Bool.eq_iff_iff]
    simp only [Bool.or_eq_true, decide_eq_true_eq, beq_iff_eq, take_mem hj x]
    constructor <;> (rintro (h | h)) <;> first | exact .inl h | exact .inr h.symm
  obtain ⟨rfl, rfl, rfl⟩ := h
  exact ⟨e 0, e 2, e 1⟩
theorem has_end {l : List Int} {j : Nat} {n m y : Bool} (h : HasTo l j n m y) (hj : l.length ≤ j) : chnI 0 1 l = (if n then 0 else if m then 2 else 1) ∧ chnI 1 0 l = (if y then 1 else if m then 2 else 0) := by
  obtain ⟨rfl, rfl, rfl⟩ := h
  rw [List.take_of_length_le hj]
  unfold chnI
  simp only [decide_eq_true_eq]
  exact ⟨trivial, trivial⟩
theorem row_at {cols : List Co} {row : List Cl} (h : rowB cols row = true) : cols.length = row.length ∧ ∀ j (h : j < cols.length) (h2 : j < row.length), mayC cols[j].ty cols[j].nl row[j] = true := of_decide_eq_true h
theorem hd_ways {h : Ph} {ks : List Pd} (e : hdOk h ks = true) :
    (h.op = 1 ∧ ks.length = 0 ∧ h.col = []) ∨ ((h.op = 2 ∨ h.op = 3 ∨ h.op = 4) ∧ ks.length = 0 ∧ askOk h = true) ∨ (h.op = 5 ∧ ks.length = 1 ∧ h.col = []) ∨ ((h.op = 6 ∨ h.op = 7) ∧ 1 < ks.length ∧ h.col = []) := by
  have bare : bareH h = true → h.col = [] := fun hb => by
    have := of_decide_eq_true hb
    rw [this]
  unfold hdOk at e
  split at e
  · rename_i h1
    rw [Bool.and_eq_true, decide_eq_true_eq] at e
    exact .inl ⟨h1, e.1, bare e.2⟩
  split at e
  · rename_i h1
    rw [Bool.and_eq_true, decide_eq_true_eq] at e
    exact .inr (.inl ⟨h1, e.1, e.2⟩)
  split at e
  · rename_i h1
    rw [Bool.and_eq_true, decide_eq_true_eq] at e
    exact .inr (.inr (.inl ⟨h1, e.1, bare e.2⟩))
  split at e
  · rename_i h1
    rw [Bool.and_eq_true, Bool.and_eq_true, decide_eq_true_eq] at e
    exact .inr (.inr (.inr ⟨h1, e.1.1, bare e.1.2⟩))
  · cases e
theorem one_kids {h : Ph} {ks : List Pd} (e : oneP (.mk h ks) = true) : hdOk h ks = true ∧ ∀ k ∈ ks, oneP k = true := by
  rw [oneP, Bool.and_eq_true, oneL_all] at e
  exact ⟨e.1, List.all_eq_true.1 e.2⟩
theorem typ_kids {cols : List Co} {h : Ph} {ks : List Pd} (e : typP cols (.mk h ks) = true) : okT cols h = true ∧ ∀ k ∈ ks, typP cols k = true := by
  rw [typP, Bool.and_eq_true, typL_all] at e
  exact ⟨e.1, List.all_eq_true.1 e.2⟩
theorem name_some {n : Tx} (h : nameB n = true) : n ≠ [] := by
  rintro rfl
  revert h
  decide
theorem ask_col {cols : List Co} {row : List Cl} {h : Ph} (ho : h.op = 2 ∨ h.op = 3 ∨ h.op = 4) (ha : askOk h = true) (ht : okT cols h = true) (hr : rowB cols row = true) :
    h.col ≠ [] ∧ ∃ (k : Nat) (h1 : k < cols.length) (h2 : k < row.length), findC cols h.col = some k ∧ cellN cols row h.col = row[k] ∧ mayC cols[k].ty cols[k].nl row[k] = true ∧
      (h.op = 2 → cols[k].ty = h.kind ∧ mayC h.kind false h.val = true) ∧ (h.op = 4 → cols[k].ty = 3) := by
  obtain ⟨hl, hm⟩ := row_at hr
  unfold askOk at ha
  rw [Bool.and_eq_true] at ha
  have hne := name_some ha.1
  refine ⟨hne, ?_⟩
  unfold okT at ht
  rw [if_neg hne] at ht
  split at ht
  · cases ht
  · rename_i k hk
    have h1 := find_lt hk
    have h2 : k < row.length := by omega
    rw [List.getElem?_eq_getElem h1] at ht
    dsimp only at ht
    refine ⟨k, h1, h2, hk, ?_, hm k h1 h2, ?_, ?_⟩
    · unfold cellN; rw [hk]; dsimp only; rw [List.getD_eq_getElem?_getD, List.getElem?_eq_getElem h2]; rfl
    · intro e
      rw [if_pos e] at ht
      have ha2 := ha.2
      rw [if_pos e, Bool.and_eq_true, Bool.and_eq_true] at ha2
      exact ⟨by simpa using ht, ha2.1.2⟩
    · intro e
      rw [if_neg (by omega), if_pos e] at ht
      simpa using ht
def anO : An → An → Int
  | .int i, .int j => cmpI i j
  | .bool a, .bool b => cmpI (bitI a) (bitI b)
  | .text s, .text t => cmpT s t
  | _, _ => 0
theorem cmpI_self (i : Int) : cmpI i i = 0 := by unfold cmpI; rw [if_neg (by omega), if_neg (by omega)]
theorem bit_one {i : Int} (h : i = 0 ∨ i = 1) : bitI (i != 0) = i := by rcases h with rfl | rfl <;> rfl
inductive AnT : An → An → Prop
  | int (i j : Int) : AnT (.int i) (.int j)
  | bool (a b : Bool) : AnT (.bool a) (.bool b)
  | text (s t : Tx) : AnT (.text s) (.text t)
theorem an_two {ty : Int} {nl ml : Bool} {c v : Cl} (hc : mayC ty nl c = true) (hv : mayC ty ml v = true) (nc : c.null = false) (nv : v.null = false) : AnT (toA ty c) (toA ty v) ∧ anO (toA ty c) (toA ty v) = ordC c v := by
  unfold mayC at hc hv
  unfold toA
  rw [ordC_null (by rw [nc, nv])]
  rw [nc] at hc ⊢
  rw [nv] at hv ⊢
  simp only [Bool.false_eq_true, if_false, Bool.and_eq_true] at hc hv ⊢
  obtain ⟨ht, hc⟩ := hc
  obtain ⟨_, hv⟩ := hv
  unfold isTy at ht
  simp only [Bool.or_eq_true, beq_iff_eq] at ht
  rcases ht with (rfl | rfl) | rfl
  · rw [if_neg (by decide)] at hc hv
    rw [Bool.and_eq_true] at hc hv
    have e1 : c.txt = [] := by simpa using hc.1
    have e2 : v.txt = [] := by simpa using hv.1
    rw [if_pos rfl, if_pos rfl, e1, e2]
    refine ⟨.int _ _, ?_⟩
    show cmpI c.num v.num = _
    split
    · rename_i e; rw [e, cmpI_self, cmpT_self]
    · rfl
  · rw [if_neg (by decide)] at hc hv
    rw [Bool.and_eq_true] at hc hv
    have e1 : c.txt = [] := by simpa using hc.1
    have e2 : v.txt = [] := by simpa using hv.1
    have b1 : c.num = 0 ∨ c.num = 1 := by simpa using hc.2
    have b2 : v.num = 0 ∨ v.num = 1 := by simpa using hv.2
    rw [if_neg (by decide), if_pos rfl, if_neg (by decide), if_pos rfl, e1, e2]
    refine ⟨.bool _ _, ?_⟩
    show cmpI (bitI (c.num != 0)) (bitI (v.num != 0)) = _
    rw [bit_one b1, bit_one b2]
    split
    · rename_i e; rw [e, cmpI_self, cmpT_self]
    · rfl
  · rw [if_pos rfl] at hc hv
    rw [Bool.and_eq_true] at hc hv
    have e1 : c.num = 0 := by simpa using hc.1
    have e2 : v.num = 0 := by simpa using hv.1
    rw [if_neg (by decide), if_neg (by decide), if_pos rfl, if_neg (by decide), if_neg (by decide), if_pos rfl, e1, e2, if_pos rfl]
    exact ⟨.text _ _, rfl⟩
theorem may_null {ty : Int} {c : Cl} (h : mayC ty false c = true) : c.null = false := by
  unfold mayC at h
  cases e : c.null
  · rfl
  · rw [e] at h; simp at h
theorem toA_null {ty : Int} {c : Cl} (h : c.null = true) : toA ty c = .nil := by unfold toA; rw [if_pos h]
theorem mayC_text {nl : Bool} {c : Cl} (h : mayC 3 nl c = true) : c.txt.length ≤ 40 := by
  unfold mayC at h
  cases e : c.null
  · rw [e] at h; simp at h; exact h.2.2
  · rw [e] at h; simp at h
    rw [h.2.2.2]; simp
def plcI (cols : List Co) (p : Pd) (rows : List (List Cl)) (n : Nat) : List Int := ((List.range n).filter fun i => truP cols (rows.getD i []) p == 1).map fun (i : Nat) => (i : Int)
theorem plc_yes {cols : List Co} {p : Pd} {rows : List (List Cl)} {n : Nat} (h : n < rows.length) (e : truP cols rows[n] p = 1) : plcI cols p rows (n + 1) = plcI cols p rows n ++ [(n : Int)] := by
  unfold plcI
  rw [List.range_succ, List.filter_append, List.map_append]
  congr 1
  rw [List.filter_cons, if_pos (by rw [List.getD_eq_getElem?_getD, List.getElem?_eq_getElem h]; simpa using e)]; rfl
theorem plc_no {cols : List Co} {p : Pd} {rows : List (List Cl)} {n : Nat} (h : n < rows.length) (e : truP cols rows[n] p ≠ 1) : plcI cols p rows (n + 1) = plcI cols p rows n := by
  unfold plcI
  rw [List.range_succ, List.filter_append, List.map_append]
  have : ([n].filter fun i => truP cols (rows.getD i []) p == 1) = [] := by
    rw [List.filter_cons, if_neg (by rw [List.getD_eq_getElem?_getD, List.getElem?_eq_getElem h]; simpa using e)]; rfl
  rw [this]; simp
theorem plcI_len (cols : List Co) (p : Pd) (rows : List (List Cl)) (n : Nat) : (plcI cols p rows n).length ≤ n := by
  unfold plcI
  rw [List.length_map]
  have := List.length_filter_le (fun i => truP cols (rows.getD i []) p == 1) (List.range n)
  rw [List.length_range] at this
  exact this
def rowsE (cols : List Co) (p : Pd) (rows : List (List Cl)) : List Int × Int := if fitP cols p = 0 then (if rows.all (rowB cols) = true then (plcI cols p rows rows.length, 0) else ([], 10)) else ([], fitP cols p)
theorem rowsE_bad {cols : List Co} {p : Pd} {rows : List (List Cl)} (h : fitP cols p ≠ 0) : rowsE cols p rows = ([], fitP cols p) := by unfold rowsE; rw [if_neg h]
theorem rowsE_type {cols : List Co} {p : Pd} {rows : List (List Cl)} {k : Nat} (h : fitP cols p = 0) (hk : k < rows.length) (hr : rowB cols rows[k] = false) : rowsE cols p rows = ([], 10) := by
  unfold rowsE; rw [if_pos h, if_neg]
  rw [List.all_eq_true]
  intro e
  have := e _ (List.getElem_mem hk)
  rw [hr] at this; cases this
theorem rowsE_ok {cols : List Co} {p : Pd} {rows : List (List Cl)} {k : Nat} (h : fitP cols p = 0) (hk : rows.length ≤ k) (hr : ∀ j (h : j < rows.length), j < k → rowB cols rows[j] = true) : rowsE cols p rows = (plcI cols p rows rows.length, 0) := by
  unfold rowsE; rw [if_pos h, if_pos]
  rw [List.all_eq_true]
  intro x hx
  obtain ⟨j, hj, rfl⟩ := List.mem_iff_getElem.1 hx
  exact hr j hj (by omega)
theorem rows_more {cols : List Co} {rows : List (List Cl)} {k : Nat} (hr : ∀ j (h : j < rows.length), j < k → rowB cols rows[j] = true) (hk : k < rows.length) (e : rowB cols rows[k] = true) : ∀ j (h : j < rows.length), j < k + 1 → rowB cols rows[j] = true := by
  intro j hj hlt
  by_cases e2 : j = k
  · subst e2; exact e
  · exact hr j hj (by omega)
theorem fit_zero {cols : List Co} {p : Pd} (h : fitP cols p = 0) : chkC cols = 0 ∧ oneP p = true ∧ typP cols p = true := by
  unfold fitP at h
  split at h
  · cases h
  · rename_i h1
    split at h
    · rename_i h2
      refine ⟨Classical.byContradiction fun e => h1 (.inr e), ?_, h2⟩
      have hm : mayP p = true := by
        cases e : mayP p
        · exact absurd (.inl e) h1
        · rfl
      unfold mayP at hm
      rw [Bool.and_eq_true] at hm
      exact hm.2
    · cases h
end Go.Proofs.YtjcfjjhhbcgcmaaGreat

namespace Go.Proofs.YtjcfjjhhbcgcmaaGreat
open Go.RowKit
def Rise : List Cl → Prop
  | [] => True
  | a :: l => (∀ b ∈ l, ordC a b < 0) ∧ Rise l
theorem ordC_lt {a b c : Cl} (h1 : ordC a b < 0) (h2 : ordC b c < 0) : ordC a c < 0 := by
  have h3 := ordC_trans (show ordC a b ≤ 0 by omega) (show ordC b c ≤ 0 by omega)
  by_cases e : ordC a c = 0
  · have e1 : a = c := by have := ordC_zero a c; rw [e] at this; exact ceq_is this.symm
    subst e1
    have := ordC_neg a b
    omega
  · omega
theorem ordC_irr (a : Cl) : ¬ ordC a a < 0 := by rw [ordC_self]; omega
theorem rise_uniq : ∀ {l m : List Cl}, Rise l → Rise m → (∀ c, c ∈ l ↔ c ∈ m) → l = m
  | [], [], _, _, _ => rfl
  | [], b :: m, _, _, h => by have := (h b).2 (List.mem_cons_self ..); cases this
  | a :: l, [], _, _, h => by have := (h a).1 (List.mem_cons_self ..); cases this
  | a :: l, b :: m, h1, h2, h => by
    have hab : a = b := by
      rcases List.mem_cons.1 ((h a).1 (List.mem_cons_self ..)) with e | e
      · exact e
      · rcases List.mem_cons.1 ((h b).2 (List.mem_cons_self ..)) with e2 | e2
        · exact e2.symm
        · exact absurd (ordC_lt (h1.1 b e2) (h2.1 a e)) (ordC_irr a)
    subst hab
    have ht : l = m := rise_uniq h1.2 h2.2 (fun c => ⟨fun hc => by
      rcases List.mem_cons.1 ((h c).1 (List.mem_cons_of_mem _ hc)) with e | e
      · exact absurd (h1.1 c hc) (by rw [e]; exact ordC_irr a)
      · exact e, fun hc => by
      rcases List.mem_cons.1 ((h c).2 (List.mem_cons_of_mem _ hc)) with e | e
      · exact absurd (h2.1 c hc) (by rw [e]; exact ordC_irr a)
      · exact e⟩)
    rw [ht]
def insK (c : Cl) : List Cl → List Cl
  | [] => [c]
  | a :: l => if ordC a c < 0 then a :: insK c l else if ceq a c = true then a :: l else c :: a :: l
theorem insK_mem (c d : Cl) (l : List Cl) : d ∈ insK c l ↔ d = c ∨ d ∈ l := by
  induction l with
  | nil => simp [insK]
  | cons a l ih =>
    rw [insK]
    split
    · rw [List.mem_cons, ih, List.mem_cons]
      constructor
      · rintro (e | e | e)
        · exact .inr (.inl e)
        · exact .inl e
        · exact .inr (.inr e)
      · rintro (e | e | e)
        · exact .inr (.inl e)
        · exact .inl e
        · exact .inr (.inr e)
    · split
      · rename_i h
        have := ceq_is h
        subst this
        constructor
        · exact .inr
        · rintro (e | e)
          · rw [e]; exact List.mem_cons_self ..
          · exact e
      · exact List.mem_cons
theorem insK_rise (c : Cl) {l : List Cl} (h : Rise l) : Rise (insK c l) := by
  induction l with
  | nil => exact ⟨fun b hb => (by cases hb), trivial⟩
  | cons a l ih =>
    rw [insK]
    split
    · rename_i hac
      refine ⟨fun b hb => ?_, ih h.2⟩
      rcases (insK_mem c b l).1 hb with e | e
      · rw [e]; exact hac
      · exact h.1 b e
    · split
      · exact h
      · rename_i h1 h2
        have hz : ordC a c ≠ 0 := fun e => h2 (by have := ordC_zero a c; rw [e] at this; exact this.symm)
        have hca : ordC c a < 0 := by have := ordC_neg a c; omega
        refine ⟨fun b hb => ?_, h⟩
        rcases List.mem_cons.1 hb with e | e
        · rw [e]; exact hca
        · exact ordC_lt hca (h.1 b e)
def keysC (L : List Cl) : List Cl := L.foldl (fun ks c => insK c ks) []
theorem keys_from (L ks : List Cl) (h : Rise ks) : Rise (L.foldl (fun ks c => insK c ks) ks) ∧ ∀ c, c ∈ L.foldl (fun ks c => insK c ks) ks ↔ c ∈ L ∨ c ∈ ks := by
  induction L generalizing ks with
  | nil => exact ⟨h, fun c => by simp⟩
  | cons a L ih =>
    rw [List.foldl_cons]
    obtain ⟨h1, h2⟩ := ih (insK a ks) (insK_rise a h)
    refine ⟨h1, fun c => ?_⟩
    rw [h2, insK_mem, List.mem_cons]
    constructor
    · rintro (e | e | e)
      · exact .inl (.inr e)
      · exact .inl (.inl e)
      · exact .inr e
    · rintro ((e | e) | e)
      · exact .inr (.inl e)
      · exact .inl e
      · exact .inr (.inr e)
theorem keys_rise (L : List Cl) : Rise (keysC L) := (keys_from L [] trivial).1
theorem keys_mem (L : List Cl) (c : Cl) : c ∈ keysC L ↔ c ∈ L := by
  have := (keys_from L [] trivial).2 c
  unfold keysC
  rw [this]; simp
theorem keys_more {L : List Cl} {k : Nat} (h : k < L.length) : keysC (L.take (k + 1)) = insK L[k] (keysC (L.take k)) := by
  unfold keysC; rw [List.take_succ_eq_append_getElem h, List.foldl_append]; rfl
theorem keys_uniq {L ks : List Cl} (h : Rise ks) (hm : ∀ c, c ∈ ks ↔ c ∈ L) : ks = keysC L := rise_uniq h (keys_rise L) (fun c => (hm c).trans (keys_mem L c).symm)
def whrG (cols : List Co) (q : Qy) (rows : List (List Cl)) : List (List Cl) := rows.filter fun r => truP cols r q.whr == 1
def agC (cols : List Co) (rows : List (List Cl)) (a : Ag) : Cl := valF a.op (foC (rows.map fun r => cellN cols r a.col))
def valsG (cols : List Co) (q : Qy) (rows : List (List Cl)) : List Cl := q.aggs.map (agC cols rows)
def plainG (cols : List Co) (q : Qy) (rows : List (List Cl)) : List (List Cl) := rows.map fun r => if q.cols.length = 0 then r else q.cols.map fun n => cellN cols r n
def mineG (cols : List Co) (n : Tx) (rows : List (List Cl)) (c : Cl) : List (List Cl) := rows.filter fun r => ceq (cellN cols r n) c
def keysG (cols : List Co) (n : Tx) (rows : List (List Cl)) : List Cl := keysC (rows.map fun r => cellN cols r n)
def byG (cols : List Co) (q : Qy) (rows : List (List Cl)) : List (List Cl) := (keysG cols q.by_ rows).map fun c => c :: valsG cols q (mineG cols q.by_ rows c)
def answG (cols : List Co) (q : Qy) (rows : List (List Cl)) : List (List Cl) := if q.aggs.length = 0 then plainG cols q rows else if q.by_ = [] then [valsG cols q rows] else byG cols q rows
def ansE (cols : List Co) (q : Qy) (rows : List (List Cl)) : List (List Cl) × Int := if fitQ cols q = 0 then (if rows.all (rowB cols) = true then (answG cols q (whrG cols q rows), 0) else ([], 10)) else ([], fitQ cols q)
def tyN (cols : List Co) (n : Tx) : Int := match findC cols n with | some k => (cols.getD k noCo).ty | none => 0
def typsG (cols : List Co) (q : Qy) : List Int :=
  if fitQ cols q = 0 then (if q.aggs.length = 0 ∧ q.cols.length = 0 then cols.map Co.ty else []) ++ q.cols.map (tyN cols) ++ (if q.by_ = [] then [] else [tyN cols q.by_]) ++ q.aggs.map (fun a => if 4 ≤ a.op then tyN cols a.col else 1) else []
end Go.Proofs.YtjcfjjhhbcgcmaaGreat

namespace Go.Proofs.YtjcfjjhhbcgcmaaGreat
open Go.RowKit
theorem insK_there {c : Cl} {ks : List Cl} {k : Nat} (hlt : ∀ j (h : j < ks.length), j < k → ordC ks[j] c < 0) (hk : k < ks.length) (e : ks[k] = c) : insK c ks = ks := by
  induction ks generalizing k with
  | nil => cases hk
  | cons a ks ih =>
    rw [insK]
    cases k with
    | zero =>
      have e' : a = c := e
      subst e'
      rw [if_neg (ordC_irr a), if_pos (ceq_self a)]
    | succ k =>
      rw [if_pos (show ordC a c < 0 from hlt 0 (by simp) (by omega)), ih (k := k) (fun j h hj => hlt (j + 1) (by simpa using h) (by omega)) (by simpa using hk) (by simpa using e)]
theorem insK_new {c : Cl} {ks : List Cl} {k : Nat} (hk : k ≤ ks.length) (hlt : ∀ j (h : j < ks.length), j < k → ordC ks[j] c < 0) (hge : ∀ h : k < ks.length, ¬ ordC ks[k] c < 0) (hne : ∀ h : k < ks.length, ks[k] ≠ c) : insK c ks = (ks.take k ++ [c]) ++ ks.drop k := by
  induction ks generalizing k with
  | nil => simp [insK]
  | cons a ks ih =>
    rw [insK]
    cases k with
    | zero =>
      rw [if_neg (show ¬ ordC a c < 0 from hge (by simp)), if_neg (fun e => hne (by simp) (ceq_is e))]
      rfl
    | succ k =>
      rw [if_pos (show ordC a c < 0 from hlt 0 (by simp) (by omega)), ih (k := k) (by simpa using hk) (fun j h hj => hlt (j + 1) (by simpa using h) (by omega)) (fun h => hge (by simpa using h)) (fun h => hne (by simpa using h))]
      rfl
theorem insK_len (c : Cl) (ks : List Cl) : (insK c ks).length ≤ ks.length + 1 := by
  induction ks with
  | nil => simp [insK]
  | cons a ks ih =>
    rw [insK]
    split
    · simp; exact ih
    · split
      · simp
      · simp
theorem keys_len (L : List Cl) : (keysC L).length ≤ L.length := by
  have from_ : ∀ (L ks : List Cl), (L.foldl (fun ks c => insK c ks) ks).length ≤ ks.length + L.length := by
    intro L
    induction L with
    | nil => intro ks; simp
    | cons a L ih => intro ks; rw [List.foldl_cons]; have := ih (insK a ks); have := insK_len a ks; rw [List.length_cons]; omega
  have := from_ L []
  unfold keysC
  simpa using this
end Go.Proofs.YtjcfjjhhbcgcmaaGreat

namespace Go.Proofs.YtjcfjjhhbcgcmaaGreat
open Go.RowKit
theorem sz_clP (w : World) : (sizeOf (Tryz.prog.elem 47)).run Tryz.prog w = .ok 3 w := by kernel_rfl
theorem slice_hiCs (A : Option Addr) (n c k : Nat) (kl : IntKind) (y : Int) (hy : y = (k : Int)) (hk : k ≤ n) (hn : n ≤ c) :
    ∃ A' c', (∀ W, (Instr.slice 47 (.slice A n c) none (some (.int kl y)) none).run Tryz.prog W = .ok (.slice A' k c') W) ∧
      (∀ W (l : List Cl), Cs W (.slice A n c) l → Cs W (.slice A' k c') (l.take k)) := by
  subst hy
  refine ⟨if c = 0 then A else A.map (·.add 0), c, fun W => ?_, ?_⟩
  · rw [run_slice_any W 47 A n c (by kernel_rfl)]
    have hb : (Instr.sliceBounds true n c none (some (.int kl (k : Int))) none).run Tryz.prog W = .ok (0, k, c) W := by
      simp [Instr.sliceBounds, run_sliceBound, show (k : Int) ≤ c by omega]
    rw [hb]
    simp only [Result.andThen_ok, sz_clP]
    simp [sliced]
  · rintro W l ⟨A0, c0, he, h1, h2, h3⟩
    simp only [Value.slice.injEq] at he
    obtain ⟨rfl, rfl, rfl⟩ := he
    refine ⟨if c = 0 then A else A.map (·.add 0), c, by rw [List.length_take, Nat.min_eq_left hk], by rw [List.length_take]; omega, fun e => ?_, fun a ha j hj => ?_⟩
    · split at e
      · have := h2 e; omega
      · have := h2 (by simpa using e); omega
    · rw [List.length_take] at hj
      rw [if_neg (by omega)] at ha
      cases A with
      | none => cases ha
      | some b =>
        obtain rfl : b.add 0 = a := by simpa using ha
        have h4 := h3 b rfl j (by omega)
        rw [add_add, Nat.zero_add, List.getElem_take]
        exact h4
theorem slice_loCs (A : Option Addr) (n c j : Nat) (kl : IntKind) (y : Int) (hy : y = (j : Int)) (hj : j ≤ n) (hn : n ≤ c) :
    ∃ A' c', (∀ W, (Instr.slice 47 (.slice A n c) (some (.int kl y)) none none).run Tryz.prog W = .ok (.slice A' (n - j) c') W) ∧
      (∀ W (l : List Cl), Cs W (.slice A n c) l → Cs W (.slice A' (n - j) c') (l.drop j)) := by
  subst hy
  refine ⟨if c = j then A else A.map (·.add (j * 3)), c - j, fun W => ?_, ?_⟩
  · rw [run_slice_any W 47 A n c (by kernel_rfl)]
    have hb : (Instr.sliceBounds true n c (some (.int kl (j : Int))) none none).run Tryz.prog W = .ok (j, n, c) W := by
      simp [Instr.sliceBounds, run_sliceBound, hj, hn]
    rw [hb]
    simp only [Result.andThen_ok, sz_clP]
    simp [sliced]
  · rintro W l ⟨A0, c0, he, h1, h2, h3⟩
    simp only [Value.slice.injEq] at he
    obtain ⟨rfl, rfl, rfl⟩ := he
    refine ⟨if c = j then A else A.map (·.add (j * 3)), c - j, by rw [List.length_drop], by rw [List.length_drop]; omega, fun e => ?_, fun a ha i hi => ?_⟩
    · split at e
      · have := h2 e; omega
      · have := h2 (by simpa using e); omega
    · rw [List.length_drop] at hi
      rw [if_neg (by omega)] at ha
      cases A with
      | none => cases ha
      | some b =>
        obtain rfl : b.add (j * 3) = a := by simpa using ha
        have h4 := h3 b rfl (j + i) (by omega)
        rw [List.getElem_drop, add_add, ← Nat.add_mul]
        exact h4
end Go.Proofs.YtjcfjjhhbcgcmaaGreat

namespace Go.Proofs.YtjcfjjhhbcgcmaaGreat
open Go.RowKit
theorem wp_appC {w : World} {o : Oper} {a : Act} {K : Act → World → Prop} {Q : Exit → Act → World → Prop} (s x : Operand)
    (ho : o.op = .call { callee := .builtin .append, args := #[s, x], argTypes := #[47, 47] })
    (B : Nat) (v y : Value) (l m : List Cl) (hs : a.eval s = v) (hown : Oc w B v l) (hx : a.eval x = y) (hy : Cs w y m)
    (hl : l.length + m.length < 4398046511104) (hB : B ≤ w.heap.size)
    (h : ∀ v' w', Oc w' B v' (l ++ m) → Fr (fun k => v.ownBlock = some k) w w' → K (a.put o.dst v') w') : o.wp Tryz.prog a w K Q := by
  obtain ⟨ii, hi, hz0, hz1, hz2⟩ := info_parts info_cl
  obtain ⟨A, c, rfl, hmc, hn, hcells⟩ := hy
  cases A with
  | some ad =>
    refine wp_append_own w s x _ ho B 25 ii _ 3 32 Tryz.underlying47 hi hz0 hz1 hz2 rfl (by omega) v l.length (clsL l) hs hown ad m.length c (clsL m) hx (clsL_len m) ?_ (clsL_one' m) (by unfold maxLen; omega) (by omega) hB ?_
    · intro j u hu
      have hj : j < m.length * 3 := by rw [← clsL_len]; exact (List.getElem?_eq_some_iff.1 hu).1
      have hat := clsL_at m (j / 3) (j % 3) (by omega) (Nat.mod_lt _ (by omega))
      rw [show j / 3 * 3 + j % 3 = j by omega, hu] at hat
      have h3 := hcells ad rfl (j / 3) (by omega)
      have e : ad.add j = (ad.add (j / 3 * 3)).add (j % 3) := by rw [add_add, show j / 3 * 3 + j % 3 = j by omega]
      rw [e]
      have hm : j % 3 = 0 ∨ j % 3 = 1 ∨ j % 3 = 2 := by omega
      rcases hm with hm | hm | hm <;> rw [hm] at hat ⊢
      · have := h3.c0; simp [clL] at hat; rw [hat, show ∀ p : Addr, p.add 0 = p from fun p => by simp [Addr.add]]; exact this
      · have := h3.c1; simp [clL] at hat; rw [hat]; exact this
      · have := h3.c2; simp [clL] at hat; rw [hat]; exact this
    · intro v' w' h1 h2 _
      refine h v' w' ?_ (Fr.of_grown h2)
      unfold Oc
      rw [clsL_app, List.length_append]
      exact h1
  | none =>
    have hm : m = [] := List.eq_nil_of_length_eq_zero (by have := hn rfl; omega)
    subst hm
    have hc : c = 0 := hn rfl
    subst hc
    have hrun := run_append_owned_none (P := Tryz.prog) (w := w) B 47 o.type 25 ii 3 Tryz.underlying47 hi v l.length (clsL l) hown
    unfold Oper.wp
    have hx' : a.eval x = .slice none 0 0 := hx
    simp [execOp, ho, resolve, invoke, builtin, hs, hx', hrun, Result.andThen]
    exact h v w (by simpa using hown) (Fr.refl _ _)
theorem wpList_appC {w : World} {ops : Array Oper} {rest : List Oper} {o : Oper} {a : Act} {Q : Exit → Act → World → Prop} (hw : Region.wanted o (yielded ops a.tmps) = true) (s x : Operand)
    (ho : o.op = .call { callee := .builtin .append, args := #[s, x], argTypes := #[47, 47] })
    (B : Nat) (v y : Value) (l m : List Cl) (hs : a.eval s = v) (hown : Oc w B v l) (hx : a.eval x = y) (hy : Cs w y m)
    (hl : l.length + m.length < 4398046511104) (hB : B ≤ w.heap.size)
    (h : ∀ v' w', Oc w' B v' (l ++ m) → Fr (fun k => v.ownBlock = some k) w w' → wpList Tryz.prog ops Q rest (a.put o.dst v') w') : wpList Tryz.prog ops Q (o :: rest) a w :=
  BigFrame.wpList_want hw fun _ hK => wp_appC s x ho B v y l m hs hown hx hy hl hB fun v' w' h1 h2 => hK _ _ (h v' w' h1 h2)
end Go.Proofs.YtjcfjjhhbcgcmaaGreat

namespace Go.Proofs.YtjcfjjhhbcgcmaaGreat
open Go.RowKit
def colC (rows : List (List Cl)) (i : Nat) : List Cl := rows.map fun r => r.getD i noCl
theorem colC_length (rows : List (List Cl)) (i : Nat) : (colC rows i).length = rows.length := by simp [colC]
end Go.Proofs.YtjcfjjhhbcgcmaaGreat

namespace Go.Proofs.YtjcfjjhhbcgcmaaGreat
open Go.RowKit
theorem colC_at (rs : List (List Cl)) (p k : Nat) (h : k < rs.length) (hp : p < rs[k].length) : (colC rs p)[k]? = some rs[k][p] := by
  unfold colC
  rw [List.getElem?_map, List.getElem?_eq_getElem h]
  simp [hp]
theorem colC_take (rs : List (List Cl)) (p k : Nat) (h : k < rs.length) (hp : p < rs[k].length) : (colC rs p).take (k + 1) = (colC rs p).take k ++ [rs[k][p]] := by
  have hl : k < (colC rs p).length := by rw [colC_length]; exact h
  rw [List.take_succ_eq_append_getElem hl]
  have := colC_at rs p k h hp
  rw [List.getElem?_eq_getElem hl] at this
  rw [Option.some.inj this]
end Go.Proofs.YtjcfjjhhbcgcmaaGreat

namespace Go.Proofs.YtjcfjjhhbcgcmaaGreat
open Go.RowKit
theorem Fr.at0 {w w' : World} (h : Fr Non w w') {p : Addr} {u : Value} (e : w.cell? p = some u) : w'.cell? p = some u := (h.cell (World.block_lt_of_cell? _ _ e) (fun e => e)).trans e
theorem add_none (a : Addr) : a.add 0 = a := by
  obtain ⟨B, o, e⟩ := a
  cases e <;> rfl
end Go.Proofs.YtjcfjjhhbcgcmaaGreat
