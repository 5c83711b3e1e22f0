/-
  Joined: Layer 10: which bytes a column's cells are, and which cells bytes are; nothing of the program. · Layer 10: chunk.may, part, join. · Layer 5: the walks of runs.run, runs.Put, firkinref05.Put, firkinref05.Same. · Layer 5: the walk of runs.Get. · Layer 6: the walks of delta's closures, delta.Put, firkinref06.Put. · Layer 1, what is read: contracts of the document's own source, S. · Layer 1, what is read: contracts of the document's own source: Int, Below, Take, Text, End. · Layer 6: the walks of delta.Get, firkinref06.Get. · Layer 10: chunk.putEach, getEach. · The frame of a law's proof, for any parameters: where the call returned true and turned nothing that was there, the row's words hold. · Slices of texts: what one reads as; the document's Names; a slice of texts that came in. · A map of texts to numbers of the call's own: which texts it has (ks), and what it says of each (g); made, written, asked, its keys in order. · Layer 1, what is read: the contract of the document's own source's Text; what the page's examples come to. · Functions of Go's library at bytes: bytes.Clone, bytes.Equal, slices.Grow of nil, slices.Concat. · Layer 8: the walks of dict.Plain and of the document's Plain. · Layer 7: the walks of tight.size, slices.Min and slices.Max of int64s, bits.Len64, firkinref07.need. · Layer 7: the walks of the strip's put and get, the pack's add and tell. · Layer 7: the walk of tight.Put. · Layer 7: the walk of tight.open.
-/
import Derived.Deep.Slices
import Derived.Test.YtemfmnjhmmlmbaaGreatZ1
import Derived.WalkMore
import Derived.Deep.QuietTactic
import Derived.BigQuiet
import Derived.Deep.RegionHeld3
import Derived.Deep.DrawnRows
import Derived.Test.YtemfmnjhmmlmbaaGreatRows
import Derived.ProofKit
import Derived.OpenShut
import Derived.ShutString
import Derived.ChangeOld
import Derived.Below
import Derived.Test.YtemfmnjhmmlmbaaGreatKeys
import Derived.Maps.OwnSet
import Derived.Maps.OwnOps
import Derived.Lib.AppendZeros
import Derived.Lib.SliceRun
import Derived.Lib.MinMax
import Derived.Deep.RegionWith
import Derived.BigRegion
import Derived.Test.YtemfmnjhmmlmbaaGreatLen64
import Derived.Laws.ResultCell

namespace Go.Proofs.YtemfmnjhmmlmbaaGreat
set_option linter.unusedVariables false
set_option linter.unusedSimpArgs false
set_option maxRecDepth 100000
open Go.RowKit

/-- each number by itself -/
def onesN (l : List Int) : List UInt8 := (l.map fun x => Lib.uvarint (zig x)).flatten
theorem onesN_nil : onesN [] = [] := rfl
theorem onesN_cons (x : Int) (l : List Int) : onesN (x :: l) = Lib.uvarint (zig x) ++ onesN l := by simp [onesN]
theorem onesN_take (l : List Int) (k : Nat) (h : k < l.length) : onesN (l.take (k + 1)) = onesN (l.take k) ++ Lib.uvarint (zig l[k]) := by
  rw [List.take_succ_eq_append_getElem h]; unfold onesN; rw [List.map_append, List.flatten_append]; simp
theorem onesN_len : ∀ (l : List Int), (∀ x ∈ l, I64 x) → (onesN l).length ≤ 10 * l.length
  | [], _ => Nat.zero_le _
  | x :: l, h => by
    have h1 := onesN_len l fun y hy => h y (by simp [hy])
    have h2 := uvarint_zig10 (h x (by simp))
    rw [onesN_cons, List.length_append, List.length_cons]; omega
/-- the n numbers that bytes are, each by itself -/
def gOnes : Nat → List UInt8 → Option (List Int)
  | 0, b => if b = [] then some [] else none
  | n + 1, b => match rd 0 0 b with
    | none => none
    | some (z, q) => (gOnes n q).map (unzig z :: ·)
theorem gOnes_nil : gOnes 0 [] = some [] := rfl
theorem gOnes_end {b : List UInt8} (h : b ≠ []) : gOnes 0 b = none := by unfold gOnes; rw [if_neg h]
theorem gOnes_none {n : Nat} {b : List UInt8} (h : rd 0 0 b = none) : gOnes (n + 1) b = none := by unfold gOnes; rw [h]
theorem gOnes_some {n : Nat} {b q : List UInt8} {z : Nat} (h : rd 0 0 b = some (z, q)) : gOnes (n + 1) b = (gOnes n q).map (unzig z :: ·) := by
  rw [gOnes, h]
theorem gOnes_is : ∀ (n : Nat) (b : List UInt8) (l : List Int), gOnes n b = some l → onesN l = b ∧ l.length = n ∧ (∀ x ∈ l, I64 x)
  | 0, b, l, h => by
    by_cases hb : b = []
    · subst hb
      rw [gOnes_nil] at h
      obtain rfl : [] = l := by simpa using h
      exact ⟨rfl, rfl, fun x hx => by simp at hx⟩
    · rw [gOnes_end hb] at h; cases h
  | n + 1, b, l, h => by
    cases hr : rd 0 0 b with
    | none => rw [gOnes_none hr] at h; cases h
    | some p =>
      obtain ⟨z, q⟩ := p
      rw [gOnes_some hr] at h
      cases hg : gOnes n q with
      | none => rw [hg] at h; cases h
      | some l' =>
        rw [hg] at h
        obtain rfl : unzig z :: l' = l := by simpa using h
        obtain ⟨i1, i2, i3⟩ := gOnes_is n q l' hg
        have hz := unzig_i64 (rd_lt hr)
        refine ⟨?_, by rw [List.length_cons, i2], ?_⟩
        · rw [onesN_cons, zig_unzig, i1, ← rd_is hr]
        · intro x hx
          rcases List.mem_cons.1 hx with rfl | hx
          · exact hz
          · exact i3 x hx
/-- after k of n reads, bad or not, what is still to come -/
def ToO (n : Nat) (b : List UInt8) (k : Nat) (L : List Int) (q : List UInt8) (bad : Bool) : Prop :=
  L.length = k ∧ gOnes n b = (if bad = true then none else (gOnes (n - k) q).map (L ++ ·))
theorem toO_zero (n : Nat) (b : List UInt8) : ToO n b 0 [] b false := ⟨rfl, by simp⟩
theorem toO_step {n k : Nat} {b q : List UInt8} {L : List Int} {bad : Bool} (h : ToO n b k L q bad) (hb : bad = true → q = []) (hk : k < n) : ToO n b (k + 1) (L ++ [unzig (fstN q)]) (rest q) (fell q) := by
  obtain ⟨h1, h2⟩ := h
  refine ⟨by rw [List.length_append, h1]; rfl, ?_⟩
  rw [h2]
  cases bad with
  | true =>
    have hq := hb rfl
    subst hq
    rfl
  | false =>
    obtain ⟨m, hm⟩ : ∃ m, n - k = m + 1 := ⟨n - k - 1, by omega⟩
    have hm' : n - (k + 1) = m := by omega
    rw [hm, hm']
    cases hr : rd 0 0 q with
    | none =>
      obtain ⟨e1, e2, e3, _⟩ := rest_none hr
      rw [gOnes_none hr, e2]; simp
    | some p =>
      obtain ⟨z, r⟩ := p
      obtain ⟨e1, e2, e3, _⟩ := rest_some hr
      rw [gOnes_some hr, e1, e2, e3]
      cases gOnes m r <;> simp
theorem toO_end {n : Nat} {b q : List UInt8} {L : List Int} {bad : Bool} (h : ToO n b n L q bad) : gOnes n b = if (!bad && q.isEmpty) = true then some L else none := by
  obtain ⟨h1, h2⟩ := h
  rw [h2, Nat.sub_self]
  cases bad with
  | true => rfl
  | false =>
    cases q with
    | nil => simp [gOnes_nil]
    | cons c q => simp [gOnes_end]

/-- the ways -/
def numW (k : Nat) (l : List Int) : List UInt8 := if k = 1 then onesN l else if k = 2 then putR l else if k = 3 then putD 0 l else putT l
def numG (k : Nat) (b : List UInt8) (n : Nat) : Option (List Int) := if k = 1 then gOnes n b else if k = 2 then gtM b n else if k = 3 then gdz n 0 b else getM b n
def txtW (k : Nat) (l : List Tx) : List UInt8 := if k = 5 then plainB l else dictB l
def txtG (k : Nat) (b : List UInt8) (n : Nat) : Option (List Tx) := if k = 5 then textsM b n 40 else dgetM b n 40
theorem numG_is {k : Nat} {b : List UInt8} {n : Nat} {l : List Int} (h : numG k b n = some l) : numW k l = b ∧ l.length = n ∧ ∀ x ∈ l, I64 x := by
  unfold numG at h
  unfold numW
  by_cases h1 : k = 1
  · rw [if_pos h1] at h ⊢; exact gOnes_is n b l h
  · rw [if_neg h1] at h ⊢
    by_cases h2 : k = 2
    · rw [if_pos h2] at h ⊢
      obtain ⟨a1, a2, a3, _⟩ := gtM_is h
      exact ⟨a1, by omega, a3⟩
    · rw [if_neg h2] at h ⊢
      by_cases h3 : k = 3
      · rw [if_pos h3] at h ⊢
        obtain ⟨a1, a2, a3, _⟩ := gdz_is h
        exact ⟨a1, by omega, a3⟩
      · rw [if_neg h3] at h ⊢
        unfold getM at h
        split at h
        · obtain ⟨a1, a2, a3⟩ := getZ_is h
          exact ⟨a1, by omega, a3⟩
        · cases h
theorem txtG_is {k : Nat} {b : List UInt8} {n : Nat} {l : List Tx} (h : txtG k b n = some l) : txtW k l = b ∧ l.length = n := by
  unfold txtG at h
  unfold txtW
  by_cases h1 : k = 5
  · rw [if_pos h1] at h ⊢
    obtain ⟨a1, a2, _⟩ := textsM_is h
    exact ⟨a1, by omega⟩
  · rw [if_neg h1] at h ⊢
    unfold dgetM at h
    split at h
    · cases h
    · obtain ⟨a1, a2, _⟩ := dgetK_is h
      exact ⟨a1, by omega⟩

/-- cells in a way -/
def numC (x : Int) : Cl := ⟨false, x, []⟩
def txtC (t : Tx) : Cl := ⟨false, 0, t⟩
def wayB (k : Nat) (l : List Cl) : List UInt8 := if k ≤ 4 then numW k (l.map Cl.num) else txtW k (l.map Cl.txt)
def wayG (k : Nat) (b : List UInt8) (n : Nat) : Option (List Cl) := if k ≤ 4 then (numG k b n).map (List.map numC) else (txtG k b n).map (List.map txtC)
theorem wayG_is {k : Nat} {b : List UInt8} {n : Nat} {l : List Cl} (h : wayG k b n = some l) : wayB k l = b ∧ l.length = n ∧ ∀ c ∈ l, c.null = false ∧ I64 c.num := by
  unfold wayG at h
  unfold wayB
  by_cases h4 : k ≤ 4
  · rw [if_pos h4] at h ⊢
    cases hg : numG k b n with
    | none => rw [hg] at h; cases h
    | some m =>
      rw [hg] at h
      obtain rfl : m.map numC = l := by simpa using h
      obtain ⟨a1, a2, a3⟩ := numG_is hg
      refine ⟨by rw [List.map_map]; show numW k (m.map id) = b; rw [List.map_id]; exact a1, by rw [List.length_map, a2], fun c hc => ?_⟩
      obtain ⟨x, hx, rfl⟩ := List.mem_map.1 hc
      exact ⟨rfl, a3 x hx⟩
  · rw [if_neg h4] at h ⊢
    cases hg : txtG k b n with
    | none => rw [hg] at h; cases h
    | some m =>
      rw [hg] at h
      obtain rfl : m.map txtC = l := by simpa using h
      obtain ⟨a1, a2⟩ := txtG_is hg
      refine ⟨by rw [List.map_map]; show txtW k (m.map id) = b; rw [List.map_id]; exact a1, by rw [List.length_map, a2], fun c hc => ?_⟩
      obtain ⟨x, hx, rfl⟩ := List.mem_map.1 hc
      exact ⟨rfl, by unfold I64 txtC; simp⟩
/-- the ways of a type -/
def waysOf (ty : Int) : List Nat := if ty = 1 ∨ ty = 2 then [1, 2, 3, 4] else if ty = 3 then [5, 6] else []
theorem waysOf_no {ty : Int} (h1 : ty ≠ 1) (h2 : ty ≠ 2) (h3 : ty ≠ 3) : waysOf ty = [] := by unfold waysOf; rw [if_neg (by omega), if_neg h3]
theorem waysOf_pos (ty : Int) : ∀ k ∈ waysOf ty, 1 ≤ k ∧ k ≤ 6 := by
  unfold waysOf
  split
  · intro k hk; simp at hk; omega
  · split
    · intro k hk; simp at hk; omega
    · intro k hk; simp at hk
theorem waysOf_ty {ty : Int} {k : Nat} (h : k ∈ waysOf ty) : isTy ty = true := by
  unfold waysOf at h
  unfold isTy
  split at h
  · rename_i h1; rcases h1 with rfl | rfl <;> rfl
  · split at h
    · rename_i h3; subst h3; rfl
    · simp at h
/-- cells that may be, and none is null -/
def readC (ty : Int) (k : Nat) (b : List UInt8) (n : Nat) : Option (List Cl) :=
  if k ∈ waysOf ty then (match wayG k b n with | none => none | some l => if l.all (mayC ty false) = true then some l else none) else none
theorem readC_is {ty : Int} {k n : Nat} {b : List UInt8} {l : List Cl} (h : readC ty k b n = some l) : k ∈ waysOf ty ∧ wayG k b n = some l ∧ l.all (mayC ty false) = true := by
  unfold readC at h
  split at h
  · rename_i hk
    split at h
    · cases h
    · rename_i m hm
      split at h
      · rename_i ha
        obtain rfl : m = l := by simpa using h
        exact ⟨hk, hm, ha⟩
      · cases h
  · cases h
theorem readC_no {ty : Int} {k n : Nat} {b : List UInt8} (h : k ∉ waysOf ty) : readC ty k b n = none := by unfold readC; rw [if_neg h]
theorem readC_none {ty : Int} {k n : Nat} {b : List UInt8} (h : wayG k b n = none) : readC ty k b n = none := by unfold readC; rw [h]; simp
theorem readC_bad {ty : Int} {k n : Nat} {b : List UInt8} {l : List Cl} (hg : wayG k b n = some l) (h : l.all (mayC ty false) = false) : readC ty k b n = none := by unfold readC; rw [hg]; simp [h]
theorem readC_yes {ty : Int} {k n : Nat} {b : List UInt8} {l : List Cl} (hk : k ∈ waysOf ty) (hg : wayG k b n = some l) (h : l.all (mayC ty false) = true) : readC ty k b n = some l := by unfold readC; rw [hg]; simp [h, hk]

/-- a null wherever it says so, and the others elsewhere -/
def joinC : List Bool → List Cl → List Cl
  | [], _ => []
  | true :: t, o => ⟨true, 0, []⟩ :: joinC t o
  | false :: t, o => o.headD ⟨false, 0, []⟩ :: joinC t o.tail
theorem joinC_length : ∀ (t : List Bool) (o : List Cl), (joinC t o).length = t.length
  | [], _ => rfl
  | true :: t, o => by rw [joinC, List.length_cons, joinC_length t o]; rfl
  | false :: t, o => by rw [joinC, List.length_cons, joinC_length t o.tail]; rfl
theorem cnt_nil : cnt [] = 0 := rfl
theorem joinC_parts : ∀ (t : List Bool) (o : List Cl), o.length + cnt t = t.length → (∀ c ∈ o, c.null = false) →
    (joinC t o).map Cl.null = t ∧ (joinC t o).filter (fun c => !c.null) = o ∧ ∀ c ∈ joinC t o, c = ⟨true, 0, []⟩ ∨ c ∈ o
  | [], o, h, _ => by
    have : o = [] := List.eq_nil_of_length_eq_zero (by rw [cnt_nil] at h; simpa using h)
    subst this
    exact ⟨rfl, rfl, fun c hc => by simp [joinC] at hc⟩
  | true :: t, o, h, hn => by
    rw [cnt_cons, List.length_cons] at h
    obtain ⟨i1, i2, i3⟩ := joinC_parts t o (by simp at h; omega) hn
    refine ⟨by rw [joinC, List.map_cons, i1], by rw [joinC, List.filter_cons]; simpa using i2, fun c hc => ?_⟩
    rw [joinC] at hc
    rcases List.mem_cons.1 hc with rfl | hc
    · exact .inl rfl
    · exact i3 c hc
  | false :: t, o, h, hn => by
    rw [cnt_cons, List.length_cons] at h
    cases o with
    | nil => have := cnt_le t; simp at h; omega
    | cons d o =>
      obtain ⟨i1, i2, i3⟩ := joinC_parts t o (by simp at h; omega) fun c hc => hn c (by simp [hc])
      have hd := hn d (by simp)
      refine ⟨by rw [joinC, List.map_cons, List.tail_cons, i1]; simp [hd], by rw [joinC, List.filter_cons, List.tail_cons]; simp [hd, i2], fun c hc => ?_⟩
      rw [joinC] at hc
      rcases List.mem_cons.1 hc with rfl | hc
      · exact .inr (by simp)
      · rcases i3 c hc with h | h
        · exact .inl h
        · exact .inr (by simp [h])

/-- what a first byte tells -/
def someN (c : UInt8) : Bool := c.toNat / 8 % 2 == 1
def kindC (c : UInt8) : Nat := if c.toNat < 16 ∧ 1 ≤ c.toNat % 8 ∧ c.toNat % 8 ≤ 6 then c.toNat % 8 else 0
def kindB : List UInt8 → Nat
  | [] => 0
  | c :: _ => kindC c
/-- which of n are null, and what is behind that -/
def openC (b : List UInt8) (n : Nat) : Option (List Bool × List UInt8) :=
  match b with
  | [] => none
  | c :: r => if someN c = false then some (List.replicate n false, r)
    else if need n ≤ r.length ∧ (∀ i, i < 8 * need n → n ≤ i → bitOf (r.take (need n)) i = false) ∧ 0 < cnt (unp (r.take (need n)) n) then some (unp (r.take (need n)) n, r.drop (need n)) else none
def getC (ty : Int) (b : List UInt8) (n : Int) : Option (List Cl) :=
  if n < 0 ∨ 4096 < n then none else
  match openC b n.toNat with
  | none => none
  | some (nulls, r) => (readC ty (kindB b) r (n.toNat - cnt nulls)).map (joinC nulls)
theorem getC_out {ty : Int} {b : List UInt8} {n : Int} (h : n < 0 ∨ 4096 < n) : getC ty b n = none := by unfold getC; rw [if_pos h]
theorem getC_shut {ty : Int} {b : List UInt8} {n : Nat} (h : openC b n = none) : getC ty b n = none := by
  unfold getC
  split
  · rfl
  · rw [Int.toNat_natCast, h]
theorem getC_open {ty : Int} {b r : List UInt8} {n : Nat} {nulls : List Bool} (hn : n ≤ 4096) (h : openC b n = some (nulls, r)) : getC ty b n = (readC ty (kindB b) r (n - cnt nulls)).map (joinC nulls) := by
  unfold getC
  rw [if_neg (by omega), Int.toNat_natCast, h]
theorem cnt_rep (n : Nat) : cnt (List.replicate n false) = 0 := by unfold cnt; simp
theorem openC_length {b r : List UInt8} {n : Nat} {nulls : List Bool} (h : openC b n = some (nulls, r)) : nulls.length = n := by
  unfold openC at h
  split at h
  · cases h
  · split at h
    · simp only [Option.some.injEq, Prod.mk.injEq] at h
      rw [← h.1, List.length_replicate]
    · split at h
      · simp only [Option.some.injEq, Prod.mk.injEq] at h
        rw [← h.1, unp_length]
      · cases h
/-- how many bytes go ahead of the others -/
theorem openC_len {b r : List UInt8} {n : Nat} {nulls : List Bool} (h : openC b n = some (nulls, r)) : b.length = 1 + (if cnt nulls = 0 then 0 else need n) + r.length := by
  unfold openC at h
  split at h
  · cases h
  · split at h
    · simp only [Option.some.injEq, Prod.mk.injEq] at h
      obtain ⟨rfl, rfl⟩ := h
      rw [cnt_rep, if_pos rfl, List.length_cons]; omega
    · split at h
      · rename_i hc
        simp only [Option.some.injEq, Prod.mk.injEq] at h
        obtain ⟨rfl, rfl⟩ := h
        rw [if_neg (by omega), List.length_cons, List.length_drop]; omega
      · cases h

/-- the first of the shortest ways -/
def shortC (l : List Cl) : List Nat → Nat × List UInt8 → Nat × List UInt8
  | [], a => a
  | k :: ks, (n, b) => shortC l ks (if n = 0 ∨ (wayB k l).length < b.length then (k, wayB k l) else (n, b))
theorem shortC_le (l : List Cl) : ∀ (ks : List Nat) (n : Nat) (b : List UInt8), (∀ k ∈ ks, k ≠ 0) → (n ≠ 0 → (shortC l ks (n, b)).2.length ≤ b.length ∧ (shortC l ks (n, b)).1 ≠ 0) ∧ ∀ k ∈ ks, (shortC l ks (n, b)).2.length ≤ (wayB k l).length ∧ (shortC l ks (n, b)).1 ≠ 0
  | [], n, b, _ => ⟨fun hn => ⟨Nat.le_refl _, hn⟩, fun k hk => by simp at hk⟩
  | k :: ks, n, b, h => by
    have hk := h k (by simp)
    have hks : ∀ j ∈ ks, j ≠ 0 := fun j hj => h j (List.mem_cons_of_mem k hj)
    rw [shortC]
    by_cases hc : n = 0 ∨ (wayB k l).length < b.length
    · rw [if_pos hc]
      obtain ⟨i1, i2⟩ := shortC_le l ks k (wayB k l) hks
      have i1 := i1 hk
      refine ⟨fun hn => ⟨by rcases hc with h0 | h0 <;> omega, i1.2⟩, fun j hj => ?_⟩
      rcases List.mem_cons.1 hj with rfl | hj
      · exact i1
      · exact i2 j hj
    · rw [if_neg hc]
      obtain ⟨i1, i2⟩ := shortC_le l ks n b hks
      have hn : n ≠ 0 := fun e => hc (.inl e)
      have i1 := i1 hn
      refine ⟨fun _ => i1, fun j hj => ?_⟩
      rcases List.mem_cons.1 hj with rfl | hj
      · exact ⟨by omega, i1.2⟩
      · exact i2 j hj
def othersC (l : List Cl) : List Cl := l.filter (fun c => !c.null)
def nullsC (l : List Cl) : List Bool := l.map Cl.null
def putC (ty : Int) (l : List Cl) : List UInt8 :=
  if (shortC (othersC l) (waysOf ty) (0, [])).1 = 0 then []
  else if (othersC l).length = l.length then (shortC (othersC l) (waysOf ty) (0, [])).1.toUInt8 :: (shortC (othersC l) (waysOf ty) (0, [])).2
  else ((shortC (othersC l) (waysOf ty) (0, [])).1 + 8).toUInt8 :: (packB (nullsC l) ++ (shortC (othersC l) (waysOf ty) (0, [])).2)

theorem mayC_true {ty : Int} {c : Cl} (h : mayC ty false c = true) : mayC ty true c = true := by
  unfold mayC at h ⊢
  cases hn : c.null <;> simp_all
theorem mayC_nil {ty : Int} (h : isTy ty = true) : mayC ty true ⟨true, 0, []⟩ = true := by
  unfold mayC; simp [h]
theorem getC_is {ty : Int} {b : List UInt8} {n : Int} {x : List Cl} (h : getC ty b n = some x) :
    (x.length : Int) = n ∧ n ≤ 4096 ∧ isTy ty = true ∧ (∀ c ∈ x, mayC ty true c = true ∧ I64 c.num) ∧ 0 < (putC ty x).length ∧ (putC ty x).length ≤ b.length := by
  by_cases hn : n < 0 ∨ 4096 < n
  · rw [getC_out hn] at h; cases h
  · obtain ⟨m, rfl⟩ : ∃ m : Nat, n = (m : Int) := ⟨n.toNat, by omega⟩
    have hm : m ≤ 4096 := by omega
    cases ho : openC b m with
    | none => rw [getC_shut ho] at h; cases h
    | some p =>
      obtain ⟨nulls, r⟩ := p
      rw [getC_open hm ho] at h
      cases hr : readC ty (kindB b) r (m - cnt nulls) with
      | none => rw [hr] at h; cases h
      | some o =>
        rw [hr] at h
        obtain rfl : joinC nulls o = x := by simpa using h
        obtain ⟨hk, hg, ha⟩ := readC_is hr
        obtain ⟨g1, g2, g3⟩ := wayG_is hg
        have hl := openC_length ho
        have hL := openC_len ho
        have hc := cnt_le nulls
        obtain ⟨j1, j2, j3⟩ := joinC_parts nulls o (by omega) fun c hc => (g3 c hc).1
        have hty := waysOf_ty hk
        have hs := (shortC_le o (waysOf ty) 0 [] fun k hk => by have := waysOf_pos ty k hk; omega).2 _ hk
        rw [g1] at hs
        have e1 : othersC (joinC nulls o) = o := j2
        have e2 : nullsC (joinC nulls o) = nulls := j1
        refine ⟨by rw [joinC_length, hl], by omega, hty, fun c hc => ?_, ?_⟩
        · rcases j3 c hc with rfl | h
          · exact ⟨mayC_nil hty, by unfold I64; simp⟩
          · exact ⟨mayC_true (List.all_eq_true.1 ha c h), (g3 c h).2⟩
        · unfold putC
          rw [e1, e2, if_neg hs.2, joinC_length, hL]
          split
          · exact ⟨by simp, by rw [List.length_cons]; omega⟩
          · rename_i hne
            refine ⟨by simp, ?_⟩
            rw [List.length_cons, List.length_append, packB_length, hl, if_neg (by omega)]
            omega
end Go.Proofs.YtemfmnjhmmlmbaaGreat


namespace Go.Proofs.YtemfmnjhmmlmbaaGreat
set_option linter.unusedVariables false
set_option linter.unusedSimpArgs false
set_option maxRecDepth 100000
open Go.RowKit

theorem Fr.at3 {w w' : World} {a : Addr} {c : Cl} (hf : Fr Non w w') (h : At3 w a c) : At3 w' a c :=
  h.keep (hf.block _ (World.block_lt_of_cell? w _ h.c0) (fun e => e))
/-- as a walk spells them -/
theorem At3.lit {w : World} {a : Addr} {c : Cl} (h : At3 w a c) : w.cell? a = some (.bool c.null) ∧ w.cell? { block := a.block, off := a.off + 1 } = some (.int .i64 c.num) ∧ w.cell? { block := a.block, off := a.off + 2 } = some (.string ⟨c.txt.toArray⟩) := ⟨h.c0, h.c1, h.c2⟩
theorem all_take {f : Cl → Bool} {l : List Cl} {k : Nat} (h : k < l.length) (h1 : (l.take k).all f = true) : (l.take (k + 1)).all f = f l[k] := by
  rw [List.take_succ_eq_append_getElem h, List.all_append, h1]; simp
theorem all_false {f : Cl → Bool} {l : List Cl} {k : Nat} (h : k < l.length) (h1 : f l[k] = false) : l.all f = false :=
  List.all_eq_false.2 ⟨l[k], List.getElem_mem h, by simp [h1]⟩

set_option maxHeartbeats 2000000 in
theorem mayL_any (ty : Int) (nl : Bool) (v : Value) (l : List Cl) (w : World) (hv : Cs w v l) (hl : l.length ≤ 1000000) :
    Calls Tryz.prog 19 #[.int .i64 ty, .bool nl, v] w fun e w' => e = .returned (.bool (l.all (mayC ty nl))) ∧ Fr Non w w' := by
  obtain ⟨A, c, rfl, hlc, hn, hcell⟩ := hv
  have HC := Lib.hid hcell
  have HN := Lib.hid hn
  clear hcell hn
  go_enter Tryz.func19, Tryz.ntmps19
  go_wp2
  go_loopw [11] (fun i wr => ∃ (k : Nat), k ≤ l.length ∧ i = .int .i64 k ∧ (l.take k).all (mayC ty nl) = true ∧ Fr Non w wr) (fun i _ => l.length - (intOf i).toNat)
  case atStart => exact ⟨0, Nat.zero_le _, rfl, rfl, Fr.refl _ _⟩
  case round =>
    obtain ⟨k, hk, rfl, hall, hfr⟩ := hrel
    have HA := Lib.hid hall
    clear hall
    by_cases hlt : k < l.length
    · cases A with
      | none => have := HN.out rfl; omega
      | some a =>
        obtain ⟨hc0, hc1, hc2⟩ := (hfr.at3 (HC.out a rfl k hlt)).lit
        have HT := Lib.hid (all_take hlt HA.out)
        have HF := Lib.hid (fun h => all_false (f := mayC ty nl) hlt h)
        clear HA
        generalize l[k] = x at *
        obtain ⟨xn, xi, xt⟩ := x
        go_wp2_with fail
        refine (may_any ty nl ⟨xn, xi, xt⟩ _).mono ?_
        rintro e w4 ⟨rfl, hf4⟩
        have hf5 := (hfr.alloc _).trans hf4
        cases hM : mayC ty nl ⟨xn, xi, xt⟩
        · have HF2 := HF.out hM
          go_wp2
          go_ret
          exact ⟨ret_boolE HF2.symm, hf5⟩
        · have HT2 := Lib.hid (HT.out.trans hM)
          clear HT HF
          go_wp2
          go_roundw
          case rel => exact ⟨k + 1, by omega, by go_num, HT2.out, hf5⟩
          case measure => simp [intOf]; omega
    · obtain rfl : k = l.length := by omega
      have HA2 := HA.out
      rw [List.take_length] at HA2
      go_wp2
      go_ret
      exact ⟨ret_boolE HA2.symm, hfr⟩

/-- the nulls of the first k of l laid -/
def partN (l : List Cl) (k : Nat) : List Bool := nullsC (l.take k) ++ List.replicate (l.length - k) false
theorem partN_zero (l : List Cl) : partN l 0 = List.replicate l.length false := by simp [partN, nullsC]
theorem partN_all (l : List Cl) : partN l l.length = nullsC l := by simp [partN]
theorem partN_length (l : List Cl) {k : Nat} (h : k ≤ l.length) : (partN l k).length = l.length := by simp [partN, nullsC]; omega
theorem rep_at {α : Type} (D : List α) (m : Nat) (z : α) (h : 0 < m) : (D ++ List.replicate m z)[D.length]? = some z := by
  rw [List.getElem?_append_right (Nat.le_refl _), Nat.sub_self, List.getElem?_replicate, if_pos h]
theorem rep_set {α : Type} (D : List α) (m : Nat) (z x : α) (h : 0 < m) : (D ++ List.replicate m z).set D.length x = (D ++ [x]) ++ List.replicate (m - 1) z := by
  obtain ⟨q, rfl⟩ : ∃ q, m = q + 1 := ⟨m - 1, by omega⟩
  rw [List.set_append_right _ _ (Nat.le_refl _), Nat.sub_self, List.replicate_succ, List.set_cons_zero]; simp
theorem nullsC_take (l : List Cl) (k : Nat) (h : k < l.length) : nullsC (l.take (k + 1)) = nullsC (l.take k) ++ [l[k].null] := by
  unfold nullsC; rw [List.take_succ_eq_append_getElem h, List.map_append]; rfl
theorem nullsC_len (l : List Cl) {k : Nat} (h : k ≤ l.length) : (nullsC (l.take k)).length = k := by simp [nullsC]; omega
theorem partN_at (l : List Cl) {k : Nat} (h : k < l.length) : (partN l k)[k]? = some false := by
  have := rep_at (nullsC (l.take k)) (l.length - k) false (by omega)
  rw [nullsC_len l (by omega)] at this; exact this
theorem partN_step (l : List Cl) {k : Nat} (h : k < l.length) : (partN l k).set k l[k].null = partN l (k + 1) := by
  have := rep_set (nullsC (l.take k)) (l.length - k) false l[k].null (by omega)
  rw [nullsC_len l (by omega)] at this
  unfold partN
  rw [this, nullsC_take l k h, show l.length - k - 1 = l.length - (k + 1) by omega]
theorem othersC_yes (l : List Cl) {k : Nat} (h : k < l.length) (hn : l[k].null = false) : othersC (l.take (k + 1)) = othersC (l.take k) ++ [l[k]] := by
  unfold othersC; rw [List.take_succ_eq_append_getElem h, List.filter_append]; simp [hn]
theorem othersC_no (l : List Cl) {k : Nat} (h : k < l.length) (hn : l[k].null = true) : othersC (l.take (k + 1)) = othersC (l.take k) := by
  unfold othersC; rw [List.take_succ_eq_append_getElem h, List.filter_append]; simp [hn]
theorem othersC_le (l : List Cl) : (othersC l).length ≤ l.length := List.length_filter_le _ _
theorem cell_ne_bool : 33 ≠ 4 := by decide
/-- a row of cells and a row of another type are apart -/
theorem oc_other {α : Type} {f : α → Value} {E : TypeId} {w : World} {B B' : Nat} {v u : Value} {l : List Cl} {m : List α} (h : Oc w B v l) (h' : Ow f E w B' u m) (hne : 33 ≠ E) : ∀ k, v.ownBlock = some k → u.ownBlock ≠ some k := by
  intro k hk hu
  obtain ⟨c1, e1⟩ := h.kind k hk
  obtain ⟨c2, e2⟩ := h'.kind k hu
  rw [e1] at e2
  simp at e2
  exact hne e2.2

set_option maxHeartbeats 2000000 in
theorem part_any (v : Value) (l : List Cl) (w : World) (hv : Cs w v l) (hl : l.length ≤ 1000000) :
    Calls Tryz.prog 20 #[v] w fun e w' => ∃ u o, e = .returned (.tuple #[u, o]) ∧ Ow tv 4 w' w.heap.size u (nullsC l) ∧ Oc w' w.heap.size o (othersC l) ∧ Fr Non w w' := by
  obtain ⟨A, c, rfl, hlc, hn, hcell⟩ := hv
  have HC := Lib.hid hcell
  have HN := Lib.hid hn
  clear hcell hn
  go_enter Tryz.func20, Tryz.ntmps20
  go_wp2_with (at_make; refine wpList_mkfullG el_bool false rfl rfl _ _ rfl _ _ _ _ l.length rfl rfl rfl rfl (by omega) ?_; intro w2 hown2 hfr2)
  rw [← partN_zero] at hown2
  generalize hg : w.heap.size = g at *
  have hgl := Nat.le_of_eq hg
  clear hg
  go_loopw [5, 13] (fun o i wr => ∃ (k : Nat), k ≤ l.length ∧ i = .int .i64 k ∧ w.heap.size ≤ g ∧ Ow tv 4 wr g (.slice (some ⟨g, 0, none⟩) l.length l.length) (partN l k) ∧ Oc wr g o (othersC (l.take k)) ∧ Fr Non w wr) (fun o i _ => l.length - (intOf i).toNat)
  case atStart => exact ⟨0, Nat.zero_le _, rfl, hgl, hown2, oc_nil _ _, hfr2⟩
  case round =>
    clear hown2 hfr2
    obtain ⟨k, hk, rfl, hgl2, hN, hO, hfr⟩ := hrel
    have HO := Lib.hid hO
    clear hO
    by_cases hlt : k < l.length
    · cases A with
      | none => have := HN.out rfl; omega
      | some a =>
        obtain ⟨hc0, hc1, hc2⟩ := (hfr.at3 (HC.out a rfl k hlt)).lit
        have hle := othersC_le (l.take k)
        rw [List.length_take, Nat.min_eq_left hk] at hle
        have hpl := partN_length l hk
        have HY := Lib.hid (othersC_yes l hlt)
        have HX := Lib.hid (othersC_no l hlt)
        have HS := Lib.hid (partN_step l hlt)
        have hcb := hN.cell hpl.symm k _ (partN_at l hlt)
        have hfb := hN.frozen hpl.symm k
        have HNN := Lib.hid hN
        clear hN
        have hbk : g < wr.heap.size := (HNN.out.lt g rfl).2
        have K1 := Lib.hid (show ∀ X : Obj, Ow tv 4 ((wr.setCell ⟨g, k, none⟩ (.bool l[k].null)).alloc X) g (.slice (some ⟨g, 0, none⟩) l.length l.length) (partN l (k + 1)) ∧ Oc ((wr.setCell ⟨g, k, none⟩ (.bool l[k].null)).alloc X) g u5 (othersC (l.take k)) ∧ Fr Non w ((wr.setCell ⟨g, k, none⟩ (.bool l[k].null)).alloc X) from fun X => by
          refine ⟨?_, ?_, ?_⟩
          · rw [← HS.out]; exact (HNN.out.store hpl.symm k l[k].null).alloc X
          · exact (HO.out.fr (((Fr.refl (One g) _)).set1 k _) (fun q hq e => oc_other HO.out HNN.out cell_ne_bool q hq (by rw [show q = g from e]; rfl))).alloc X
          · exact (hfr.fresh ((Fr.refl (One g) _).set1 k _) (fun q e => by have : q = g := e; omega)).alloc X)
        generalize l[k] = x at *
        obtain ⟨xn, xi, xt⟩ := x
        cases xn
        · obtain ⟨k1, k2, k3⟩ := K1.out (.cells #[.bool false, .int .i64 xi, .string ⟨xt.toArray⟩] 33)
          have HY2 := Lib.hid (HY.out rfl)
          have hB := k3.size
          have k1 := Lib.hid k1
          have k3 := Lib.hid k3
          clear HX HS HY K1 HNN
          go_wp2_with (at_builtin; refine wpList_pushC rfl (.tmp 26) (.tmp 28) rfl g _ _ rfl k2 ⟨false, xi, xt⟩ _ _ _ rfl rfl rfl _ rfl (by simp) (by omega) (by simp; omega) ?_; intro v6 w6 hown6 hf6)
          have hn6 := k1.out.fr hf6 (fun q hq e => oc_other k2 k1.out cell_ne_bool q e hq)
          have hfr6 := k3.out.fresh hf6 (fun q hq => by have := (k2.lt q hq).1; omega)
          go_roundw
          case rel => exact ⟨k + 1, by omega, by go_num, hgl2, hn6, by rw [HY2.out]; exact hown6, hfr6⟩
          case measure => simp [intOf]; omega
        · obtain ⟨k1, k2, k3⟩ := K1.out (.cells #[.bool true, .int .i64 xi, .string ⟨xt.toArray⟩] 33)
          have HX2 := Lib.hid (HX.out rfl)
          have k1 := Lib.hid k1
          have k2 := Lib.hid k2
          have k3 := Lib.hid k3
          clear HX HS HY K1 HNN
          go_wp2_with (fail)
          go_roundw
          case rel => exact ⟨k + 1, by omega, by go_num, hgl2, k1.out, by rw [HX2.out]; exact k2.out, k3.out⟩
          case measure => simp [intOf]; omega
    · obtain rfl : k = l.length := by omega
      have hO := HO.out
      rw [partN_all] at hN
      rw [List.take_length] at hO
      go_wp2
      go_ret2
      exact ⟨_, _, rfl, hN.mono hgl2, hO.mono hgl2, hfr⟩

theorem elem_cl : Tryz.prog.elem 24 = 33 := by kernel_rfl
theorem size_cl (w : World) : (sizeOf (Tryz.prog.elem 24)).run Tryz.prog w = .ok 3 w := by kernel_rfl
/-- 's[k:]' of cells -/
theorem slice_loC (A : Option Addr) (n c k : Nat) (y : Int) (hy : y = (k : Int)) (hk : k ≤ n) (hn : n ≤ c) :
    ∃ A' c', (∀ W, (Instr.slice 24 (.slice A n c) (some (.int .i64 y)) none none).run Tryz.prog W = .ok (.slice A' (n - k) c') W) ∧
      (∀ W (l : List Cl), l.length = n → Cs W (.slice A n c) l → Cs W (.slice A' (n - k) c') (l.drop k)) := by
  subst hy
  refine ⟨if c = k then A else A.map (·.add (k * 3)), c - k, fun W => ?_, ?_⟩
  · rw [run_slice_any W _ A n c (by rw [elem_cl]; exact Tryz.underlying24)]
    have hb : (Instr.sliceBounds true n c (some (.int .i64 (k : Int))) none none).run Tryz.prog W = .ok (k, n, c) W := by
      simp [Instr.sliceBounds, run_sliceBound, hk, hn]
    rw [hb]
    simp only [Result.andThen_ok, size_cl]
    simp [sliced]
  · rintro W l hl ⟨A0, c0, he, h1, h2, h3⟩
    simp only [Value.slice.injEq] at he
    obtain ⟨rfl, hl', rfl⟩ := he
    refine ⟨if c = k then A else A.map (·.add (k * 3)), c - k, by rw [List.length_drop, hl], by rw [List.length_drop]; omega, fun e => ?_, fun a ha j hj => ?_⟩
    · split at e
      · omega
      · have := h2 (by simpa using e); omega
    · rw [List.length_drop] at hj
      rw [if_neg (by omega)] at ha
      cases A with
      | none => cases ha
      | some b =>
        obtain rfl : b.add (k * 3) = a := by simpa using ha
        have h := h3 b rfl (k + j) (by omega)
        rw [add_add, show k * 3 + j * 3 = (k + j) * 3 by omega]
        simpa using h
/-- 's[1:]', the first element, as a walk spells them -/
theorem slice_oneC {w : World} {x : Cl} {q : List Cl} {v : Value} (h : Cs w v (x :: q)) :
    ∃ aq cq Aq' cq', v = .slice (some aq) (q.length + 1) cq ∧ (∀ W, (Instr.slice 24 (.slice (some aq) (q.length + 1) cq) (some (.int .i64 1)) none none).run Tryz.prog W = .ok (.slice Aq' q.length cq') W) ∧
      Cs w (.slice Aq' q.length cq') q ∧ At3 w aq x := by
  obtain ⟨Aq, cq, rfl⟩ := h.shape
  obtain ⟨aq, rfl, _, hcq, h3⟩ := h.addr (by simp)
  obtain ⟨Aq', cq', hsl, hcs⟩ := slice_loC (some aq) (x :: q).length cq 1 1 rfl (by simp) hcq
  exact ⟨aq, cq, Aq', cq', rfl, hsl, hcs w (x :: q) rfl h, h3 0 (by simp)⟩
theorem Fr.cs {w w' : World} {v : Value} {l : List Cl} (hf : Fr Non w w') (h : Cs w v l) : Cs w' v l := h.non hf
theorem cnt_drop (t : List Bool) (k : Nat) (h : k < t.length) : cnt (t.drop k) = t[k].toNat + cnt (t.drop (k + 1)) := by
  rw [List.drop_eq_getElem_cons h, cnt_cons]
theorem joinC_drop (t : List Bool) (k : Nat) (o : List Cl) (h : k < t.length) : joinC (t.drop k) o = (if t[k] then ⟨true, 0, []⟩ :: joinC (t.drop (k + 1)) o else o.headD ⟨false, 0, []⟩ :: joinC (t.drop (k + 1)) o.tail) := by
  rw [List.drop_eq_getElem_cons h]
  cases t[k] <;> simp [joinC]
/-- where a join stands: D is laid, o is to come -/
def Joi (t : List Bool) (o0 : List Cl) (k : Nat) (D o : List Cl) : Prop := D.length = k ∧ joinC t o0 = D ++ joinC (t.drop k) o ∧ o.length + cnt (t.drop k) = t.length - k
theorem joi_zero (t : List Bool) (o : List Cl) (h : o.length + cnt t = t.length) : Joi t o 0 [] o := ⟨rfl, by simp, by simpa using h⟩
theorem joi_yes {t : List Bool} {o0 D o : List Cl} {k : Nat} (h : Joi t o0 k D o) (hk : k < t.length) (ht : t[k] = true) : Joi t o0 (k + 1) (D ++ [⟨true, 0, []⟩]) o := by
  obtain ⟨h1, h2, h3⟩ := h
  rw [cnt_drop t k hk, ht] at h3
  rw [joinC_drop t k o hk, ht, if_pos rfl] at h2
  exact ⟨by simp [h1], by rw [h2]; simp, by simp at h3; omega⟩
theorem joi_no {t : List Bool} {o0 D o : List Cl} {k : Nat} (h : Joi t o0 k D o) (hk : k < t.length) (ht : t[k] = false) : ∃ x o', o = x :: o' ∧ Joi t o0 (k + 1) (D ++ [x]) o' := by
  obtain ⟨h1, h2, h3⟩ := h
  have hc := cnt_le (t.drop (k + 1))
  rw [List.length_drop] at hc
  rw [cnt_drop t k hk, ht] at h3
  rw [joinC_drop t k o hk, ht] at h2
  cases o with
  | nil => simp at h3; omega
  | cons x o' => exact ⟨x, o', rfl, by simp [h1], by rw [h2]; simp, by simp at h3; omega⟩
theorem joi_all {t : List Bool} {o0 D o : List Cl} (h : Joi t o0 t.length D o) : joinC t o0 = D := by
  rw [h.2.1, List.drop_length]; simp [joinC]
set_option maxHeartbeats 4000000 in
theorem join_cl (v1 v2 : Value) (t : List Bool) (o : List Cl) (w : World) (h1 : Vs tv w v1 t) (h2 : Cs w v2 o) (hl : t.length ≤ 1000000) (hc : o.length + cnt t = t.length) :
    Calls Tryz.prog 14 #[v1, v2] w fun e w' => ∃ u, e = .returned u ∧ Oc w' w.heap.size u (joinC t o) ∧ Fr Non w w' := by
  obtain ⟨A, c, rfl, hlc, hn, hcell⟩ := h1
  have HC := Lib.hid hcell
  have HN := Lib.hid hn
  have H2 := Lib.hid h2
  have H0 := Lib.hid (joi_zero t o hc)
  clear hcell hn h2 hc
  go_enter Tryz.func14, Tryz.ntmps14
  go_wp2_with (at_make; refine wpList_mkC rfl _ _ rfl _ _ _ _ t.length rfl rfl rfl rfl (by omega) ?_; intro w2 hown2 hfr2)
  generalize hg : w.heap.size = g at *
  have hgl := Nat.le_of_eq hg
  clear hg
  have HS := Lib.hid hgl
  go_loopw [1, 13] (fun v i wr => ∃ (k : Nat) (D q : List Cl), k ≤ t.length ∧ i = .int .i64 k ∧ Joi t o k D q ∧ Cs w v q ∧ Oc wr g (.slice (some ⟨g, 0, none⟩) t.length t.length) (D ++ List.replicate (t.length - k) ⟨false, 0, []⟩) ∧ Fr Non w wr) (fun v i _ => t.length - (intOf i).toNat)
  case atStart => exact ⟨0, [], o, Nat.zero_le _, rfl, H0.out, H2.out, hown2, hfr2⟩
  case round =>
    clear hown2 hfr2
    obtain ⟨k, D, q, hk, rfl, hJ, hQ, hO, hfr⟩ := hrel
    have HJ := Lib.hid hJ
    have HO := Lib.hid hO
    clear hJ hO
    by_cases hlt : k < t.length
    · cases A with
      | none => have := HN.out rfl; omega
      | some a =>
        have hct := (hfr.cell (World.block_lt_of_cell? w _ (HC.out a rfl k hlt)) (fun e => e)).trans (HC.out a rfl k hlt)
        unfold tv at hct
        have hD := HJ.out.1
        have hlen : t.length = (D ++ List.replicate (t.length - k) (⟨false, 0, []⟩ : Cl)).length := by simp; omega
        have hat : (D ++ List.replicate (t.length - k) (⟨false, 0, []⟩ : Cl))[k]? = some ⟨false, 0, []⟩ := by
          have := rep_at D (t.length - k) (⟨false, 0, []⟩ : Cl) (by omega)
          rw [hD] at this; exact this
        have hset : ∀ x : Cl, (D ++ List.replicate (t.length - k) (⟨false, 0, []⟩ : Cl)).set k x = (D ++ [x]) ++ List.replicate (t.length - (k + 1)) ⟨false, 0, []⟩ := fun x => by
          have := rep_set D (t.length - k) (⟨false, 0, []⟩ : Cl) x (by omega)
          rw [hD, show t.length - k - 1 = t.length - (k + 1) by omega] at this; exact this
        obtain ⟨e0, e1, e2⟩ := HO.out.el hlen k _ hat
        have f0 := HO.out.frozen hlen (k * 3)
        have f1 := HO.out.frozen hlen (k * 3 + 1)
        have f2 := HO.out.frozen hlen (k * 3 + 2)
        have hgw : g < wr.heap.size := (HO.out.lt g rfl).2
        have HL := Lib.hid hlen
        have HAt := Lib.hid hat
        have HSet := Lib.hid hset
        have HQ := Lib.hid hQ
        clear hlen hat hset hD hQ
        cases hx : t[k] with
        | true =>
          have HJ2 := Lib.hid (joi_yes HJ.out hlt hx)
          rw [hx] at hct
          clear hx
          go_wp2_with fail
          have hO2 := HO.out.put0 HL.out k _ HAt.out true
          rw [HSet.out] at hO2
          have hfr2 := hfr.fresh ((Fr.refl (One g) wr).set1 (k * 3) (.bool true)) (fun q e => by have : q = g := e; have := HS.out; omega)
          go_roundw
          case rel => exact ⟨k + 1, _, _, by omega, by go_num, HJ2.out, HQ.out, hO2, hfr2⟩
          case measure => simp [intOf]; omega
        | false =>
          obtain ⟨x, q', rfl, hJ2⟩ := joi_no HJ.out hlt hx
          have HJ2 := Lib.hid hJ2
          rw [hx] at hct
          clear hx hJ2
          obtain ⟨aq, cq, Aq', cq', rfl, hsl, hq2, hat3⟩ := slice_oneC HQ.out
          have HQ2 := Lib.hid hq2
          obtain ⟨q0, q1, q2⟩ := (hfr.at3 hat3).lit
          clear hat3 hq2
          have hO2 := HO.out.put3 HL.out k (by rw [← HL.out]; exact hlt) x
          rw [HSet.out] at hO2
          have HO2 := Lib.hid hO2
          have hfr2 := Lib.hid (hfr.fresh ((((Fr.refl (One g) wr).set1 (k * 3) (.bool x.null)).set1 (k * 3 + 1) (.int .i64 x.num)).set1 (k * 3 + 2) (.string ⟨x.txt.toArray⟩)) (fun q e => by have : q = g := e; have := HS.out; omega))
          clear hO2 HQ
          obtain ⟨xn, xi, xt⟩ := x
          go_wp2_with fail
          go_region
          go_wp2_with fail
          go_roundw
          case rel => exact ⟨k + 1, _, _, by omega, by go_num, HJ2.out, HQ2.out, HO2.out.drew, hfr2.out.drew⟩
          case measure => simp [intOf]; omega
    · obtain rfl : k = t.length := by omega
      have hO := HO.out
      rw [Nat.sub_self, List.replicate_zero, List.append_nil, ← joi_all HJ.out] at hO
      go_wp2
      go_ret
      exact ⟨_, rfl, hO.mono HS.out, hfr⟩
end Go.Proofs.YtemfmnjhmmlmbaaGreat


namespace Go.Proofs.YtemfmnjhmmlmbaaGreat
set_option linter.unusedVariables false
set_option linter.unusedSimpArgs false
set_option maxRecDepth 100000
open Go.RowKit

theorem el_i64 : El 65 2 (.int .i64 0) 8 := ⟨Tryz.underlying65, by kernel_rfl, rfl, by decide, by kernel_rfl, fun _ => by kernel_rfl⟩

theorem drop_cons {α : Type} (l : List α) (k : Nat) (h : k < l.length) : l.drop k = l[k] :: l.drop (k + 1) := List.drop_eq_getElem_cons h

set_option maxHeartbeats 1000000 in
theorem run_any (v : Value) (l : List Int) (x : Int) (r : List Int) (he : l = x :: r) (w : World) (hv : Vs iv w v l) (hl : l.length ≤ 1000000) :
    Calls Tryz.prog 68 #[v] w fun e w' => e = .returned (.int .i64 ((runN x r : Nat) + 1 : Int)) ∧ Fr Non w w' := by
  obtain ⟨A, c, rfl, hlc, hn, hcell⟩ := hv
  have hpos : 0 < l.length := by rw [he]; simp
  cases A with
  | none => have := hn rfl; omega
  | some a =>
    have HC := Lib.hid (hcell a rfl)
    have g0 : w.cell? a = some (.int .i64 x) := by
      have := hcell a rfl 0 hpos
      simpa [Addr.add, he, iv] using this
    have HR : Hid (∀ k, 1 ≤ k → (h : k < l.length) → r[k - 1]? = some l[k]) := Lib.hid (by
      intro k hk h
      subst he
      cases k with
      | zero => omega
      | succ k => simp at h ⊢)
    have hrl := runN_le x r
    have HL : Hid (l.length = r.length + 1) := Lib.hid (by rw [he]; rfl)
    have hrl2 : runN x r + 1 ≤ l.length := by have := HL.out; omega
    clear hcell hn he
    have HA := Lib.hid (runN_at x r)
    have HE := Lib.hid (runN_end x r)
    clear hrl
    generalize runN x r = q at *
    go_enter Tryz.func68, Tryz.ntmps68
    go_wp2
    go_loopw [3] (fun i wr => ∃ k : Nat, 1 ≤ k ∧ k ≤ q + 1 ∧ i = .int .i64 k ∧ ∃ n, wr = w.drewN n) (fun i _ => l.length - (intOf i).toNat)
    case atStart => exact ⟨1, Nat.le_refl _, by omega, rfl, 0, rfl⟩
    case round =>
      obtain ⟨k, hk1, hk, rfl, n, rfl⟩ := hrel
      by_cases hlt : k < l.length
      · have g1 : w.cell? (a.add k) = some (iv l[k]) := HC.out k hlt
        have hr := Lib.hid (HR.out k hk1 hlt)
        unfold iv at g1
        by_cases hx : l[k] = x
        · rw [hx] at g1
          have hkq : k ≤ q := by
            rcases Nat.lt_or_ge k (q + 1) with h | h
            · omega
            · exfalso
              have h1 := HE.out
              have h2 := hr.out
              rw [show k - 1 = q by omega, hx] at h2
              exact h1 h2
          have hxx : (x == x) = true := by simp
          clear hx hr
          go_wp2
          go_quiet (fail)
          go_wp2
          go_roundw
          case rel => exact ⟨k + 1, by omega, by omega, by go_num, _, rfl⟩
          case measure => simp [intOf]; omega
        · have hxx : (l[k] == x) = false := by rw [beq_eq_false_iff_ne]; exact hx
          have hkq : k = q + 1 := by
            rcases Nat.lt_or_ge k (q + 1) with h | h
            · exfalso
              have h1 := HA.out (k - 1) (by omega)
              have h2 := hr.out
              rw [h1] at h2
              exact hx (by simpa using h2.symm)
            · omega
          have HK := Lib.hid hkq
          clear hx hr hkq
          generalize l[k] = y at *
          go_wp2
          go_quiet (fail)
          go_wp2
          go_ret
          exact ⟨ret_int (by rw [HK.out]; push_cast; rfl), ((Fr.refl _ _).drewN _).drewN _⟩
      · have hd : decide ((k : Int) < l.length) = false := by simp; omega
        have hkq : k = q + 1 := by omega
        have HK := Lib.hid hkq
        clear hkq
        go_wp2
        go_quiet (fail)
        go_wp2
        go_ret
        exact ⟨ret_int (by rw [HK.out]; push_cast; rfl), ((Fr.refl _ _).drewN _).drewN _⟩

set_option maxHeartbeats 2000000 in
theorem rnput_any (v : Value) (l : List Int) (w : World) (hv : Vs iv w v l) (hl : l.length ≤ 1000000) (hx : ∀ x ∈ l, I64 x) :
    Calls Tryz.prog 41 #[v] w fun e w' => ∃ u, e = .returned u ∧ Own w' w.heap.size u (putR l) ∧ Fr Non w w' := by
  have HV := Lib.hid hv
  obtain ⟨A, c, rfl, hlc, hn, hcell⟩ := hv
  have HC := Lib.hid hcell
  have HN := Lib.hid hn
  have HX := Lib.hid hx
  clear hcell hn hx
  go_enter Tryz.func41, Tryz.ntmps41
  go_wp2
  go_loopw [3, 4] (fun b i wr => ∃ (k : Nat) (bs : List UInt8), k ≤ l.length ∧ i = .int .i64 k ∧ Hid (putR l = bs ++ putR (l.drop k)) ∧ bs.length ≤ 20 * k ∧ Own wr w.heap.size b bs ∧ Fr Non w wr) (fun _ i _ => l.length - (intOf i).toNat)
  case atStart => exact ⟨0, [], Nat.zero_le _, rfl, Lib.hid (by simp), by simp, own_nil _ _, Fr.refl _ _⟩
  case round =>
    obtain ⟨k, bs, hk, rfl, HP, hbs, hown, hfr⟩ := hrel
    by_cases hlt : k < l.length
    · cases A with
      | none => have := HN.out rfl; omega
      | some a =>
        have hc0 := HC.out a rfl k hlt
        have hdr := drop_cons l k hlt
        have hxx := HX.out l[k] (List.getElem_mem hlt)
        obtain ⟨A', c', hrun, hsl, hob⟩ := slice_loG el_i64 (some a) l.length c k .i64 (k : Int) rfl (by omega) hlc
        have HS := Lib.hid (hsl iv wr l rfl (HV.out.non hfr))
        clear hsl hob
        generalize l[k] = x at *
        have hP := HP.out
        rw [hdr, putR_cons] at hP
        have hrl := runN_le x (l.drop (k + 1))
        rw [List.length_drop] at hrl
        have hdd : (l.drop (k + 1)).drop (runN x (l.drop (k + 1))) = l.drop (k + (runN x (l.drop (k + 1)) + 1)) := by rw [List.drop_drop]; congr 1; omega
        rw [hdd] at hP
        have HP2 := Lib.hid hP
        have HD := Lib.hid hdr
        have hrunl := fun w' (h : Vs iv w' (.slice A' (l.length - k) c') (l.drop k)) => run_any _ (l.drop k) x (l.drop (k + 1)) HD.out w' h (by rw [List.length_drop]; omega)
        have HRun := Lib.hid hrunl
        unfold iv at hc0
        clear hP hdr hdd HP hrunl
        generalize runN x (l.drop (k + 1)) = q at *
        go_wp2_with fail
        refine (HRun.out _ HS.out).mono ?_
        rintro e w1 ⟨rfl, hf1⟩
        have hfr1 := hfr.trans hf1
        go_wp2_with fail
        refine (vnum_any q w1 (by unfold two64; omega)).mono ?_
        rintro e w2 ⟨v2, rfl, hown2, hf2⟩
        have hl10 : (Lib.uvarint q).length ≤ 10 := Lib.uvarint_length64 (by omega)
        have hfr2 := hfr1.trans hf2
        have hB2 := hfr2.size
        go_wp2_with (at_builtin; refine wpList_app rfl (.tmp 14) (.tmp 18) rfl w.heap.size u3 v2 bs (Lib.uvarint q) rfl (hown.non (hf1.trans hf2)) rfl hown2.bs (by omega) hB2 ?_; intro v3 w3 hown3 hf3; have hfr3 := hfr2.fresh hf3 (fun k hk => (hown.lt k hk).1); have hc3 := (hfr3.cell (World.block_lt_of_cell? w _ hc0) (fun e => e)).trans hc0)
        refine (vint_any x w3 hxx.1 hxx.2).mono ?_
        rintro e w4 ⟨v4, rfl, hown4, hf4⟩
        have hz10 := uvarint_zig10 hxx
        have hfr4 := hfr3.trans hf4
        have hB4 := hfr4.size
        go_wp2_with (at_builtin; refine wpList_app rfl (.tmp 20) (.tmp 25) rfl w.heap.size v3 v4 (bs ++ Lib.uvarint q) (Lib.uvarint (zig x)) rfl (hown3.non hf4) rfl hown4.bs (by rw [List.length_append]; omega) hB4 ?_; intro v5 w5 hown5 hf5; have hfr5 := hfr4.fresh hf5 (fun k hk => (hown3.lt k hk).1))
        go_roundw
        case rel => exact ⟨k + (q + 1), bs ++ Lib.uvarint q ++ Lib.uvarint (zig x), by omega, by go_num, Lib.hid (by rw [HP2.out]; unfold oneR; simp [List.append_assoc]), by simp only [List.length_append]; omega, hown5, hfr5⟩
        case measure => simp [intOf]; omega
    · obtain rfl : k = l.length := by omega
      have hP := HP.out
      rw [List.drop_length, putR_nil, List.append_nil] at hP
      have HP2 := Lib.hid hP
      clear hP
      go_wp2
      go_ret
      exact ⟨_, rfl, by rw [HP2.out]; exact hown, hfr⟩
end Go.Proofs.YtemfmnjhmmlmbaaGreat


namespace Go.Proofs.YtemfmnjhmmlmbaaGreat
set_option linter.unusedVariables false
set_option linter.unusedSimpArgs false
set_option maxRecDepth 100000
open Go.RowKit

/-- what Get answers: nothing and false, or the numbers and true -/
def Gtn (w : World) (B : Nat) (o : Option (List Int)) (e : Ending) : Prop :=
  (o = none ∧ e = .returned (.tuple #[.slice none 0 0, .bool false])) ∨ (∃ l u, o = some l ∧ e = .returned (.tuple #[u, .bool true]) ∧ Ow iv 2 w B u l)
theorem gtn_no {w : World} {B : Nat} {o : Option (List Int)} (h : o = none) : Gtn w B o (.returned (.tuple #[.slice none 0 0, .bool false])) := .inl ⟨h, rfl⟩
theorem gtn_yes {w : World} {B : Nat} {o : Option (List Int)} {l : List Int} {u : Value} (h : o = some l) (hu : Ow iv 2 w B u l) : Gtn w B o (.returned (.tuple #[u, .bool true])) := .inr ⟨l, u, h, rfl, hu⟩

set_option maxHeartbeats 4000000 in
theorem rnget_any (v : Value) (b : List UInt8) (n : Int) (w : World) (hv : Bs w v b) (hl : b.length ≤ 1000000000) (h1 : -9223372036854775808 ≤ n) (h2 : n ≤ 9223372036854775807) :
    Calls Tryz.prog 42 #[v, .int .i64 n] w fun e w' => Gtn w' w.heap.size (gtM b n) e ∧ Fr Non w w' := by
  have HV := Lib.hid hv
  obtain ⟨A, c, rfl, _⟩ := hv
  by_cases hn0 : n < 0
  · have hd : decide (n < 0) = true := by simpa using hn0
    have HN := Lib.hid hn0
    clear hn0
    go_enter Tryz.func42, Tryz.ntmps42
    go_wp2
    go_step3
    go_wp2
    try rw [Exit.noGoto_ret]
    go_ret2
    exact ⟨gtn_no (by have := HN.out; unfold gtM gtz; rw [if_pos (by omega), if_pos this]), Fr.refl _ _⟩
  · by_cases hn4 : 4096 < n
    · have hd : decide (n < 0) = false := by simpa using hn0
      have hd4 : decide (4096 < n) = true := by simpa using hn4
      go_enter Tryz.func42, Tryz.ntmps42
      go_wp2
      go_step3
      go_wp2
      try rw [Exit.noGoto_ret]
      go_ret2
      exact ⟨gtn_no (by unfold gtM; rw [if_neg (by omega)]), Fr.refl _ _⟩
    · obtain ⟨m, rfl⟩ := Int.eq_ofNat_of_zero_le (show 0 ≤ n by omega)
      have HG := Lib.hid (show gtM b m = gtz b m none by unfold gtM; rw [if_pos (by omega)])
      have hd : decide ((m : Int) < 0) = false := by simp
      have hd4 : decide (4096 < (m : Int)) = false := by simpa using hn4
      clear h1 h2
      go_enter Tryz.func42, Tryz.ntmps42
      go_wp2
      go_step3
      go_wp2_with fail
      refine (from_any _ b w HV.out).mono ?_
      rintro e w1 ⟨rfl, s1, f1⟩
      have hg1 := s1.1.lt
      go_wp2_with (at_make; refine wpList_mkG iv el_i64 rfl _ _ rfl _ _ _ m rfl rfl rfl (by omega) ?_; intro v2 w2 hown2 hfr2)
      go_step3
      go_wp2
      have s2 := s1.fr hfr2 (fun e => e)
      have f2 := f1.trans hfr2
      have hB := hfr2.size
      clear s1 f1 hfr2
      generalize hW : w1.heap.size = B at *
      generalize hgg : w.heap.size = g at *
      have HW := Lib.hid hgg
      clear hW hgg
      go_loopw [7] (fun x wr => ∃ (r : List UInt8) (o : List Int), Ow iv 2 wr B x o ∧ o.length ≤ m ∧ Src wr g r false ∧ Hid (gtz b m none = (gtz r ((m : Int) - o.length) o.getLast?).map (o ++ ·)) ∧ B ≤ wr.heap.size ∧ Fr Non w wr) (fun x _ => m - slLen x)
      case atStart => exact ⟨b, [], hown2, by simp, s2, Lib.hid (by simp), hB, f2⟩
      case round =>
        obtain ⟨r, o, hown, hom, hs, HI, hBr, hfr⟩ := hrel
        have HO := Lib.hid hown
        have HF := Lib.hid hfr
        obtain ⟨A1, c1, rfl⟩ := hown.shape
        clear hown hfr hown2 s2 f2
        have HIo := HI.out
        generalize hol : o.length = ol at *
        have HL := Lib.hid hol
        clear hol HI
        by_cases hlt : ol < m
        · have hcalc : ((m : Int) - ol - 1) = ((m - ol - 1 : Nat) : Int) := by omega
          have hne : r = [] ∨ r ≠ [] := by cases r <;> simp
          cases hx : nxR r (m - ol - 1) with
          | none =>
            have HR : Hid (gtz b m none = none) := Lib.hid (by
              rw [HIo]
              rcases hne with rfl | hne
              · rw [gtz_none (by omega)]; rfl
              · rw [gtz_bad hne (by omega) hx]; rfl)
            have hfe := step_none hx hcalc
            clear hx hcalc hne HIo
            go_wp2_with fail
            refine (below_any g r false ((m : Int) - ol) wr hs (by omega)).mono ?_
            rintro e w3 ⟨rfl, s3, f3⟩
            generalize mostV r ((m : Int) - ol - 1) = mv at *
            go_wp2_with fail
            refine (sint_any g _ _ w3 s3).mono ?_
            rintro e w4 ⟨rfl, s4, f4⟩
            rw [hfe] at s4
            generalize unzig (fstN (mostR r ((m : Int) - ol - 1))) = mz at *
            clear hfe s3
            have hf4 := (HF.out.fresh (f3.trans f4) (fun k e => by have : k = g := e; have := HW.out; omega))
            clear f3 f4
            go_wp2_with fail
            refine (ok_any g _ true w4 s4).mono ?_
            rintro e w5 ⟨rfl, rfl⟩
            go_wp2_with fail
            refine (end_any g _ true w4 s4).mono ?_
            rintro e w5 ⟨rfl, rfl⟩
            go_wp2
            try rw [Exit.noGoto_ret]
            go_ret2
            exact ⟨gtn_no (HG.out.trans HR.out), hf4⟩
          | some y =>
            obtain ⟨k, x, q⟩ := y
            obtain ⟨e1, e2, e3, e4, hkm, hxx⟩ := step_some hx hcalc
            have hb0 := below_any g r false ((m : Int) - ol) wr hs (by omega)
            rw [e1] at hb0
            have hi0 : ∀ w3, Src w3 g (mostR r ((m : Int) - ol - 1)) (mostB r ((m : Int) - ol - 1)) →
                Calls Tryz.prog 66 #[ptr g] w3 fun e w' => e = .returned (.int .i64 x) ∧ Src w' g q false ∧ Fr (One g) w3 w' := by
              intro w3 s3
              have := sint_any g _ _ w3 s3
              rwa [e2, e3, e4] at this
            have HI0 := Lib.hid hi0
            have HX := Lib.hid hx
            clear e1 e2 e3 e4 hi0 hcalc hne hx
            cases hla : o.getLast? with
            | none =>
              have hol : o = [] := by simpa using hla
              have h0 : ol = 0 := by rw [← HL.out, hol]; rfl
              have hw1 := HW.out
              have HIN : Hid (gtz b m none = (gtz q ((m : Int) - ol - ((k : Int) + 1)) (some x)).map (o ++ List.replicate (k + 1) x ++ ·)) := Lib.hid (by
                rw [HIo, gtz_more HX.out (by omega) (by rw [hla]; simp), more_app])
              subst h0
              clear hol
              clear HIo hla
              go_wp2_with fail
              refine hb0.mono ?_
              rintro e w3 ⟨rfl, s3, f3⟩
              go_wp2_with fail
              refine (HI0.out w3 s3).mono ?_
              rintro e w4 ⟨rfl, s4, f4⟩
              have f34 := f3.trans f4
              have hB4 := Nat.le_trans hBr f34.size
              have hf4 := (HF.out.fresh f34 (fun k e => by have : k = g := e; omega))
              have hown4 := HO.out.fr f34 (fun k hk e => by have h1 := (HO.out.lt k hk).1; have : k = g := e; omega)
              clear f3 f4 s3 f34
              go_wp2_with fail
              refine (ok_any g _ false w4 s4).mono ?_
              rintro e w5 ⟨rfl, rfl⟩
              go_wp2
              go_loopw [7, 54] (fun u i wx => ∃ j : Nat, j ≤ k + 1 ∧ i = .int .i64 j ∧ Ow iv 2 wx B u (o ++ List.replicate j x) ∧ Src wx g q false ∧ B ≤ wx.heap.size ∧ Fr Non w wx) (fun _ i _ => k + 1 - (intOf i).toNat)
              case atStart => exact ⟨0, Nat.zero_le _, rfl, by simpa using hown4, s4, hB4, hf4⟩
              case round =>
                clear hown4 s4 hf4 hB4
                obtain ⟨j, hj, rfl, hown, hs, hBx, hfr⟩ := hrel
                by_cases hlj : j < k + 1
                · have HLen : Hid ((o ++ List.replicate j x).length < 1099511627776) := Lib.hid (by rw [List.length_append, HL.out, List.length_replicate]; omega)
                  have HS := Lib.hid (show o ++ List.replicate j x ++ [x] = o ++ List.replicate (j + 1) x by rw [List.replicate_succ', List.append_assoc])
                  go_wp2_with (at_builtin; refine wpList_pushG el_i64 iv_oneC rfl (.tmp 56) (.tmp 58) rfl B _ (o ++ List.replicate j x) rfl hown _ x rfl rfl HLen.out hBx ?_; intro v5 w5 hown5 hf5)
                  have hf5n := hfr.fresh hf5 (fun q hq => by have := (hown.lt q hq).1; have := HW.out; omega)
                  go_roundw
                  case rel => exact ⟨j + 1, by omega, by go_num, by rw [← HS.out]; exact hown5, hs.fr hf5 (fun e => by have := (hown.lt _ e).1; omega), Nat.le_trans hBx hf5.size, hf5n⟩
                  case measure => simp [intOf]; omega
                · obtain rfl : j = k + 1 := by omega
                  have hsl := slLen_vs hown.vs
                  rw [List.length_append, HL.out, List.length_replicate] at hsl
                  go_wp2
                  go_roundw
                  case rel => exact ⟨q, o ++ List.replicate (k + 1) x, hown, by rw [List.length_append, HL.out, List.length_replicate]; omega, hs, Lib.hid (by rw [HIN.out, last_more, List.length_append, HL.out, List.length_replicate]; congr 2; push_cast; omega), hBx, hfr⟩
                  case measure => rw [hsl]; simp [slLen]; omega
            | some y =>
              obtain ⟨t, ht, hyt⟩ := last_at hla
              have hot : ol = t + 1 := by rw [← HL.out]; exact ht
              have hcl : ∃ g2, A1 = some ⟨g2, 0, none⟩ ∧ B ≤ g2 ∧ g2 < wr.heap.size ∧ wr.cell? ⟨g2, t, none⟩ = some (.int .i64 y) := by
                obtain ⟨g2, cap, he, h1, h2, _⟩ := HO.out.row (by omega)
                simp only [Value.slice.injEq] at he
                obtain ⟨rfl, _, _⟩ := he
                exact ⟨g2, rfl, h1, h2, HO.out.cell HL.out.symm t y hyt⟩
              obtain ⟨g2, rfl, hg2, hg2s, hc2⟩ := hcl
              subst hot
              have hw1 := HW.out
              clear ht hyt
              by_cases hyx : y = x
              · have HR : Hid (gtz b m none = none) := Lib.hid (by
                  rw [HIo, gtz_same HX.out (by push_cast; omega) (by rw [hla, hyx])]; rfl)
                have hb : (y == x) = true := by simp [hyx]
                clear HIo hla hyx
                go_wp2_with fail
                refine hb0.mono ?_
                rintro e w3 ⟨rfl, s3, f3⟩
                go_wp2_with fail
                refine (HI0.out w3 s3).mono ?_
                rintro e w4 ⟨rfl, s4, f4⟩
                have f34 := f3.trans f4
                have hc4 := (f34.cell (p := ⟨g2, t, none⟩) hg2s (fun e => by have : g2 = g := e; omega)).trans hc2
                have hf4 := (HF.out.fresh f34 (fun k e => by have : k = g := e; omega))
                clear f3 f4 s3 hc2
                go_wp2_with fail
                refine (ok_any g _ false w4 s4).mono ?_
                rintro e w5 ⟨rfl, rfl⟩
                go_wp2_with fail
                refine (fail_any g _ _ w4 s4).mono ?_
                rintro e w6 ⟨rfl, s6, f6⟩
                have hf6 := (hf4.fresh f6 (fun k e => by have : k = g := e; omega))
                go_wp2_with fail
                refine (end_any g _ true w6 s6).mono ?_
                rintro e w5 ⟨rfl, rfl⟩
                go_wp2
                try rw [Exit.noGoto_ret]
                go_ret2
                exact ⟨gtn_no (HG.out.trans HR.out), hf6⟩
              · have HIN : Hid (gtz b m none = (gtz q ((m : Int) - (t + 1 : Nat) - ((k : Int) + 1)) (some x)).map (o ++ List.replicate (k + 1) x ++ ·)) := Lib.hid (by
                  rw [HIo, gtz_more HX.out (by push_cast; omega) (by rw [hla]; simpa using hyx), more_app])
                have hb : (y == x) = false := by simpa using hyx
                clear HIo hla hyx
                go_wp2_with fail
                refine hb0.mono ?_
                rintro e w3 ⟨rfl, s3, f3⟩
                go_wp2_with fail
                refine (HI0.out w3 s3).mono ?_
                rintro e w4 ⟨rfl, s4, f4⟩
                have f34 := f3.trans f4
                have hc4 := (f34.cell (p := ⟨g2, t, none⟩) hg2s (fun e => by have : g2 = g := e; omega)).trans hc2
                clear hc2
                have hB4 := Nat.le_trans hBr f34.size
                have hf4 := (HF.out.fresh f34 (fun k e => by have : k = g := e; omega))
                have hown4 := HO.out.fr f34 (fun k hk e => by have h1 := (HO.out.lt k hk).1; have : k = g := e; omega)
                clear f3 f4 s3 f34
                go_wp2_with fail
                refine (ok_any g _ false w4 s4).mono ?_
                rintro e w5 ⟨rfl, rfl⟩
                go_wp2
                go_loopw [7, 54] (fun u i wx => ∃ j : Nat, j ≤ k + 1 ∧ i = .int .i64 j ∧ Ow iv 2 wx B u (o ++ List.replicate j x) ∧ Src wx g q false ∧ B ≤ wx.heap.size ∧ Fr Non w wx) (fun _ i _ => k + 1 - (intOf i).toNat)
                case atStart => exact ⟨0, Nat.zero_le _, rfl, by simpa using hown4, s4, hB4, hf4⟩
                case round =>
                  clear hown4 s4 hf4 hB4
                  obtain ⟨j, hj, rfl, hown, hs, hBx, hfr⟩ := hrel
                  by_cases hlj : j < k + 1
                  · have HLen : Hid ((o ++ List.replicate j x).length < 1099511627776) := Lib.hid (by rw [List.length_append, HL.out, List.length_replicate]; omega)
                    have HS := Lib.hid (show o ++ List.replicate j x ++ [x] = o ++ List.replicate (j + 1) x by rw [List.replicate_succ', List.append_assoc])
                    go_wp2_with (at_builtin; refine wpList_pushG el_i64 iv_oneC rfl (.tmp 56) (.tmp 58) rfl B _ (o ++ List.replicate j x) rfl hown _ x rfl rfl HLen.out hBx ?_; intro v5 w5 hown5 hf5)
                    have hf5n := hfr.fresh hf5 (fun q hq => by have := (hown.lt q hq).1; have := HW.out; omega)
                    go_roundw
                    case rel => exact ⟨j + 1, by omega, by go_num, by rw [← HS.out]; exact hown5, hs.fr hf5 (fun e => by have := (hown.lt _ e).1; omega), Nat.le_trans hBx hf5.size, hf5n⟩
                    case measure => simp [intOf]; omega
                  · obtain rfl : j = k + 1 := by omega
                    have hsl := slLen_vs hown.vs
                    rw [List.length_append, HL.out, List.length_replicate] at hsl
                    go_wp2
                    go_roundw
                    case rel => exact ⟨q, o ++ List.replicate (k + 1) x, hown, by rw [List.length_append, HL.out, List.length_replicate]; omega, hs, Lib.hid (by rw [HIN.out, last_more, List.length_append, HL.out, List.length_replicate]; congr 2; push_cast; omega), hBx, hfr⟩
                    case measure => rw [hsl]; simp [slLen]; omega
        · obtain rfl : ol = m := by omega
          rw [Int.sub_self] at HIo
          cases r with
          | nil =>
            have HR : Hid (gtz b ol none = some o) := Lib.hid (by rw [HIo, gtz_nil]; simp)
            clear HIo
            go_wp2_with fail
            refine (end_any g _ false wr hs).mono ?_
            rintro e w5 ⟨rfl, rfl⟩
            go_wp2
            try rw [Exit.noGoto_ret]
            go_ret2
            exact ⟨gtn_yes (HG.out.trans HR.out) (HO.out.mono (by have := HW.out; omega)), HF.out⟩
          | cons r0 r =>
            have HR : Hid (gtz b ol none = none) := Lib.hid (by rw [HIo, gtz_end (by simp)]; rfl)
            clear HIo
            go_wp2_with fail
            refine (end_any g _ false wr hs).mono ?_
            rintro e w5 ⟨rfl, rfl⟩
            go_wp2
            try rw [Exit.noGoto_ret]
            go_ret2
            exact ⟨gtn_no (HG.out.trans HR.out), HF.out⟩
end Go.Proofs.YtemfmnjhmmlmbaaGreat


namespace Go.Proofs.YtemfmnjhmmlmbaaGreat
set_option linter.unusedVariables false
set_option linter.unusedSimpArgs false
set_option maxRecDepth 100000
open Go.RowKit

theorem w6_wrap64 (n : Int) : wrap64 n = w6 n := by unfold wrap64 w6; rfl

theorem ow_other {α : Type} {f : α → Value} {E t : TypeId} {w : World} {B g : Nat} {v : Value} {l : List α} {cs : Array Value} (h : Ow f E w B v l) (hb : Blk w g t cs) (hne : E ≠ t) : ∀ k, v.ownBlock = some k → k ≠ g := by
  rintro k hk rfl
  obtain ⟨cur, h1⟩ := h.kind k hk
  unfold Blk at hb
  rw [hb] at h1
  simp at h1
  exact hne h1.2.symm

theorem lessAhead_any (w : World) : Calls Tryz.prog 72 #[] w fun e w' => e = .returned (.func (.func 97) #[] #[ptr w.heap.size]) ∧ Blk w' w.heap.size 2 #[iv 0] ∧ Fr Non w w' := by
  have hmf : ∀ (fn : Fn) (first cap : Array Value) (w : World), (Instr.makeFunc fn first cap).run Tryz.prog w = .ok (.func fn first cap) w := fun _ _ _ _ => rfl
  go_enter Tryz.func72, Tryz.ntmps72
  go_wp2
  go_ret
  exact ⟨rfl, Blk.new _ _ _, (Fr.refl _ _).alloc _⟩

theorem plusAhead_any (w : World) : Calls Tryz.prog 73 #[] w fun e w' => e = .returned (.func (.func 98) #[] #[ptr w.heap.size]) ∧ Blk w' w.heap.size 2 #[iv 0] ∧ Fr Non w w' := by
  have hmf : ∀ (fn : Fn) (first cap : Array Value) (w : World), (Instr.makeFunc fn first cap).run Tryz.prog w = .ok (.func fn first cap) w := fun _ _ _ _ => rfl
  go_enter Tryz.func73, Tryz.ntmps73
  go_wp2
  go_ret
  exact ⟨rfl, Blk.new _ _ _, (Fr.refl _ _).alloc _⟩

theorem less_any (g : Nat) (x a : Int) (w : World) (h : Blk w g 2 #[iv a]) :
    Calls Tryz.prog 97 #[.int .i64 x, ptr g] w fun e w' => e = .returned (.int .i64 (w6 (x - a))) ∧ Blk w' g 2 #[iv x] ∧ Fr (One g) w w' := by
  have hc0 : w.cell? ⟨g, 0, none⟩ = some (.int .i64 a) := h.cell 0
  have hf0 := h.frozen 0
  go_enter Tryz.func97, Tryz.ntmps97
  go_wp2
  go_ret
  exact ⟨ret_int (w6_wrap64 _), h.set 0 _, (Fr.refl _ _).set1 0 _⟩

theorem plus_any (g : Nat) (x a : Int) (w : World) (h : Blk w g 2 #[iv a]) :
    Calls Tryz.prog 98 #[.int .i64 x, ptr g] w fun e w' => e = .returned (.int .i64 (w6 (a + x))) ∧ Blk w' g 2 #[iv (w6 (a + x))] ∧ Fr (One g) w w' := by
  have hc0 : w.cell? ⟨g, 0, none⟩ = some (.int .i64 a) := h.cell 0
  have hf0 := h.frozen 0
  go_enter Tryz.func98, Tryz.ntmps98
  go_wp2
  go_ret
  exact ⟨ret_int (w6_wrap64 _), by rw [← w6_wrap64]; exact h.set 0 _, (Fr.refl _ _).set1 0 _⟩

theorem lastD_take (a : Int) (l : List Int) (k : Nat) (h : k < l.length) : lastD a (l.take (k + 1)) = l[k] := by
  unfold lastD
  rw [List.take_succ_eq_append_getElem h, List.getLast?_concat]; rfl
theorem putD_take (l : List Int) (k : Nat) (h : k < l.length) : putD 0 (l.take (k + 1)) = putD 0 (l.take k) ++ Lib.uvarint (zig (w6 (l[k] - lastD 0 (l.take k)))) := by
  rw [List.take_succ_eq_append_getElem h, putD_app]; simp [putD_cons, putD_nil]
theorem u8_ne_i64 : 5 ≠ 2 := by decide

set_option maxHeartbeats 2000000 in
theorem dput_any (v : Value) (l : List Int) (w : World) (hv : Vs iv w v l) (hl : l.length ≤ 1000000) :
    Calls Tryz.prog 43 #[v] w fun e w' => ∃ u, e = .returned u ∧ Own w' w.heap.size u (putD 0 l) ∧ Fr Non w w' := by
  obtain ⟨A, c, rfl, hlc, hn, hcell⟩ := hv
  have HC := Lib.hid hcell
  have HN := Lib.hid hn
  clear hcell hn
  go_enter Tryz.func43, Tryz.ntmps43
  go_wp2_with (at_make; refine wpList_mkbytes rfl _ _ rfl _ _ _ l.length rfl rfl rfl (by omega) ?_; intro v2 w2 hown2 hfr2)
  refine (lessAhead_any w2).mono ?_
  rintro e w3 ⟨rfl, hb3, hfr3⟩
  have hown3 := hown2.non hfr3
  have hf3 := hfr2.trans hfr3
  have hg2 := hfr2.size
  clear hown2 hfr2 hfr3
  generalize hgg : w2.heap.size = g at *
  clear hgg
  go_wp2
  go_loopw [3, 13] (fun b i wr => ∃ (k : Nat), k ≤ l.length ∧ i = .int .i64 k ∧ Own wr w.heap.size b (putD 0 (l.take k)) ∧ Blk wr g 2 #[iv (lastD 0 (l.take k))] ∧ Fr Non w wr) (fun _ i _ => l.length - (intOf i).toNat)
  case atStart => exact ⟨0, Nat.zero_le _, rfl, hown3, hb3, hf3⟩
  case round =>
    clear hown3 hb3 hf3
    obtain ⟨k, hk, rfl, hown, hb, hfr⟩ := hrel
    by_cases hlt : k < l.length
    · cases A with
      | none => have := HN.out rfl; omega
      | some a =>
        have hc0 := (hfr.cell (World.block_lt_of_cell? w _ (HC.out a rfl k hlt)) (fun e => e)).trans (HC.out a rfl k hlt)
        unfold iv at hc0
        have HT := Lib.hid (putD_take l k hlt)
        have HL := Lib.hid (lastD_take 0 l k hlt)
        have hpl := putD_len (l.take k) 0
        have hlk : (l.take k).length = k := by rw [List.length_take]; omega
        rw [hlk] at hpl
        clear hlk
        generalize l[k] = x at *
        generalize lastD 0 (l.take k) = d at *
        generalize putD 0 (l.take k) = bs at *
        have HO := Lib.hid hown
        have HB := Lib.hid hb
        clear hown hb
        have hx64 := w6_i64 (x - d)
        go_wp2_with fail
        refine (less_any g x d wr HB.out).mono ?_
        rintro e w4 ⟨rfl, hb4, hf4⟩
        have hown4 := HO.out.fr hf4 (fun q hq e => ow_other HO.out.ow HB.out u8_ne_i64 q hq e)
        have hfr4 := hfr.fresh hf4 (fun q e => by have : q = g := e; omega)
        go_wp2_with fail
        refine (vint_any _ w4 hx64.1 hx64.2).mono ?_
        rintro e w5 ⟨v5, rfl, hown5, hf5⟩
        have hz10 := uvarint_zig10 hx64
        have hfr5 := hfr4.trans hf5
        have hB5 := hfr5.size
        have hb5 := hb4.fr hf5 (fun e => e)
        have hown5' := hown4.non hf5
        generalize Lib.uvarint (zig (w6 (x - d))) = y at *
        go_wp2_with (at_builtin; refine wpList_app rfl (.tmp 17) (.tmp 21) rfl w.heap.size u3 v5 bs y rfl hown5' rfl hown5.bs (by omega) hB5 ?_; intro v6 w6_ hown6 hf6)
        have hb6 := hb5.fr hf6 (fun e => ow_other hown5'.ow hb5 u8_ne_i64 g e rfl)
        have hfr6 := hfr5.fresh hf6 (fun k hk => (hown5'.lt k hk).1)
        go_roundw
        case rel => exact ⟨k + 1, by omega, by go_num, by rw [HT.out]; exact hown6, by rw [HL.out]; exact hb6, hfr6⟩
        case measure => simp [intOf]; omega
    · obtain rfl : k = l.length := by omega
      rw [List.take_length] at hown
      go_wp2
      go_ret
      exact ⟨_, rfl, hown, hfr⟩

end Go.Proofs.YtemfmnjhmmlmbaaGreat


namespace Go.Proofs.YtemfmnjhmmlmbaaGreat
set_option linter.unusedVariables false
set_option linter.unusedSimpArgs false
set_option maxRecDepth 100000
open Go.RowKit

/-- the document's source in block g; its bytes lie outside the blocks of S, g among them -/
def SAt (w : World) (g : Nat) (S : Nat → Prop) (l : List UInt8) (bad : Bool) : Prop :=
  ∃ v, Blk w g 68 #[v, .bool bad] ∧ Bs w v l ∧ (∀ k, v.ownBlock = some k → ¬ S k) ∧ S g ∧ (bad = true → l = [])

theorem SAt.fr {S S' : Nat → Prop} {w w' : World} {g : Nat} {l : List UInt8} {bad : Bool} (h : SAt w g S l bad) (hf : Fr S' w w') (hn : ¬ S' g) (hs : ∀ k, S' k → S k) : SAt w' g S l bad := by
  obtain ⟨v, h1, h2, h3, h4, h5⟩ := h
  exact ⟨v, h1.fr hf hn, h2.fr hf fun k hk e => h3 k hk (hs k e), h3, h4, h5⟩

theorem rfail_any (g : Nat) (S : Nat → Prop) (l : List UInt8) (bad : Bool) (w : World) (h : SAt w g S l bad) :
    Calls Tryz.prog 89 #[ptr g] w fun e w' => e = .returned (.tuple #[]) ∧ SAt w' g S [] true ∧ Fr (One g) w w' := by
  obtain ⟨v, h1, h2, h3, h4, h5⟩ := h
  have hc0 := h1.cell 0
  have hc1 := h1.cell 1
  have hf0 := h1.frozen 0
  have hf1 := h1.frozen 1
  have HB := Lib.hid h1
  simp at hc0 hc1
  clear h1 h2 h3 h5
  go_enter Tryz.func89, Tryz.ntmps89
  go_wp2
  go_end0
  refine ⟨rfl, ⟨.slice none 0 0, ?_, Bs.nil_ _, (fun k hk => by cases hk), h4, fun _ => rfl⟩, ((Fr.refl _ _).set1 _ _).set1 _ _⟩
  exact (HB.out.set 1 _).set 0 _

theorem SAt.step {w : World} {g : Nat} {S : Nat → Prop} {l l' : List UInt8} {bad : Bool} {v v' : Value} (hB : Blk w g 68 #[v, .bool bad]) (h3 : ∀ k, v.ownBlock = some k → ¬ S k) (h4 : S g)
    (h5 : bad = true → l = []) (hne : l ≠ []) (hbs : Bs w v' l') (hown : v'.ownBlock = v.ownBlock) : SAt (w.setCell ⟨g, 0, none⟩ v') g S l' false := by
  obtain rfl : bad = false := by cases bad with | true => exact absurd (h5 rfl) hne | false => rfl
  have hn : ∀ k, v'.ownBlock = some k → ¬ S k := fun k hk => h3 k (by rw [← hown]; exact hk)
  exact ⟨v', hB.set 0 _, hbs.fr ((Fr.refl (One g) w).set1 0 v') (fun k hk e => hn k hk (by rw [show k = g from e]; exact h4)), hn, h4, fun h => by cases h⟩

theorem or_sum {k acc x : Nat} (hk : k ≤ 9) (ha : acc < 128 ^ k) (hx : x < 128) (h9 : k = 9 → x ≤ 1) :
    IntKind.u64.wrap ((acc : Int) + IntKind.u64.wrap ((x : Int) * 2 ^ (7 * k))) = ((acc + x * 128 ^ k : Nat) : Int) := by
  have hle : (128 : Nat) ^ k ≤ 128 ^ 9 := Nat.pow_le_pow_right (by decide) hk
  rw [pow128_9] at hle
  have hlt : acc + x * 128 ^ k < 18446744073709551616 := by
    by_cases h : k = 9
    · subst h
      have := h9 rfl
      rw [pow128_9] at ha ⊢
      clear hle
      omega
    · have hle8 : (128 : Nat) ^ k ≤ 128 ^ 8 := Nat.pow_le_pow_right (by decide) (by omega)
      rw [pow128_8] at hle8
      have := Nat.mul_le_mul (show x ≤ 127 by omega) hle8
      omega
  rw [pow27, show ((x : Int) * ((128 ^ k : Nat) : Int)) = ((x * 128 ^ k : Nat) : Int) by push_cast; rfl, IntWalk.u64_in ((x * 128 ^ k : Nat) : Int) ⟨by omega, by omega⟩, IntWalk.u64_in _ ⟨by omega, by omega⟩]
  omega

set_option maxHeartbeats 1000000 in
set_option maxRecDepth 20000 in
theorem rsnum_any (g : Nat) (S : Nat → Prop) (l : List UInt8) (bad : Bool) (w : World) (h : SAt w g S l bad) (hl : l.length < 1000000000) :
    Calls Tryz.prog 58 #[ptr g] w fun e w' => e = .returned (.int .u64 (fstN l)) ∧ SAt w' g S (rest l) (fell l) ∧ Fr (One g) w w' := by
  have hfail := rfail_any g S l bad w h
  obtain ⟨v, h1, h2, h3, h4, h5⟩ := h
  have HBs := Lib.hid h2
  have H3 := Lib.hid h3
  obtain ⟨A, cap, rfl, hcap, hA, hcells⟩ := h2
  have hc0 := h1.cell 0
  have hf0 := h1.frozen 0
  have HB := Lib.hid h1
  have H5 := Lib.hid h5
  simp at hc0
  clear h1 h3 h5
  go_enter Tryz.func58, Tryz.ntmps58
  go_wp2
  go_loop [3, 4] (fun n i => ∃ k acc : Nat, k ≤ 9 ∧ k ≤ l.length ∧ i = .int .i64 k ∧ n = .int .u64 acc ∧ acc < 128 ^ k ∧ rd 0 0 l = rd k acc (l.drop k)) (fun _ i => l.length - (intOf i).toNat)
  case atStart => exact ⟨0, 0, by omega, by omega, rfl, rfl, by decide, by simp⟩
  case round =>
    obtain ⟨k, acc, hk9, hk, rfl, rfl, hacc, hrd⟩ := hrel
    by_cases hlt : k < l.length
    · obtain ⟨c, hc⟩ : ∃ c, l[k] = c := ⟨_, rfl⟩
      rw [drop_at hlt hc] at hrd
      cases A with
      | none => exact absurd (hA rfl) (by omega)
      | some a =>
        have hcell := hcells a rfl k hlt
        rw [hc] at hcell
        unfold bv at hcell
        clear hc hcells hA
        have hc256 : c.toNat < 256 := c.toNat_lt
        by_cases hbad : (k = 9 ∧ 1 < c.toNat) ∨ (0 < k ∧ c.toNat = 0)
        · have HN := Lib.hid (rest_none (hrd.trans (rd_bad hbad)))
          clear hrd hacc
          by_cases c0 : c.toNat = 0
          · obtain rfl : c = 0 := by apply UInt8.toNat_inj.1; simpa using c0
            have b1 : 0 < k := by rcases hbad with ⟨_, hb2⟩ | ⟨hb1, _⟩ <;> omega
            simp at hcell
            clear c0 hbad hc256
            by_cases b9 : 9 ≤ k
            all_goals
              go_wp2_with fail
              refine hfail.mono ?_
              rintro e w2 ⟨rfl, hs2, hf2⟩
              go_wp2
              go_ret
              rw [HN.out.1, HN.out.2.1, HN.out.2.2.1]
              exact ⟨rfl, hs2, hf2⟩
          · have b1 : 9 ≤ k := by omega
            have b2 : 1 < c.toNat := by omega
            clear c0 hbad
            go_wp2_with fail
            refine hfail.mono ?_
            rintro e w2 ⟨rfl, hs2, hf2⟩
            go_wp2
            go_ret
            rw [HN.out.1, HN.out.2.1, HN.out.2.2.1]
            exact ⟨rfl, hs2, hf2⟩
        · have hS := or_sum (x := c.toNat % 128) hk9 hacc (by omega) (by omega)
          rw [show ((c.toNat % 128 : Nat) : Int) = (c.toNat : Int) % 128 by omega] at hS
          by_cases c0 : c.toNat = 0
          · have HN := Lib.hid (rest_some (hrd.trans (rd_last hbad (by omega))))
            obtain rfl : c = 0 := by apply UInt8.toNat_inj.1; simpa using c0
            obtain rfl : k = 0 := by omega
            obtain rfl : acc = 0 := by omega
            obtain ⟨A', c', hrun, hbs', hown'⟩ := slice_lo (some a) l.length cap (0 + 1) .i64 1 (by omega) (by omega) hcap
            have HSL := Lib.hid (SAt.step (l' := l.drop (0 + 1)) HB.out H3.out h4 H5.out (by intro e; subst e; simp at hlt) (hbs' w l rfl HBs.out) hown')
            simp [Addr.add] at hcell
            clear c0 hbad hc256 hS hrd hacc hbs' hown'
            go_wp2_with fail
            go_ret
            rw [HN.out.1, HN.out.2.1, HN.out.2.2.1]
            exact ⟨by simp, HSL.out, (Fr.refl _ _).set1 _ _⟩
          · have b1 : 0 < c.toNat := by omega
            have b2 : ((c.toNat : Int) == 0) = false := by rw [beq_eq_false_iff_ne]; omega
            by_cases b3 : c.toNat < 128
            · have HN := Lib.hid (rest_some (hrd.trans (rd_last hbad b3)))
              by_cases b9 : k = 9
              · subst b9
                obtain ⟨A', c', hrun, hbs', hown'⟩ := slice_lo (some a) l.length cap (9 + 1) .i64 10 (by omega) (by omega) hcap
                have HSL := Lib.hid (SAt.step (l' := l.drop (9 + 1)) HB.out H3.out h4 H5.out (by intro e; subst e; simp at hlt) (hbs' w l rfl HBs.out) hown')
                have b4 : c.toNat ≤ 1 := by omega
                have HE := Lib.hid (show acc + c.toNat % 128 * 128 ^ 9 = acc + c.toNat * 128 ^ 9 by rw [show c.toNat % 128 = c.toNat by omega])
                rw [show (2 : Int) ^ (7 * 9) = 9223372036854775808 by decide, IntWalk.u64_in ((c.toNat : Int) % 128 * 9223372036854775808) ⟨by omega, by omega⟩] at hS
                simp [Addr.add] at hcell
                clear hbad c0 hrd hacc hbs' hown'
                go_wp2_with fail
                all_goals
                  go_ret
                  rw [HN.out.1, HN.out.2.1, HN.out.2.2.1, ← HE.out]
                  exact ⟨rfl, HSL.out, (Fr.refl _ _).set1 _ _⟩
              · obtain ⟨A', c', hrun, hbs', hown'⟩ := slice_lo (some a) l.length cap (k + 1) .i64 ((k : Int) + 1) (by omega) (by omega) hcap
                have HSL := Lib.hid (SAt.step (l' := l.drop (k + 1)) HB.out H3.out h4 H5.out (by intro e; subst e; simp at hlt) (hbs' w l rfl HBs.out) hown')
                have b4 : k < 9 := by omega
                have HE := Lib.hid (show acc + c.toNat % 128 * 128 ^ k = acc + c.toNat * 128 ^ k by rw [show c.toNat % 128 = c.toNat by omega])
                clear hbad c0 hrd hacc hbs' hown' b9
                go_wp2_with fail
                all_goals
                  go_ret
                  rw [HN.out.1, HN.out.2.1, HN.out.2.2.1, ← HE.out]
                  exact ⟨rfl, HSL.out, (Fr.refl _ _).set1 _ _⟩
            · have HN := Lib.hid (hrd.trans (rd_more hbad (by omega)))
              have b4 : k < 9 := by omega
              have b5 : 128 ≤ c.toNat := by omega
              have HA2 := Lib.hid (show acc + c.toNat % 128 * 128 ^ k < 128 ^ (k + 1) by
                have h2 : c.toNat % 128 ≤ 127 := by omega
                have h3 := Nat.mul_le_mul_right (128 ^ k) h2
                rw [Nat.pow_succ]; omega)
              have HE := Lib.hid (show acc + (c.toNat - 128) * 128 ^ k = acc + c.toNat % 128 * 128 ^ k by rw [show c.toNat - 128 = c.toNat % 128 by omega])
              clear hrd hacc hbad c0 b3
              go_wp2_with fail
              all_goals
                refine ⟨⟨k + 1, acc + c.toNat % 128 * 128 ^ k, by omega, by omega, by go_num, rfl, HA2.out, ?_⟩, by simp [intOf]; omega⟩
                rw [HN.out, HE.out]
    · have hd : l.drop k = [] := List.drop_eq_nil_of_le (by omega)
      rw [hd] at hrd
      have HN := Lib.hid (rest_none (hrd.trans rfl))
      clear hrd hacc hd hcells
      go_wp2_with fail
      refine hfail.mono ?_
      rintro e w2 ⟨rfl, hs2, hf2⟩
      go_wp2
      go_ret
      rw [HN.out.1, HN.out.2.1, HN.out.2.2.1]
      exact ⟨rfl, hs2, hf2⟩


theorem Src.drew {w : World} {g : Nat} {l : List UInt8} {bad : Bool} (h : Src w g l bad) : Src w.drew g l bad := h
theorem SAt.drew {w : World} {g : Nat} {S : Nat → Prop} {l : List UInt8} {bad : Bool} (h : SAt w g S l bad) : SAt w.drew g S l bad := h
theorem Src.drewN {w : World} {g : Nat} {l : List UInt8} {bad : Bool} (h : Src w g l bad) (n : Nat) : Src (w.drewN n) g l bad := h
theorem SAt.drewN {w : World} {g : Nat} {S : Nat → Prop} {l : List UInt8} {bad : Bool} (h : SAt w g S l bad) (n : Nat) : SAt (w.drewN n) g S l bad := h

end Go.Proofs.YtemfmnjhmmlmbaaGreat


namespace Go.Proofs.YtemfmnjhmmlmbaaGreat
set_option linter.unusedVariables false
set_option linter.unusedSimpArgs false
set_option maxRecDepth 100000
open Go.RowKit

theorem fell_zero {l : List UInt8} (h : fell l = true) : fstN l = 0 ∧ rest l = [] := by
  cases hr : rd 0 0 l with
  | none => exact ⟨(rest_none hr).2.2.1, (rest_none hr).1⟩
  | some p => obtain ⟨n, r⟩ := p; rw [(rest_some hr).2.1] at h; cases h

theorem rest_le (l : List UInt8) : (rest l).length ≤ l.length := by
  cases hr : rd 0 0 l with
  | none => rw [(rest_none hr).1]; simp
  | some p => obtain ⟨n, r⟩ := p; rw [(rest_some hr).1]; exact Nat.le_of_lt (rd_len (by omega) hr)

theorem runzig_odd {n : Nat} (hn : n < two64) (h : n % 2 = 1) : wrap64 (wrap64 (-wrap64 ((n : Int) / 2)) - 1) = unzig n := by
  unfold two64 at hn
  rw [IntWalk.wrap64_in ((n : Int) / 2) ⟨by omega, by omega⟩, IntWalk.wrap64_in (-((n : Int) / 2)) ⟨by omega, by omega⟩, IntWalk.wrap64_in _ ⟨by omega, by omega⟩]
  unfold unzig; rw [if_pos h]; omega
theorem runzig_even {n : Nat} (hn : n < two64) (h : ¬ n % 2 = 1) : wrap64 ((n : Int) / 2) = unzig n := by
  unfold two64 at hn
  rw [IntWalk.wrap64_in ((n : Int) / 2) ⟨by omega, by omega⟩]
  unfold unzig; rw [if_neg h]; omega

theorem u64_div2 {m : Nat} (h : m < two64) : IntKind.u64.wrap ((m : Int) / 2) = (m : Int) / 2 := by
  unfold two64 at h
  exact IntWalk.u64_in _ ⟨by omega, by omega⟩

theorem rsint_any (g : Nat) (S : Nat → Prop) (l : List UInt8) (bad : Bool) (w : World) (h : SAt w g S l bad) (hl : l.length < 1000000000) :
    Calls Tryz.prog 32 #[ptr g] w fun e w' => e = .returned (.int .i64 (unzig (fstN l))) ∧ SAt w' g S (rest l) (fell l) ∧ Fr (One g) w w' := by
  have h0 := rsnum_any g S l bad w h hl
  have Hl := Lib.hid (fstN_lt l)
  have e0 := u64_div2 Hl.out
  clear h
  by_cases hp : fstN l % 2 = 1
  · have E1 := Lib.hid (runzig_odd Hl.out hp)
    have hp' : ((fstN l : Int) % 2 == 1) = true := by rw [beq_iff_eq]; omega
    clear hp
    go_enter Tryz.func32, Tryz.ntmps32
    go_wp2_with fail
    refine h0.mono ?_
    rintro e w' ⟨rfl, hs, hf⟩
    go_wp2
    go_ret
    exact ⟨congrArg (fun z => Ending.returned (.int .i64 z)) E1.out, hs, hf⟩
  · have E1 := Lib.hid (runzig_even Hl.out hp)
    have hp' : ((fstN l : Int) % 2 == 1) = false := by rw [beq_eq_false_iff_ne]; omega
    clear hp
    go_enter Tryz.func32, Tryz.ntmps32
    go_wp2_with fail
    refine h0.mono ?_
    rintro e w' ⟨rfl, hs, hf⟩
    go_wp2
    go_ret
    exact ⟨congrArg (fun z => Ending.returned (.int .i64 z)) E1.out, hs, hf⟩

theorem SAt.cells {w : World} {g : Nat} {S : Nat → Prop} {l : List UInt8} {bad : Bool} (h : SAt w g S l bad) :
    ∃ A c, w.cell? ⟨g, 0, none⟩ = some (.slice A l.length c) ∧ w.cell? ⟨g, 1, none⟩ = some (.bool bad) ∧ w.frozen? ⟨g, 0, none⟩ = false ∧ l.length ≤ c ∧
      Blk w g 68 #[.slice A l.length c, .bool bad] ∧ Bs w (.slice A l.length c) l ∧ (∀ k, (Value.slice A l.length c).ownBlock = some k → ¬ S k) ∧ S g := by
  obtain ⟨v, h1, h2, h3, h4, h5⟩ := h
  have hh := h2
  obtain ⟨A, c, rfl, hc, _, _⟩ := h2
  exact ⟨A, c, h1.cell 0, h1.cell 1, h1.frozen 0, hc, h1, hh, h3, h4⟩

set_option maxHeartbeats 1000000 in
theorem rbelow_any (g : Nat) (S : Nat → Prop) (l : List UInt8) (bad : Bool) (n : Int) (w : World) (h : SAt w g S l bad) (hl : l.length < 1000000000) (hn : n ≤ 9223372036854775807) :
    Calls Tryz.prog 56 #[ptr g, .int .i64 n] w fun e w' => e = .returned (.int .i64 (mostV l (n - 1))) ∧ SAt w' g S (mostR l (n - 1)) (mostB l (n - 1)) ∧ Fr (One g) w w' := by
  have h0 := rsnum_any g S l bad w h hl
  have Hl := Lib.hid (fstN_lt l)
  clear h
  by_cases hok : fell l = false ∧ 1 ≤ n ∧ (fstN l : Int) < n
  · obtain ⟨ok1, ok2, ok3⟩ := hok
    have HV : Hid (mostV l (n - 1) = fstN l ∧ mostR l (n - 1) = rest l ∧ mostB l (n - 1) = fell l) := by
      unfold mostV mostR mostB mostOk
      rw [decide_eq_true ⟨by omega, by omega⟩]; exact ⟨rfl, rfl, rfl⟩
    rw [ok1] at h0
    have HF := Lib.hid ok1
    have hwr : IntKind.u64.wrap n = n := IntWalk.u64_in _ ⟨by omega, by omega⟩
    have hwi : IntKind.i64.wrap (fstN l) = fstN l := IntWalk.i64_in _ ⟨by omega, by omega⟩
    clear hn ok1
    go_enter Tryz.func56, Tryz.ntmps56
    go_wp2_with fail
    refine h0.mono ?_
    rintro e w' ⟨rfl, hs, hf⟩
    obtain ⟨A, c, c0, c1, f0, _⟩ := hs.cells
    go_wp2
    go_ret
    rw [HV.out.1, HV.out.2.1, HV.out.2.2, HF.out]
    exact ⟨rfl, hs, hf⟩
  · have HV : Hid (mostV l (n - 1) = 0 ∧ mostR l (n - 1) = [] ∧ mostB l (n - 1) = true) := by
      unfold mostV mostR mostB mostOk
      cases hf : fell l with
      | true => have := fell_zero hf; refine ⟨?_, ?_, ?_⟩ <;> split <;> first | rfl | exact this.1 | exact this.2
      | false => rw [decide_eq_false (by rw [hf] at hok; simp at hok; omega)]; exact ⟨rfl, rfl, rfl⟩
    have hwr : 1 ≤ n → IntKind.u64.wrap n = n := fun _ => IntWalk.u64_in _ ⟨by omega, by omega⟩
    cases hf : fell l with
    | true =>
      rw [hf] at h0
      clear hn hok hwr
      have HF := Lib.hid hf; clear hf
      go_enter Tryz.func56, Tryz.ntmps56
      go_wp2_with fail
      refine h0.mono ?_
      rintro e w' ⟨rfl, hs, hf⟩
      obtain ⟨A, c, c0, c1, f0, _⟩ := hs.cells
      go_wp2_with fail
      refine (rfail_any g S _ _ _ hs).mono ?_
      rintro e w2 ⟨rfl, hs2, hf2⟩
      go_wp2
      go_ret
      rw [HV.out.1, HV.out.2.1, HV.out.2.2]
      exact ⟨rfl, hs2, hf.trans hf2⟩
    | false =>
      rw [hf] at h0 hok
      have HF := Lib.hid hf; clear hf
      by_cases hneg : n < 1
      · clear hn hok hwr
        go_enter Tryz.func56, Tryz.ntmps56
        go_wp2_with fail
        refine h0.mono ?_
        rintro e w' ⟨rfl, hs, hf⟩
        obtain ⟨A, c, c0, c1, f0, _⟩ := hs.cells
        go_wp2_with fail
        refine (rfail_any g S _ _ _ hs).mono ?_
        rintro e w2 ⟨rfl, hs2, hf2⟩
        go_wp2
        go_ret
        rw [HV.out.1, HV.out.2.1, HV.out.2.2]
        exact ⟨rfl, hs2, hf.trans hf2⟩
      · have hge : n ≤ (fstN l : Int) := by simp at hok; omega
        have hwr' := hwr (by omega)
        clear hn hok hwr
        go_enter Tryz.func56, Tryz.ntmps56
        go_wp2_with fail
        refine h0.mono ?_
        rintro e w' ⟨rfl, hs, hf⟩
        obtain ⟨A, c, c0, c1, f0, _⟩ := hs.cells
        go_wp2_with fail
        refine (rfail_any g S _ _ _ hs).mono ?_
        rintro e w2 ⟨rfl, hs2, hf2⟩
        go_wp2
        go_ret
        rw [HV.out.1, HV.out.2.1, HV.out.2.2]
        exact ⟨rfl, hs2, hf.trans hf2⟩

theorem rend_any (g : Nat) (S : Nat → Prop) (l : List UInt8) (bad : Bool) (w : World) (h : SAt w g S l bad) :
    Calls Tryz.prog 33 #[ptr g] w fun e w' => e = .returned (.bool (!bad && l.isEmpty)) ∧ w = w' := by
  obtain ⟨A, c, c0, c1, f0, _⟩ := h.cells
  cases bad
  · go_enter Tryz.func33, Tryz.ntmps33
    go_wp2
    go_ret
    refine ⟨?_, rfl⟩
    cases l <;> simp <;> omega
  · go_enter Tryz.func33, Tryz.ntmps33
    go_wp2
    go_ret
    exact ⟨rfl, rfl⟩

set_option maxHeartbeats 1000000 in
theorem rtakeO_any (g : Nat) (S : Nat → Prop) (l : List UInt8) (bad : Bool) (n : Int) (w : World) (h : SAt w g S l bad) (hl : l.length < 1000000000) :
    Calls Tryz.prog 59 #[ptr g, .int .i64 n] w fun e w' => ∃ v, e = .returned v ∧ Own w' w.heap.size v (cutT l n) ∧ SAt w' g S (cutR l n) (cutB l bad n) ∧ Fr (One g) w w' := by
  have hfail := rfail_any g S l bad w h
  obtain ⟨A, c, c0, c1, f0, hc, hB, hBs, hS, hSg⟩ := h.cells
  have H5 := Lib.hid (show bad = true → l = [] by obtain ⟨v, _, _, _, _, h5⟩ := h; exact h5)
  have HB := Lib.hid hB
  have HBs := Lib.hid hBs
  have HS := Lib.hid hS
  clear h hB hBs hS
  by_cases hok : bad = false ∧ 0 ≤ n ∧ n ≤ l.length
  · obtain ⟨rfl, h0, h1⟩ := hok
    obtain ⟨k, rfl⟩ := Int.eq_ofNat_of_zero_le h0
    have hk : k ≤ l.length := by omega
    have HV : Hid (cutT l k = l.take k ∧ cutR l k = l.drop k ∧ cutB l false k = false) := by
      unfold cutT cutR cutB cutOk
      rw [decide_eq_true (by omega)]; exact ⟨rfl, rfl, rfl⟩
    obtain ⟨A1, d1, hrun1, hbs1, hown1⟩ := slice_hi A l.length c k .i64 (k : Int) rfl hk hc
    obtain ⟨A2, d2, hrun2, hbs2, hown2⟩ := slice_lo A l.length c k .i64 (k : Int) rfl hk hc
    have HB1 := Lib.hid (fun W h => hbs1 W l rfl h)
    have HB2 := Lib.hid (fun W h => hbs2 W l rfl h)
    have HO2 := Lib.hid hown2
    clear hbs1 hbs2 hown1 hown2 hfail
    have hbe : Own (w.alloc (.cells #[] 5)) w.heap.size (.slice (some ⟨w.heap.size, 0, none⟩) 0 0) [] := World.ownsRow_made w #[] 0 (Nat.le_refl _) (by unfold maxLen; omega) rfl
    have hfa : Fr Non w (w.alloc (.cells #[] 5)) := (Fr.refl _ _).alloc _
    have hg := HB.out.lt
    go_enter Tryz.func59, Tryz.ntmps59
    go_wp2_with (at_builtin; refine wpList_app rfl (.tmp 25) (.tmp 31) rfl w.heap.size _ _ [] (l.take k) rfl hbe rfl (HB1.out _ (HBs.out.non hfa)) (by simp; omega) (by simp) ?_; intro v3 w3 hown3 hfr3; have hfn := hfa.fresh hfr3 (fun k hk => (hbe.lt k hk).1); have hB3 := Lib.hid (HB.out.fr hfn (fun e => e)); have hBs3 := Lib.hid (HBs.out.non hfn); have c03 := hB3.out.cell 0; have f03 := hB3.out.frozen 0; simp at c03)
    go_ret
    rw [HV.out.1, HV.out.2.1, HV.out.2.2]
    have hl' : 0 < l.length ∨ l = [] := by cases l <;> simp
    refine ⟨v3, rfl, ?_, ?_, (hfn.any).set1 _ _⟩
    · have hne : ∀ q, v3.ownBlock = some q → ¬ One g q := fun q hq e => by
        have := (hown3.lt q hq).1
        rw [show q = g from e] at this
        omega
      simpa using hown3.fr ((Fr.refl (One g) _).set1 0 _) hne
    · have hn : ∀ q, (Value.slice A2 (l.length - k) d2).ownBlock = some q → ¬ S q := fun q hq => HS.out q (by rw [← HO2.out]; exact hq)
      exact ⟨_, hB3.out.set 0 _, (HB2.out w3 hBs3.out).fr ((Fr.refl (One g) _).set1 0 _) (fun q hq e => hn q hq (by rw [show q = g from e]; exact hSg)), hn, hSg, fun h => by cases h⟩
  · have HV : Hid (cutT l n = [] ∧ cutR l n = [] ∧ cutB l bad n = true) := by
      cases hb : bad with
      | true =>
        have hl0 := H5.out hb
        subst hl0
        unfold cutT cutR cutB cutOk
        refine ⟨?_, ?_, ?_⟩ <;> split <;> simp
      | false =>
        unfold cutT cutR cutB cutOk
        rw [decide_eq_false (by rw [hb] at hok; simp at hok; omega)]; exact ⟨rfl, rfl, rfl⟩
    cases bad
    · by_cases hneg : n < 0
      · clear hok
        go_enter Tryz.func59, Tryz.ntmps59
        go_wp2_with fail
        refine hfail.mono ?_
        rintro e w2 ⟨rfl, hs2, hf2⟩
        go_wp2
        go_ret
        rw [HV.out.1, HV.out.2.1, HV.out.2.2]
        exact ⟨.slice none 0 0, rfl, own_nil _ _, hs2, hf2⟩
      · have hbig : (l.length : Int) < n := by simp at hok; omega
        clear hok
        go_enter Tryz.func59, Tryz.ntmps59
        go_wp2_with fail
        refine hfail.mono ?_
        rintro e w2 ⟨rfl, hs2, hf2⟩
        go_wp2
        go_ret
        rw [HV.out.1, HV.out.2.1, HV.out.2.2]
        exact ⟨.slice none 0 0, rfl, own_nil _ _, hs2, hf2⟩
    · clear hok
      go_enter Tryz.func59, Tryz.ntmps59
      go_wp2_with fail
      refine hfail.mono ?_
      rintro e w2 ⟨rfl, hs2, hf2⟩
      go_wp2
      go_ret
      rw [HV.out.1, HV.out.2.1, HV.out.2.2]
      exact ⟨.slice none 0 0, rfl, own_nil _ _, hs2, hf2⟩

theorem rtake_any (g : Nat) (S : Nat → Prop) (l : List UInt8) (bad : Bool) (n : Int) (w : World) (h : SAt w g S l bad) (hl : l.length < 1000000000) :
    Calls Tryz.prog 59 #[ptr g, .int .i64 n] w fun e w' => ∃ v, e = .returned v ∧ Bs w' v (cutT l n) ∧ (∀ k, v.ownBlock = some k → w.heap.size ≤ k) ∧ SAt w' g S (cutR l n) (cutB l bad n) ∧ Fr (One g) w w' := by
  refine (rtakeO_any g S l bad n w h hl).mono ?_
  rintro e w' ⟨v, rfl, h1, h2, h3⟩
  exact ⟨v, rfl, h1.bs, fun k hk => (h1.lt k hk).1, h2, h3⟩

end Go.Proofs.YtemfmnjhmmlmbaaGreat


namespace Go.Proofs.YtemfmnjhmmlmbaaGreat
set_option linter.unusedVariables false
set_option linter.unusedSimpArgs false
set_option maxRecDepth 100000
open Go.RowKit

/-- what is still to come of what is answered -/
def ToD (t : Option (List Int)) (bad : Bool) (p : Int) (a : Int) (r : List UInt8) (o : List Int) : Prop := if bad then t = none else t = (gdz p a r).map (o ++ ·)
theorem toD_start (n : Int) (b : List UInt8) : ToD (gdz n 0 b) false n 0 b [] := by unfold ToD; simp
theorem toD_step {t : Option (List Int)} {bad : Bool} {p a : Int} {r : List UInt8} {o : List Int} (h : ToD t bad p a r o) (hb : bad = true → r = []) (hp : 0 < p) :
    ToD t (fell r) (p - 1) (w6 (a + unzig (fstN r))) (rest r) (o ++ [w6 (a + unzig (fstN r))]) := by
  unfold ToD at *
  cases hr : rd 0 0 r with
  | none =>
    rw [(rest_none hr).2.1, if_pos rfl]
    cases bad with
    | true => exact h
    | false =>
      rw [h]
      cases r with
      | nil => rw [gdz_nilne (by omega)]; rfl
      | cons c r => rw [gdz_bad (by simp) hr]; rfl
  | some y =>
    obtain ⟨z, q⟩ := y
    cases bad with
    | true => rw [hb rfl] at hr; simp [rd] at hr
    | false =>
      rw [(rest_some hr).1, (rest_some hr).2.1, (rest_some hr).2.2.1, h, gdz_some hp hr, cons_app]
      rfl
theorem toD_end {t : Option (List Int)} {bad : Bool} {a : Int} {r : List UInt8} {o : List Int} (h : ToD t bad 0 a r o) : t = if (!bad && r.isEmpty) = true then some o else none := by
  unfold ToD at h
  cases bad with
  | true => simpa using h
  | false =>
    rw [h]
    cases r with
    | nil => rw [gdz_nil]; simp
    | cons c r => rw [gdz_end (by omega) (by simp)]; simp

theorem set_appD {o : List Int} {k m : Nat} {x y : Int} (h : o.length = k) (hk : k < m) : (o ++ List.replicate (m - k) x).set k y = o ++ [y] ++ List.replicate (m - (k + 1)) x := by
  subst h
  rw [List.set_append_right _ _ (Nat.le_refl _), Nat.sub_self, show m - o.length = (m - (o.length + 1)) + 1 by omega, List.replicate_succ, List.set_cons_zero, List.append_assoc]; rfl

set_option maxHeartbeats 2000000 in
theorem dget_any (v : Value) (b : List UInt8) (n : Int) (w : World) (hv : Bs w v b) (hl : b.length ≤ 1000000000) (h1 : -9223372036854775808 ≤ n) (h2 : n ≤ 9223372036854775807) :
    Calls Tryz.prog 44 #[v, .int .i64 n] w fun e w' => Gtn w' w.heap.size (gdz n 0 b) e ∧ Fr Non w w' := by
  have HV := Lib.hid hv
  obtain ⟨A, c, rfl, _⟩ := hv
  by_cases hn0 : n < 0
  · have hd : decide (n < 0) = true := by simpa using hn0
    have HN := Lib.hid hn0
    clear hn0
    go_enter Tryz.func44, Tryz.ntmps44
    go_wp2
    go_ret2
    exact ⟨gtn_no (gdz_neg HN.out), Fr.refl _ _⟩
  · by_cases hn4 : (b.length : Int) < n
    · have hd : decide (n < 0) = false := by simpa using hn0
      have hd4 : decide ((b.length : Int) < n) = true := by simpa using hn4
      have HN := Lib.hid hn4
      go_enter Tryz.func44, Tryz.ntmps44
      go_wp2
      go_ret2
      exact ⟨gtn_no (gdz_long HN.out), Fr.refl _ _⟩
    · obtain ⟨m, rfl⟩ := Int.eq_ofNat_of_zero_le (show 0 ≤ n by omega)
      have hd : decide ((m : Int) < 0) = false := by simp
      have hd4 : decide ((b.length : Int) < (m : Int)) = false := by simpa using hn4
      have hm9 : m ≤ 1000000000 := by omega
      clear h1 h2
      go_enter Tryz.func44, Tryz.ntmps44
      go_wp2_with fail
      refine (from_any _ b w HV.out).mono ?_
      rintro e w1 ⟨rfl, s1, f1⟩
      go_wp2_with fail
      refine (plusAhead_any w1).mono ?_
      rintro e w2 ⟨rfl, b2, f2⟩
      have s2 := s1.fr f2 (fun e => e)
      have f12 := f1.trans f2
      have hg1 := s1.1.lt
      have hg2 := b2.lt
      clear s1 f1 f2
      go_wp2_with (at_make; refine wpList_mkfullG (f := iv) el_i64 (0 : Int) rfl rfl _ _ rfl _ _ _ _ m rfl rfl rfl rfl (by omega) ?_; intro w3 hown3 f3)
      have s3 := s2.fr f3 (fun e => e)
      have b3 := b2.fr f3 (fun e => e)
      have f123 := f12.trans f3
      have hB := f3.size
      have hw1 := f12.size
      clear s2 b2 f12 f3
      generalize hgB : w2.heap.size = B at *
      generalize hgg1 : w1.heap.size = g1 at *
      generalize hgg : w.heap.size = g at *
      have HW := Lib.hid hgg
      clear hgg hgB hgg1
      go_wp2
      go_loopw [25] (fun i wr => ∃ (k : Nat) (r : List UInt8) (o : List Int) (a : Int) (bad : Bool), k ≤ m ∧ i = .int .i64 k ∧ o.length = k ∧ Ow iv 2 wr B (.slice (some ⟨B, 0, none⟩) m m) (o ++ List.replicate (m - k) 0) ∧ Src wr g r bad ∧ Blk wr g1 2 #[iv a] ∧ Hid (ToD (gdz m 0 b) bad ((m : Int) - k) a r o) ∧ Fr Non w wr) (fun i _ => m - (intOf i).toNat)
      case atStart => exact ⟨0, b, [], 0, false, Nat.zero_le _, rfl, rfl, by simpa using hown3, s3, b3, Lib.hid (by have := toD_start m b; simpa using this), f123⟩
      case round =>
        clear hown3 s3 b3 f123 hB
        obtain ⟨k, r, o, a, bad, hk, rfl, hok, hown, hs, hb, HT, hfr⟩ := hrel
        have HO := Lib.hid hown
        have HK := Lib.hid hok
        have HF := Lib.hid hfr
        clear hown hok hfr
        by_cases hlt : k < m
        · have HT2 := Lib.hid (toD_step HT.out hs.2 (by omega))
          go_wp2_with fail
          refine (sint_any g _ _ wr hs).mono ?_
          rintro e w4 ⟨rfl, s4, f4⟩
          have b4 := hb.fr f4 (fun e => by have : g1 = g := e; omega)
          go_wp2_with fail
          refine (plus_any g1 _ a w4 b4).mono ?_
          rintro e w5 ⟨rfl, b5, f5⟩
          have s5 := s4.fr f5 (fun e => by have : g = g1 := e; omega)
          have hown4 := HO.out.fr f4 (fun q hq e => by have h1 := (HO.out.lt q hq).1; have : q = g := e; omega)
          have hown5 := hown4.fr f5 (fun q hq e => by have h1 := (hown4.lt q hq).1; have : q = g1 := e; omega)
          have hf5 := (HF.out.fresh f4 (fun k e => by have : k = g := e; have := HW.out; omega)).fresh f5 (fun k e => by have : k = g1 := e; have := HW.out; omega)
          have hlen : m = (o ++ List.replicate (m - k) 0).length := by rw [List.length_append, HK.out, List.length_replicate]; omega
          have hfz := hown5.frozen hlen k
          have hst := hown5.store hlen k (w6 (a + unzig (fstN r)))
          rw [set_appD HK.out hlt] at hst
          have HST := Lib.hid hst
          have hcl : w5.cell? ⟨B, k, none⟩ = some (.int .i64 ((o ++ List.replicate (m - k) 0)[k]'(by omega))) := hown5.cell hlen k _ (List.getElem?_eq_getElem (by omega))
          generalize (o ++ List.replicate (m - k) 0)[k]'(by omega) = z0 at *
          generalize w6 (a + unzig (fstN r)) = y at *
          unfold iv at HST
          clear hst hlen hown4 hown5 f4 f5 s4 b4 hs hb
          go_wp2
          go_roundw
          case rel => exact ⟨k + 1, rest r, o ++ [y], y, fell r, by omega, by go_num, by rw [List.length_append, HK.out]; rfl, HST.out, s5.fr ((Fr.refl (One B) w5).set1 k _) (fun e => by have : g = B := e; omega), b5.fr ((Fr.refl (One B) w5).set1 k _) (fun e => by have : g1 = B := e; omega), Lib.hid (by have := HT2.out; rwa [show (m : Int) - (k + 1 : Nat) = (m : Int) - k - 1 by omega]), hf5.setCell (fun h => by have := HW.out; simp at h; omega) _⟩
          case measure => simp [intOf]; omega
        · obtain rfl : k = m := by omega
          have hT := HT.out
          rw [Int.sub_self] at hT
          have HE := Lib.hid (toD_end hT)
          clear hT
          go_wp2_with fail
          refine (end_any g r bad wr hs).mono ?_
          rintro e w5 ⟨rfl, rfl⟩
          cases hbe : (!bad && r.isEmpty) with
          | true =>
            rw [hbe] at HE
            go_wp2
            go_ret2
            exact ⟨gtn_yes HE.out (by have := HO.out.mono (B' := w.heap.size) (by have := HW.out; omega); simpa using this), HF.out⟩
          | false =>
            rw [hbe] at HE
            go_wp2
            go_ret2
            exact ⟨gtn_no HE.out, HF.out⟩

def GeD (B : Nat) : Nat → Prop := fun k => B ≤ k

set_option maxHeartbeats 4000000 in
theorem rdget_any (v : Value) (b : List UInt8) (n : Int) (w : World) (hv : Bs w v b) (hvl : ∀ k, v.ownBlock = some k → k < w.heap.size) (hl : b.length ≤ 100000000) (h1 : -9223372036854775808 ≤ n) (h2 : n ≤ 400) :
    Calls Tryz.prog 35 #[v, .int .i64 n] w fun e w' => Gtn w' w.heap.size (gdz n 0 b) e ∧ Fr Non w w' := by
  have hsz := hvl
  have S0 : ∀ W, W = w.alloc (.cells #[v, .bool false] 68) → SAt W w.heap.size (GeD w.heap.size) b false := by
    rintro W rfl
    exact ⟨v, Blk.new _ _ _, hv.non ((Fr.refl _ _).alloc _), (fun k hk e => by have := hsz k hk; unfold GeD at e; omega), by unfold GeD; omega, fun h => by cases h⟩
  have HS0 := Lib.hid S0
  clear S0 hsz
  obtain ⟨A, c, rfl, _⟩ := hv
  clear hvl
  go_enter Tryz.func35, Tryz.ntmps35
  go_wp2
  have s1 := HS0.out _ rfl
  have hg1 := s1.cells
  have hown1 : Ow iv 2 ((w.alloc (.cells #[.slice A b.length c, .bool false] 68)).alloc (.cells #[] 2)) (w.heap.size + 1) (.slice (some ⟨w.heap.size + 1, 0, none⟩) 0 0) [] := ow_lit0 _ _ _ (by simp) (Nat.le_refl _)
  have f1 : Fr Non w ((w.alloc (.cells #[.slice A b.length c, .bool false] 68)).alloc (.cells #[] 2)) := ((Fr.refl _ _).alloc _).alloc _
  have s2 := s1.fr (S' := Non) ((Fr.refl _ _).alloc (.cells #[] 2)) (fun e => e) (fun _ e => e.elim)
  have hBB : w.heap.size + 1 ≤ ((w.alloc (.cells #[.slice A b.length c, .bool false] 68)).alloc (.cells #[] 2)).heap.size := by simp
  clear s1 hg1
  generalize hgg : w.heap.size = g at *
  have HW := Lib.hid hgg
  clear hgg
  go_loopw [7, 8] (fun x d wr => ∃ (r : List UInt8) (o : List Int) (a : Int), Ow iv 2 wr (g + 1) x o ∧ d = .int .i64 a ∧ ((o.length : Int) ≤ n ∨ o.length = 0) ∧ r.length ≤ b.length ∧ SAt wr g (GeD g) r false ∧ Hid (ToD (gdz n 0 b) false (n - o.length) a r o) ∧ g + 1 ≤ wr.heap.size ∧ Fr Non w wr) (fun x _ _ => 401 - slLen x)
  case atStart => exact ⟨b, [], 0, hown1, rfl, .inr rfl, Nat.le_refl _, s2, Lib.hid (by have := toD_start n b; simpa using this), hBB, f1⟩
  case round =>
    obtain ⟨r, o, a, hown, rfl, hom, hrb, hs, HI, hBr, hfr⟩ := hrel
    have HO := Lib.hid hown
    have HF := Lib.hid hfr
    obtain ⟨A1, c1, rfl⟩ := hown.shape
    clear hown hfr hown1 s2 f1 hBB
    generalize hol : o.length = ol at *
    have HL := Lib.hid hol
    clear hol
    have ho4 : ol ≤ 400 := by omega
    obtain ⟨Ar, cr, cc0, cc1, ff0, _⟩ := hs.cells
    cases r with
    | nil =>
      simp only [List.length_nil] at cc0
      by_cases hz : n - ol = 0
      · have hT := HI.out
        rw [hz] at hT
        have HR := Lib.hid (toD_end hT)
        have hb : ((ol : Int) != n) = false := by rw [bne_eq_false_iff_eq]; omega
        have HZ := Lib.hid hz
        clear hT hz
        go_wp2
        go_ret2
        exact ⟨gtn_yes HR.out (HO.out.mono (by have := HW.out; omega)), HF.out⟩
      · have HR : Hid (gdz n 0 b = none) := Lib.hid (by have hT := HI.out; unfold ToD at hT; rw [gdz_nilne hz] at hT; simpa using hT)
        have hb : ((ol : Int) != n) = true := by rw [bne_iff_ne]; omega
        go_wp2
        go_ret2
        exact ⟨gtn_no HR.out, HF.out⟩
    | cons r0 r1 =>
      have hrl : (0 : Int) < ((r0 :: r1).length : Int) := by simp
      have hne : r0 :: r1 ≠ [] := by simp
      generalize r0 :: r1 = r at *
      have hrl9 : r.length < 1000000000 := by omega
      have hi := rsint_any g (GeD g) _ _ wr hs hrl9
      have hw1 := HW.out
      cases hx : rd 0 0 r with
      | none =>
        have HR : Hid (gdz n 0 b = none) := Lib.hid (by have hT := HI.out; unfold ToD at hT; rw [gdz_bad hne hx] at hT; simpa using hT)
        rw [(rest_none hx).2.1] at hi
        generalize unzig (fstN r) = mz at *
        clear hx hne
        go_wp2_with fail
        refine hi.mono ?_
        rintro e w4 ⟨rfl, s4, f4⟩
        clear cc0 cc1 ff0
        obtain ⟨Ar, cr, cc0, cc1, ff0, _⟩ := s4.cells
        have hf4 := (HF.out.fresh f4 (fun k e => by have : k = g := e; omega))
        clear f4
        go_wp2
        go_ret2
        exact ⟨gtn_no HR.out, hf4⟩
      | some y =>
        obtain ⟨z, q⟩ := y
        have hql := rd_len (by omega) hx
        have HST : Hid (0 < n - (ol : Int) → ToD (gdz n 0 b) false (n - ol - 1) (w6 (a + unzig z)) q (o ++ [w6 (a + unzig z)])) := Lib.hid (fun hp => by
          have := toD_step HI.out (by simp) hp
          rwa [(rest_some hx).1, (rest_some hx).2.1, (rest_some hx).2.2.1] at this)
        have HNE : Hid (n - (ol : Int) ≤ 0 → gdz n 0 b = none) := Lib.hid (fun hp => by have hT := HI.out; unfold ToD at hT; rw [gdz_end hp hne] at hT; simpa using hT)
        rw [(rest_some hx).2.1, (rest_some hx).1, (rest_some hx).2.2.1] at hi
        clear hx hne
        have hw6 := w6_wrap64 (a + unzig z)
        generalize unzig z = uz at *
        have HU := Lib.hid hw6
        clear hw6
        by_cases hbig : n ≤ (ol : Int)
        · have hd : decide (n ≤ (ol : Int)) = true := by simpa using hbig
          go_wp2_with fail
          refine hi.mono ?_
          rintro e w4 ⟨rfl, s4, f4⟩
          clear cc0 cc1 ff0
          obtain ⟨Ar, cr, cc0, cc1, ff0, _⟩ := s4.cells
          have hf4 := (HF.out.fresh f4 (fun k e => by have : k = g := e; omega))
          clear f4
          go_wp2
          go_ret2
          exact ⟨gtn_no (HNE.out (by omega)), hf4⟩
        · have hd : decide (n ≤ (ol : Int)) = false := by simpa using hbig
          go_wp2_with fail
          refine hi.mono ?_
          rintro e w4 ⟨rfl, s4, f4⟩
          clear cc0 cc1 ff0
          obtain ⟨Ar, cr, cc0, cc1, ff0, _⟩ := s4.cells
          have hf4 := (HF.out.fresh f4 (fun k e => by have : k = g := e; omega))
          have hown4 := HO.out.fr f4 (fun k hk e => by have h1 := (HO.out.lt k hk).1; have : k = g := e; omega)
          have hB4 := Nat.le_trans hBr f4.size
          clear f4
          go_wp2_with (at_builtin; refine wpList_pushG el_i64 iv_oneC rfl (.tmp 33) (.tmp 35) rfl (g + 1) _ o rfl hown4 _ (w6 (a + uz)) (by rw [← HU.out]; rfl) rfl (by rw [HL.out]; omega) hB4 ?_; intro v5 w5 hown5 hf5)
          have hf5n := hf4.fresh hf5 (fun q hq => by have := (hown4.lt q hq).1; have := HW.out; omega)
          go_roundw
          case rel => exact ⟨q, o ++ [w6 (a + uz)], w6 (a + uz), hown5, by rw [← HU.out], .inl (by rw [List.length_append, HL.out]; simp; omega), by omega, s4.fr hf5 (fun e => by have := (hown4.lt _ e).1; omega) (fun q hq => by have := (hown4.lt _ hq).1; unfold GeD; omega), Lib.hid (by have := HST.out (by omega); rw [List.length_append, HL.out]; rwa [show n - (ol : Int) - 1 = n - ((ol + [w6 (a + uz)].length : Nat) : Int) by simp; omega] at this), Nat.le_trans hB4 hf5.size, hf5n⟩
          case measure => rw [slLen_vs hown5.vs, List.length_append, HL.out]; simp [slLen]; omega
end Go.Proofs.YtemfmnjhmmlmbaaGreat


namespace Go.Proofs.YtemfmnjhmmlmbaaGreat
set_option linter.unusedVariables false
set_option linter.unusedSimpArgs false
set_option maxRecDepth 100000
open Go.RowKit

set_option maxHeartbeats 2000000 in
theorem each_any (v : Value) (l : List Int) (w : World) (hv : Vs iv w v l) (hl : l.length ≤ 1000000) (hx : ∀ x ∈ l, I64 x) :
    Calls Tryz.prog 39 #[v] w fun e w' => ∃ u, e = .returned u ∧ Own w' w.heap.size u (onesN l) ∧ Fr Non w w' := by
  obtain ⟨A, c, rfl, hlc, hn, hcell⟩ := hv
  have HC := Lib.hid hcell
  have HN := Lib.hid hn
  have HX := Lib.hid hx
  clear hcell hn hx
  go_enter Tryz.func39, Tryz.ntmps39
  go_wp2
  go_loopw [3, 8] (fun b i wr => ∃ (k : Nat), k ≤ l.length ∧ i = .int .i64 k ∧ Own wr w.heap.size b (onesN (l.take k)) ∧ Fr Non w wr) (fun _ i _ => l.length - (intOf i).toNat)
  case atStart => exact ⟨0, Nat.zero_le _, rfl, own_nil _ _, Fr.refl _ _⟩
  case round =>
    obtain ⟨k, hk, rfl, hown, hfr⟩ := hrel
    by_cases hlt : k < l.length
    · cases A with
      | none => have := HN.out rfl; omega
      | some a =>
        have hc0 := (hfr.cell (World.block_lt_of_cell? w _ (HC.out a rfl k hlt)) (fun e => e)).trans (HC.out a rfl k hlt)
        unfold iv at hc0
        have HT := Lib.hid (onesN_take l k hlt)
        have hpl := onesN_len (l.take k) fun x hx => HX.out x (List.mem_of_mem_take hx)
        have hlk : (l.take k).length = k := by rw [List.length_take]; omega
        have hx64 := HX.out l[k] (List.getElem_mem hlt)
        rw [hlk] at hpl
        clear hlk
        generalize l[k] = x at *
        generalize onesN (l.take k) = bs at *
        have HO := Lib.hid hown
        clear hown
        have H64 := Lib.hid hx64
        clear hx64
        go_wp2_with fail
        refine (vint_any x wr H64.out.1 H64.out.2).mono ?_
        rintro e w5 ⟨v5, rfl, hown5, hf5⟩
        have hz10 := uvarint_zig10 H64.out
        have hfr5 := hfr.trans hf5
        have hB5 := hfr5.size
        have hown5' := HO.out.non hf5
        generalize Lib.uvarint (zig x) = y at *
        go_wp2_with (at_builtin; refine wpList_app rfl (.tmp 12) (.tmp 14) rfl w.heap.size u3 v5 bs y rfl hown5' rfl hown5.bs (by omega) hB5 ?_; intro v6 w6_ hown6 hf6)
        have hfr6 := hfr5.fresh hf6 (fun k hk => (hown5'.lt k hk).1)
        go_roundw
        case rel => exact ⟨k + 1, by omega, by go_num, by rw [HT.out]; exact hown6, hfr6⟩
        case measure => simp [intOf]; omega
    · obtain rfl : k = l.length := by omega
      rw [List.take_length] at hown
      go_wp2
      go_ret
      exact ⟨_, rfl, hown, hfr⟩

theorem i64_ne_src : 2 ≠ 80 := by decide
set_option maxHeartbeats 4000000 in
theorem geach_any (v : Value) (b : List UInt8) (n : Nat) (w : World) (hv : Bs w v b) (hn : n ≤ 1000000) :
    Calls Tryz.prog 40 #[v, .int .i64 n] w fun e w' => Gtn w' w.heap.size (gOnes n b) e ∧ Fr Non w w' := by
  have HV := Lib.hid hv
  clear hv
  go_enter Tryz.func40, Tryz.ntmps40
  go_wp2_with fail
  refine (from_any v b w HV.out).mono ?_
  rintro e w1 ⟨rfl, hs1, hf1⟩
  have hlt1 : w.heap.size < w1.heap.size := hs1.1.lt
  generalize hg : w.heap.size = g at *
  have hgl := Nat.le_of_eq hg
  clear hg
  go_wp2_with (at_make; refine wpList_mkfullG el_i64 (f := iv) (0 : Int) rfl rfl _ _ rfl _ _ _ _ n rfl rfl rfl rfl (by omega) ?_; intro w2 hown2 hf2)
  have hs2 := hs1.fr hf2 (fun e => e)
  have hfr2 := hf1.trans hf2
  have HS1 := Lib.hid hgl
  have hg2 := hf1.size
  generalize hgr : w1.heap.size = r at *
  have hrl := Nat.le_of_eq hgr
  clear hgr
  go_loopw [15] (fun i wr => ∃ (k : Nat) (L : List Int) (q : List UInt8) (bad : Bool), k ≤ n ∧ i = .int .i64 k ∧ ToO n b k L q bad ∧ Src wr g q bad ∧ Ow iv 2 wr r (.slice (some ⟨r, 0, none⟩) n n) (L ++ List.replicate (n - k) 0) ∧ Fr Non w wr) (fun i _ => n - (intOf i).toNat)
  case atStart => exact ⟨0, [], b, false, Nat.zero_le _, rfl, toO_zero n b, hs2, hown2, hfr2⟩
  case round =>
    clear hs2 hown2 hfr2 hf2 hs1 hf1
    obtain ⟨k, L, q, bad, hk, rfl, hT, hs, hown, hfr⟩ := hrel
    have HT := Lib.hid hT
    have HO := Lib.hid hown
    clear hT hown
    by_cases hlt : k < n
    · have hL := HT.out.1
      have HL := Lib.hid (show n = (L ++ List.replicate (n - k) (0 : Int)).length by simp; omega)
      go_wp2_with fail
      refine (sint_any g q bad wr hs).mono ?_
      rintro e w4 ⟨rfl, hs4, hf4⟩
      have hown4 := HO.out.fr hf4 (fun p hp e => by have h1 : p = g := e; exact ow_other HO.out hs.1 i64_ne_src p hp h1)
      have hfr4 := hfr.fresh hf4 (fun p e => by have h1 : p = g := e; have := HS1.out; omega)
      have hat := rep_at L (n - k) (0 : Int) (by omega)
      have hset := rep_set L (n - k) (0 : Int) (unzig (fstN q)) (by omega)
      rw [hL] at hat hset
      have hc4 := hown4.cell HL.out k _ hat
      have hf4' := hown4.frozen HL.out k
      have HT2 := Lib.hid (toO_step HT.out hs.2 hlt)
      have hown5 := hown4.store HL.out k (unzig (fstN q))
      rw [hset, show n - k - 1 = n - (k + 1) by omega] at hown5
      have HO5 := Lib.hid hown5
      have HS4 := Lib.hid hs4
      have hrg : r ≠ g := fun e => ow_other HO.out hs.1 i64_ne_src r rfl e
      have hr4 : r < w4.heap.size := (hown4.lt r rfl).2
      have HO4 := Lib.hid hown4
      clear hown5 hown4 hat hset hs4 hL
      unfold iv at hc4
      generalize unzig (fstN q) = z at *
      go_wp2_with fail
      have hs6 := HS4.out.fr ((Fr.refl (One r) w4).set1 k (.int .i64 z)) (fun e => hrg e.symm)
      have hfr6 := hfr4.fresh ((Fr.refl (One r) w4).set1 k (.int .i64 z)) (fun p e => by have h1 : p = r := e; have := HS1.out; omega)
      go_roundw
      case rel => exact ⟨k + 1, _, _, _, by omega, by go_num, HT2.out, hs6, HO5.out, hfr6⟩
      case measure => simp [intOf]; omega
    · obtain rfl : k = n := by omega
      have HE := Lib.hid (toO_end HT.out)
      have hO := HO.out
      rw [Nat.sub_self, List.replicate_zero, List.append_nil] at hO
      have HO2 := Lib.hid hO
      clear hO HT HO
      cases hb : (!bad && q.isEmpty) with
      | true =>
        have hE := HE.out
        rw [hb, if_pos rfl] at hE
        have HE2 := Lib.hid hE
        clear hE HE
        have h0 := end_any g q bad wr hs
        rw [hb] at h0
        clear hb
        go_wp2_with fail
        refine h0.mono ?_
        rintro e w5 ⟨rfl, rfl⟩
        go_wp2
        go_ret2
        exact ⟨gtn_yes HE2.out (HO2.out.mono (by have := HS1.out; omega)), hfr⟩
      | false =>
        have hE := HE.out
        rw [hb, if_neg (by simp)] at hE
        have HE2 := Lib.hid hE
        clear hE HE
        have h0 := end_any g q bad wr hs
        rw [hb] at h0
        clear hb
        go_wp2_with fail
        refine h0.mono ?_
        rintro e w5 ⟨rfl, rfl⟩
        go_wp2
        go_ret2
        exact ⟨gtn_no HE2.out, hfr⟩
end Go.Proofs.YtemfmnjhmmlmbaaGreat


namespace Go.Proofs.YtemfmnjhmmlmbaaGreat
set_option linter.unusedVariables false
set_option linter.unusedSimpArgs false
set_option maxRecDepth 100000
open Go.ChangeShapes Go.WideShapes Go.ChangeAt Go.RowKit

theorem frame_own : ownKnob Tryz.prog.godebug = none := by kernel_rfl
theorem frame_laidOut : laidOutB Tryz.prog = true := by kernel_rfl

/-- every argument reads as it did -/
theorem trodAll_below {H : Type} {enc : TypeId × Value → H} {W W' : World} (hb : Below W.heap.size W W') :
    ∀ (ts : List TypeId) (vs : List Value) (ds : List (DataW H)) (ps : List MemPlace), (∀ t ∈ ts, Tryz.prog.readableRec t = true ∧ t < Tryz.prog.types.size) →
      DataW.TrodAll enc Tryz.prog W 0 (fun _ => true) true ts vs ds ps → DataW.TrodAll enc Tryz.prog W' 0 (fun b => decide (b < W.heap.size)) true ts vs ds ps := by
  intro ts
  induction ts with
  | nil => intro vs ds ps _ h; cases vs <;> cases ds <;> simp_all [DataW.TrodAll]
  | cons t ts ih =>
    intro vs ds ps hr h
    cases vs with
    | nil => cases ds <;> simp_all [DataW.TrodAll]
    | cons v vs =>
      cases ds with
      | nil => simp_all [DataW.TrodAll]
      | cons d ds =>
        obtain ⟨p, q, h1, h2, rfl⟩ := h
        have hlt : ∀ x ∈ p, x.block < W.heap.size := by obtain ⟨m, hm⟩ := h1; exact DataW.trod_lt m _ _ _ hm
        have ht := hr t (List.mem_cons_self ..)
        exact ⟨p, q, Below.trod frame_laidOut ht.1 ht.2 h1 hb hlt, ih vs ds q (fun u hu => hr u (List.mem_cons_of_mem _ hu)) h2, rfl⟩

noncomputable def typesOk (ts : List TypeId) : Bool := ts.all fun t => Tryz.prog.readableRec t && decide (t < Tryz.prog.types.size)
theorem types_ok (ts : List TypeId) (h : typesOk ts = true) : ∀ t ∈ ts, Tryz.prog.readableRec t = true ∧ t < Tryz.prog.types.size := by
  intro t ht
  have := List.all_eq_true.1 h t ht
  simpa using this

/-- a slice that came in: nil, or it leads into a block that is there -/
theorem slice_in {W : World} {base : Nat} {t e : TypeId} {v : Value} (ht : Tryz.prog.underlying t = some (.slice e)) (hv : Value.okWide Tryz.prog W .any base t v) :
    v = .slice none 0 0 ∨ ∃ b o n c, v = .slice (some ⟨b, o, none⟩) n c ∧ n ≤ c ∧ b < W.heap.size := by
  obtain ⟨a, n, c, rfl⟩ := okWide_slice ht hv
  simp only [Value.okWide, ht, Cell.okWide] at hv
  cases a with
  | none =>
    left
    simp only [Cell.ok, ht] at hv
    cases n <;> cases c <;> simp_all
  | some a =>
    right
    simp only [Cell.ok, ht] at hv
    obtain ⟨h1, _, _, h2, row, cells, h3, _⟩ := hv
    obtain ⟨b, o, sp⟩ := a
    simp only at h2 h3
    subst h2
    refine ⟨b, o, n, c, rfl, h1, ?_⟩
    rcases Nat.lt_or_ge b W.heap.size with h | h
    · exact h
    · unfold World.shape? at h3
      rw [Array.getElem?_eq_none h] at h3
      cases h3

/-- bytes that came in -/
theorem bs_in {H : Type} {enc : TypeId × Value → H} {W : World} {base : Nat} {v : Value} {d : DataW H} {p : List MemPlace} (hv : Value.okWide Tryz.prog W .any base 22 v)
    (h : DataW.Trod enc Tryz.prog W 0 (fun _ => true) true 22 v d p) : ∃ l, Bs W v l ∧ l.length ≤ maxLen ∧ ∀ k, v.ownBlock = some k → k < W.heap.size := by
  rcases slice_in Tryz.underlying22 hv with rfl | ⟨b, o, len0, cap0, rfl, _, hblt⟩
  · exact ⟨[], Bs.nil_ W, Nat.zero_le _, fun _ h => by cases h⟩
  obtain ⟨fuel, hf⟩ := h
  rcases open_ints Tryz.underlying22 Tryz.underlying5 (by kernel_rfl) hf with ⟨hcs, _⟩ | ⟨x, l, c, zs, hcs, _, hl, hm, hz, _, hcell, hwz⟩
  · simp [Value.cells] at hcs
  · simp [Value.cells] at hcs
    obtain ⟨rfl, rfl, rfl⟩ := hcs
    have hzl : zs.length = cap0 := by simpa using hz
    have hlen : ((zs.take len0).map fun n => UInt8.ofNat n.toNat).length = len0 := by simp; omega
    refine ⟨(zs.take len0).map fun n => UInt8.ofNat n.toNat, ⟨_, cap0, by rw [hlen], by rw [hlen]; exact hl, (fun h => by cases h), fun a ha j hj => ?_⟩, by rw [hlen]; omega, fun k hk => ?_⟩
    · cases ha
      rw [hlen] at hj
      rw [hcell j (by omega)]
      have hw := hwz (zs.getD j 0) (by rw [← List.getElem_eq_getD (h := by omega) 0]; exact List.getElem_mem _)
      have hb : 0 ≤ zs.getD j 0 ∧ zs.getD j 0 ≤ 255 := by simpa [Lit.wf, IntKind.min, IntKind.max, IntKind.signed, IntKind.bits] using hw
      have he : ((zs.take len0).map fun n => UInt8.ofNat n.toNat)[j]'(by rw [hlen]; exact hj) = UInt8.ofNat (zs.getD j 0).toNat := by
        rw [List.getElem_map, List.getElem_take, ← List.getElem_eq_getD (h := by omega) 0]
      rw [he]
      unfold bv
      rw [show ((UInt8.ofNat (zs.getD j 0).toNat).toNat : Int) = zs.getD j 0 by rw [UInt8.toNat_ofNat']; omega]
    · simp [Value.ownBlock] at hk
      omega

theorem wf_i64_bd {n : Int} (h : (Lit.int .i64 n).wf = true) : -9223372036854775808 ≤ n ∧ n ≤ 9223372036854775807 := by
  simpa [Lit.wf, IntKind.min, IntKind.max, IntKind.signed, IntKind.bits] using h
end Go.Proofs.YtemfmnjhmmlmbaaGreat


namespace Go.Proofs.YtemfmnjhmmlmbaaGreat
set_option linter.unusedVariables false
set_option linter.unusedSimpArgs false
set_option maxRecDepth 100000
open Go.ChangeShapes Go.WideShapes Go.ChangeAt Go.RowKit

/-- a text's cell -/
def sv (l : List UInt8) : Value := .string ⟨l.toArray⟩
theorem sv_one (l : List UInt8) : (sv l).oneCell' = true := rfl
theorem el_str : El 62 9 (.string ⟨#[]⟩) 16 := ⟨Tryz.underlying62, by kernel_rfl, rfl, by decide, by kernel_rfl, fun _ => by kernel_rfl⟩
/-- append of a slice's elements onto a row of the call's own: the operation alone -/
theorem wp_appG {α : Type} {f : α → Value} {E T : TypeId} {z : Value} {by_ : Nat} (hE : El T E z by_) (hf1 : ∀ x, (f x).oneCell' = true) {w : World} {o : Oper} {a : Act} {K : Act → World → Prop} {Q : Exit → Act → World → Prop} (s x : Operand)
    (ho : o.op = .call { callee := .builtin .append, args := #[s, x], argTypes := #[T, T] })
    (B : Nat) (v y : Value) (l m : List α) (hs : a.eval s = v) (hown : Ow f E w B v l) (hx : a.eval x = y) (hy : Vs f w y m)
    (hl : l.length + m.length < 1099511627776) (hB : B ≤ w.heap.size)
    (h : ∀ v' w', Ow f E w' B v' (l ++ m) → Fr (fun k => v.ownBlock = some k) w w' → K (a.put o.dst v') w') : o.wp Tryz.prog a w K Q := by
  obtain ⟨i, hi, hz0, hz1, hz2⟩ := info_parts hE.info
  have hs' := hE.small
  have hzc : z.cells.size = 1 := by rw [hE.cells]; rfl
  have hbl : (l.length + m.length) * by_ ≤ 140737488355328 := by
    have := Nat.mul_le_mul (show l.length + m.length ≤ 1099511627776 by omega) hs'
    omega
  obtain ⟨A, c, rfl, hmc, hn, hcells⟩ := hy
  cases A with
  | some ad =>
    refine wp_append_own w s x T ho B E i z 1 by_ hE.under hi hz0 hz1 hz2 hzc (by omega) v l.length (l.map f) hs hown ad m.length c (m.map f) hx (by simp) ?_ (by intro u hu; obtain ⟨b, _, rfl⟩ := List.mem_map.1 hu; exact hf1 b) (by unfold maxLen; omega) (by omega) hB ?_
    · intro j u hu
      have hj : j < m.length := by simpa using (List.getElem?_eq_some_iff.1 hu).1
      rw [hcells ad rfl j hj]
      simpa [hj] using hu
    · intro v' w' h1 h2 _
      refine h v' w' ?_ (Fr.of_grown h2)
      unfold Ow; simpa using h1
  | none =>
    have hm : m = [] := List.eq_nil_of_length_eq_zero (by have := hn rfl; omega)
    subst hm
    have hc : c = 0 := hn rfl
    subst hc
    have hrun := run_append_owned_none (P := Tryz.prog) (w := w) B T o.type E i 1 hE.under hi v l.length (l.map f) hown
    unfold Oper.wp
    have hx' : a.eval x = .slice none 0 0 := hx
    simp [execOp, ho, resolve, invoke, builtin, hs, hx', hrun, Result.andThen]
    exact h v w (by simpa using hown) (Fr.refl _ _)
/-- .. as one step of a region that draws -/
theorem step_appG {α : Type} {f : α → Value} {E T : TypeId} {z : Value} {by_ : Nat} (hE : El T E z by_) (hf1 : ∀ x, (f x).oneCell' = true) {w : World} {ops : Array Oper} {o : Oper} {a : Act} {K : Act → World → Prop} {Q : Exit → Act → World → Prop} {Els : Prop} (hgd : o.guard = none) (s x : Operand)
    (ho : o.op = .call { callee := .builtin .append, args := #[s, x], argTypes := #[T, T] })
    (B : Nat) (v y : Value) (l m : List α) (hs : a.eval s = v) (hown : Ow f E w B v l) (hx : a.eval x = y) (hy : Vs f w y m)
    (hl : l.length + m.length < 1099511627776) (hB : B ≤ w.heap.size)
    (h : ∀ v' w', Ow f E w' B v' (l ++ m) → Fr (fun k => v.ownBlock = some k) w w' → K (a.put o.dst v') w') : if Region.wanted o (yielded ops a.tmps) = true then Oper.wp Tryz.prog o a w K Q else Els := by
  have hw : Region.wanted o (yielded ops a.tmps) = true := by simp [Region.wanted, hgd]
  rw [if_pos hw]
  exact wp_appG hE hf1 s x ho B v y l m hs hown hx hy hl hB h

end Go.Proofs.YtemfmnjhmmlmbaaGreat


namespace Go.Proofs.YtemfmnjhmmlmbaaGreat
set_option linter.unusedVariables false
set_option linter.unusedSimpArgs false
set_option maxRecDepth 100000
open Go.RowKit Go.Maps Go.Sort

/-- block b is a map of at most n texts: those of ks; of each it says g -/
def MapW (w : World) (b n : Nat) (ks : List (List UInt8)) (g : List UInt8 → Int) : Prop :=
  ∃ D : DataW Unit, w.ownsMap Tryz.prog 9 (plainElem Tryz.prog 2) b n D ∧ (∀ x, has D (.string x) = decide (x ∈ ks)) ∧ ∀ x, x ∈ ks → D.atKey (.string x) (.lit (.int .i64 0)) = .lit (.int .i64 (g x))
theorem MapW.lt {w : World} {b n : Nat} {ks : List (List UInt8)} {g : List UInt8 → Int} (h : MapW w b n ks g) : b < w.heap.size := by
  obtain ⟨D, h1, _⟩ := h; exact h1.lt
theorem MapW.fr {S : Nat → Prop} {w w' : World} {b n : Nat} {ks : List (List UInt8)} {g : List UInt8 → Int} (h : MapW w b n ks g) (hf : Fr S w w') (hn : ¬ S b) : MapW w' b n ks g := by
  obtain ⟨D, h1, h2, h3⟩ := h
  have hlt := h1.lt
  obtain ⟨es, clock, hb, F, hs, hD⟩ := h1
  exact ⟨D, ⟨es, clock, (hf.block b hlt hn).trans hb, F, hs, hD⟩, h2, h3⟩
theorem MapW.non {w w' : World} {b n : Nat} {ks : List (List UInt8)} {g : List UInt8 → Int} (h : MapW w b n ks g) (hf : Fr Non w w') : MapW w' b n ks g := h.fr hf fun e => e
theorem MapW.congr {w : World} {b n : Nat} {ks ks' : List (List UInt8)} {g g' : List UInt8 → Int} (h : MapW w b n ks g) (hk : ∀ x, x ∈ ks' ↔ x ∈ ks) (hg : ∀ x, x ∈ ks → g' x = g x) : MapW w b n ks' g' := by
  obtain ⟨D, h1, h2, h3⟩ := h
  refine ⟨D, h1, fun x => by rw [h2]; simp only [hk], fun x hx => ?_⟩
  have hx' := (hk x).1 hx
  rw [hg x hx']; exact h3 x hx'
theorem MapW.made (w : World) (g : List UInt8 → Int) : MapW (w.alloc (.map #[] 0)) w.heap.size 0 [] g :=
  ⟨.map [], World.ownsMap_made w _ _ _, fun x => by simp [has], fun x hx => by simp at hx⟩

theorem keyLit (x : List UInt8) : WideAt.IsKeyLit (.string x) := trivial
theorem keyStr {x : List UInt8} (hx : x.length ≤ maxLen) : keyOf Tryz.prog 9 (.string ⟨x.toArray⟩) = some (.string x) := by
  have := Go.WideMaps.keyOf_string_mk (P := Tryz.prog) Tryz.underlying9 (s := ⟨x.toArray⟩) (by simpa [ByteArray.size] using hx)
  simpa using this

theorem MapW.put {w w' : World} {b n : Nat} {ks : List (List UInt8)} {g : List UInt8 → Int} {D : DataW Unit} (h1 : w.ownsMap Tryz.prog 9 (plainElem Tryz.prog 2) b n D) (h2 : ∀ x, has D (.string x) = decide (x ∈ ks)) (h3 : ∀ x, x ∈ ks → D.atKey (.string x) (.lit (.int .i64 0)) = .lit (.int .i64 (g x)))
    (y : List UInt8) (v : Int) (h : w'.ownsMap Tryz.prog 9 (plainElem Tryz.prog 2) b (n + 1) (D.put (.string y) (.lit (.int .i64 v)))) : MapW w' b (n + 1) (y :: ks) (fun x => if x = y then v else g x) := by
  have hm := h1.isMap
  refine ⟨_, h, fun x => ?_, fun x hx => ?_⟩
  · by_cases he : x = y
    · subst he; rw [has_put_same hm (keyLit x)]; simp
    · rw [has_put_other (by simpa using he), h2]; simp [he]
  · by_cases he : x = y
    · subst he; rw [atKey_put_same hm (keyLit x)]; simp
    · rw [atKey_put_other (by simpa using he)]
      simp only [if_neg he]
      exact h3 x (by simpa [he] using hx)

/-- 'm[y] = v' -/
theorem wpList_putM (w : World) {ops : Array Oper} {rest : List Oper} {o : Oper} {a : Act} {Q : Exit → Act → World → Prop} (hg : o.guard = none) (m x v : Operand) (hop : o.op = Op.mapUpdate 104 m x v)
    (b n : Nat) (ks : List (List UInt8)) (g : List UInt8 → Int) (hm : a.eval m = .map (some b)) (hown : MapW w b n ks g) (hn : n < 1000000000) (y : List UInt8) (z : Int) (hx : a.eval x = .string ⟨y.toArray⟩) (hv : a.eval v = .int .i64 z)
    (hy : y.length ≤ 9223372036854775807) (hz1 : -9223372036854775808 ≤ z) (hz2 : z ≤ 9223372036854775807)
    (hK : ∀ w', MapW w' b (n + 1) (y :: ks) (fun u => if u = y then z else g u) → Fr (One b) w w' → wpList Tryz.prog ops Q rest (a.put o.dst undef) w') : wpList Tryz.prog ops Q (o :: rest) a w := by
  obtain ⟨D, h1, h2, h3⟩ := hown
  refine wpList_mapUpdate_own w hg m x v 104 hop 9 2 (string_keyed Tryz.underlying9) Tryz.underlying104 _ b n D hm h1 (by unfold maxLen; omega) _ _ (.string y) hx hv (keyStr (by simpa [maxLen] using hy)) (.lit (.int .i64 z)) [] (plainElem_int Tryz.underlying2 (WalkArith.wf_i64 ⟨hz1, hz2⟩)) ?_
  intro w' hw' hg'
  exact hK w' (MapW.put h1 h2 h3 y z hw') ((Fr.of_grown hg').mono fun k _ e => by simpa [One, eq_comm] using e)

/-- 'm[y]', y being among them -/
theorem MapW.look {w : World} {b n : Nat} {ks : List (List UInt8)} {g : List UInt8 → Int} (h : MapW w b n ks g) {y : List UInt8} (hy : y ∈ ks) (hl : y.length ≤ 9223372036854775807) : (Instr.lookup 104 (.map (some b)) (.string ⟨y.toArray⟩) false).run Tryz.prog w = .ok (.int .i64 (g y)) w := by
  obtain ⟨D, h1, h2, h3⟩ := h
  obtain ⟨c, hr, hc, _⟩ := h1.lookup_int (string_keyed Tryz.underlying9) Tryz.underlying104 Tryz.underlying2 (Tryz.zeroValue2 w) (keyStr (by simpa [maxLen] using hl))
  rw [h3 y hy] at hc
  obtain rfl : g y = c := by simpa using hc
  exact hr

theorem MapW.keys {w : World} {b n : Nat} {ks : List (List UInt8)} {g : List UInt8 → Int} {D : DataW Unit} (h1 : w.ownsMap Tryz.prog 9 (plainElem Tryz.prog 2) b n D) (h2 : ∀ x, has D (.string x) = decide (x ∈ ks)) {ss : List (List UInt8)} (hp : ss.Perm (strKeys D)) : ss.Nodup ∧ ∀ x, x ∈ ss ↔ x ∈ ks := by
  have ht := h1.tidy (string_keyed Tryz.underlying9)
  obtain ⟨es, rfl, hpw⟩ := ht
  obtain ⟨es', he, hk⟩ := h1.keysOf
  obtain rfl : es = es' := by simpa using he
  have hks : ∀ p ∈ es, ∃ x, p.1 = .string x := by
    intro p hp'
    obtain ⟨key, hkey⟩ := hk p hp'
    obtain ⟨x, _, hx, _⟩ := Maps.keyOf_str Tryz.underlying9 hkey
    exact ⟨x, hx⟩
  have hnd : (strKeys (.map es : DataW Unit)).Nodup := by
    show (es.map fun p => strOf p.1).Nodup
    refine List.pairwise_map.2 (hpw.imp_of_mem fun {p q} hp' hq' hne e => hne ?_)
    obtain ⟨a, ha⟩ := hks p hp'
    obtain ⟨b, hb⟩ := hks q hq'
    rw [ha, hb] at e ⊢
    exact congrArg _ e
  refine ⟨hp.nodup_iff.2 hnd, fun x => ?_⟩
  rw [hp.mem_iff]
  have h3 := h2 x
  rw [has_eq] at h3
  have h4 : es.any (fun p => p.1.sameKey (.string x)) = true ↔ x ∈ ks := by rw [h3]; simp
  rw [← h4, List.any_eq_true]
  show x ∈ es.map (fun p => strOf p.1) ↔ _
  rw [List.mem_map]
  constructor
  · rintro ⟨p, hp', rfl⟩
    obtain ⟨y, hy⟩ := hks p hp'
    exact ⟨p, hp', by rw [hy]; exact WideAt.sameKey_self (keyLit y)⟩
  · rintro ⟨p, hp', h5⟩
    exact ⟨p, hp', by rw [WideAt.sameKey_eq h5]; rfl⟩
end Go.Proofs.YtemfmnjhmmlmbaaGreat


namespace Go.Proofs.YtemfmnjhmmlmbaaGreat
set_option linter.unusedVariables false
set_option linter.unusedSimpArgs false
set_option maxRecDepth 100000
open Go.RowKit

set_option maxHeartbeats 1000000 in
theorem rstext_any (g : Nat) (S : Nat → Prop) (l : List UInt8) (bad : Bool) (m : Int) (w : World) (h : SAt w g S l bad) (hl : l.length < 1000000000) (hm : m ≤ 9223372036854775807) :
    Calls Tryz.prog 55 #[ptr g, .int .i64 m] w fun e w' => e = .returned (.string ⟨(txtT l m).toArray⟩) ∧ SAt w' g S (txtR l m) (txtB l m) ∧ Fr (One g) w w' := by
  have hfail := rfail_any g S l bad w h
  have h0 := rsnum_any g S l bad w h hl
  have Hl := Lib.hid (fstN_lt l)
  clear h
  by_cases hneg : m < 0
  · have HV : Hid (txtT l m = [] ∧ txtR l m = [] ∧ txtB l m = true) := by
      have hk : mostOk l m = false := decide_eq_false (by omega)
      unfold txtT txtR txtB mostV mostR mostB
      rw [hk]; exact ⟨rfl, rfl, rfl⟩
    clear hm
    go_enter Tryz.func55, Tryz.ntmps55
    go_wp2_with fail
    refine hfail.mono ?_
    rintro e w2 ⟨rfl, hs2, hf2⟩
    go_wp2
    go_ret
    rw [HV.out.1, HV.out.2.1, HV.out.2.2]
    exact ⟨rfl, hs2, hf2⟩
  · have hwr : IntKind.u64.wrap m = m := IntWalk.u64_in _ ⟨by omega, by omega⟩
    cases hf : fell l with
    | true =>
      have HV : Hid (txtT l m = [] ∧ txtR l m = [] ∧ txtB l m = true) := by
        have hz := fell_zero hf
        have hk : mostOk l m = true := decide_eq_true (by rw [hz.1]; omega)
        unfold txtT txtR txtB mostV mostR mostB
        rw [hk]; simp only [if_true, hz.1, hz.2, hf]; exact ⟨rfl, rfl, rfl⟩
      rw [hf] at h0
      clear hm hf
      go_enter Tryz.func55, Tryz.ntmps55
      go_wp2_with fail
      refine h0.mono ?_
      rintro e w1 ⟨rfl, hs1, hf1⟩
      obtain ⟨A, c, c0, c1, f0, _⟩ := hs1.cells
      go_wp2_with fail
      refine (rfail_any g S _ _ _ hs1).mono ?_
      rintro e w2 ⟨rfl, hs2, hf2⟩
      go_wp2
      go_ret
      rw [HV.out.1, HV.out.2.1, HV.out.2.2]
      exact ⟨rfl, hs2, hf1.trans hf2⟩
    | false =>
      rw [hf] at h0
      by_cases hle : (fstN l : Int) ≤ m
      · have hk : mostOk l m = true := decide_eq_true ⟨by omega, hle⟩
        have hw2 : IntKind.u64.wrap ((rest l).length : Int) = (rest l).length := IntWalk.u64_in _ ⟨by omega, by have := rest_le l; omega⟩
        by_cases hfit : fstN l ≤ (rest l).length
        · have hwi : IntKind.i64.wrap (fstN l) = fstN l := IntWalk.i64_in _ ⟨by omega, by omega⟩
          have HV : Hid (txtT l m = cutT (rest l) (fstN l) ∧ txtR l m = cutR (rest l) (fstN l) ∧ txtB l m = cutB (rest l) false (fstN l)) := by
            unfold txtT txtR txtB mostV mostR mostB
            rw [hk]; simp only [if_true, hf]; exact ⟨trivial, trivial, trivial⟩
          have hrl := rest_le l
          clear hm hf hk
          go_enter Tryz.func55, Tryz.ntmps55
          go_wp2_with fail
          refine h0.mono ?_
          rintro e w1 ⟨rfl, hs1, hf1⟩
          obtain ⟨A, c, c0, c1, f0, _⟩ := hs1.cells
          go_wp2_with fail
          refine (rtake_any g S _ _ _ _ hs1 (by omega)).mono ?_
          rintro e w2 ⟨v, rfl, hbs2, hnew2, hs2, hf2⟩
          have cv := run_conv_Bs hbs2 22 9 5 Tryz.underlying22 Tryz.underlying5 Tryz.underlying9
          go_wp2
          go_ret
          rw [HV.out.1, HV.out.2.1, HV.out.2.2]
          exact ⟨rfl, hs2, hf1.trans hf2⟩
        · have HV : Hid (txtT l m = [] ∧ txtR l m = [] ∧ txtB l m = true) := by
            have hc : cutOk (rest l) (fstN l) = false := decide_eq_false (by omega)
            unfold txtT txtR txtB mostV mostR mostB
            rw [hk]; simp only [if_true]
            unfold cutT cutR cutB
            rw [hc]; exact ⟨rfl, rfl, rfl⟩
          clear hm hf hk
          go_enter Tryz.func55, Tryz.ntmps55
          go_wp2_with fail
          refine h0.mono ?_
          rintro e w1 ⟨rfl, hs1, hf1⟩
          obtain ⟨A, c, c0, c1, f0, _⟩ := hs1.cells
          go_wp2_with fail
          refine (rfail_any g S _ _ _ hs1).mono ?_
          rintro e w2 ⟨rfl, hs2, hf2⟩
          go_wp2
          go_ret
          rw [HV.out.1, HV.out.2.1, HV.out.2.2]
          exact ⟨rfl, hs2, hf1.trans hf2⟩
      · have HV : Hid (txtT l m = [] ∧ txtR l m = [] ∧ txtB l m = true) := by
          have hk : mostOk l m = false := decide_eq_false (by omega)
          unfold txtT txtR txtB mostV mostR mostB
          rw [hk]; exact ⟨rfl, rfl, rfl⟩
        clear hm hf
        go_enter Tryz.func55, Tryz.ntmps55
        go_wp2_with fail
        refine h0.mono ?_
        rintro e w1 ⟨rfl, hs1, hf1⟩
        obtain ⟨A, c, c0, c1, f0, _⟩ := hs1.cells
        go_wp2_with fail
        refine (rfail_any g S _ _ _ hs1).mono ?_
        rintro e w2 ⟨rfl, hs2, hf2⟩
        go_wp2
        go_ret
        rw [HV.out.1, HV.out.2.1, HV.out.2.2]
        exact ⟨rfl, hs2, hf1.trans hf2⟩

end Go.Proofs.YtemfmnjhmmlmbaaGreat


namespace Go.Proofs.YtemfmnjhmmlmbaaGreat
set_option linter.unusedVariables false
set_option linter.unusedSimpArgs false
set_option maxRecDepth 100000
open Go.RowKit

theorem equal_any (v1 v2 : Value) (l1 l2 : List UInt8) (w : World) (h1 : Bs w v1 l1) (h2 : Bs w v2 l2) :
    Calls Tryz.prog 81 #[v1, v2] w fun e w' => e = .returned (.bool (l1 == l2)) ∧ w = w' := by
  have c1 := run_conv_Bs h1 22 9 5 Tryz.underlying22 Tryz.underlying5 Tryz.underlying9
  have c2 := run_conv_Bs h2 22 9 5 Tryz.underlying22 Tryz.underlying5 Tryz.underlying9
  clear h1 h2
  go_enter Tryz.func81, Tryz.ntmps81
  go_wp2
  go_ret
  exact ⟨rfl, rfl⟩

set_option maxHeartbeats 400000 in
theorem grow0_any (n : Nat) (w : World) (hn : n < 140737488355328) :
    Calls Tryz.prog 52 #[.slice none 0 0, .int .i64 n] w fun e w' => ∃ v, e = .returned v ∧ Own w' w.heap.size v [] ∧ Fr Non w w' := by
  by_cases h0 : n = 0
  · subst h0
    go_enter Tryz.func52, Tryz.ntmps52
    go_wp2
    go_ret
    exact ⟨_, rfl, own_nil _ _, Fr.refl _ _⟩
  · obtain ⟨i, hi, hz0, hz1, hz2⟩ := info_parts info_u8
    have hpos : (0 : Int) < n := by omega
    have hr := fun ty => Lib.run_append_nil_zeros (P := Tryz.prog) w 22 3 ty 5 i (.int .u8 0) .i64 .i64 Tryz.underlying22 Tryz.underlying3 hi hz0 n (by omega) (by rw [hz1]; omega) (by omega) (by rw [hz2]; omega)
    have hG := grownCap_ge w n 0 5
    have hM := grownCap_le_maxLen w n 0 5 (by unfold maxLen; omega)
    have hf : Fr Non w (w.drew.alloc (.cells (Builtin.zeroCells #[Value.int .u8 0] n ++ Builtin.zeroCells #[Value.int .u8 0] (grownCap w n 0 5 - n)) 5)) := ((Fr.refl _ w).drew).alloc _
    have hown : Own (w.drew.alloc (.cells (Builtin.zeroCells #[Value.int .u8 0] n ++ Builtin.zeroCells #[Value.int .u8 0] (grownCap w n 0 5 - n)) 5)) w.heap.size (.slice (some ⟨w.heap.size, 0, none⟩) 0 (grownCap w n 0 5)) [] :=
      World.ownsRow_made w.drew _ _ (Nat.le_refl _) hM (by simp only [Array.size_append, size_zeroCells, List.size_toArray, List.length_cons, List.length_nil]; omega)
    generalize grownCap w n 0 5 = G at *
    have HO := Lib.hid hown
    have HF := Lib.hid hf
    have HR := Lib.hid hr
    have hM' : G ≤ 9223372036854775807 := hM
    clear hown hf hr
    go_enter Tryz.func52, Tryz.ntmps52
    go_wp2_with (at_builtin; refine Lib.wpList_append_run _ rfl _ _ _ _ rfl _ _ rfl rfl _ _ (HR.out _) ?_)
    go_ret
    exact ⟨_, rfl, HO.out, HF.out⟩

set_option maxHeartbeats 1000000 in
theorem concat_any (g n c : Nat) (xs : List Value) (ls : List (List UInt8)) (w : World) (hn : ls.length = n) (hn2 : n < 1000) (hp : Parts w g xs ls) (hb : ls.flatten.length < 1099511627776) :
    Calls Tryz.prog 23 #[.slice (some ⟨g, 0, none⟩) n c] w fun e w' => ∃ v, e = .returned v ∧ Own w' w.heap.size v ls.flatten ∧ Fr Non w w' := by
  have Hb := Lib.hid hb; clear hb
  go_enter Tryz.func23, Tryz.ntmps23
  go_wp2
  go_loop [3, 11] (fun s i => ∃ k : Nat, k ≤ n ∧ i = .int .i64 k ∧ s = .int .i64 (ls.take k).flatten.length) (fun _ i => n - (intOf i).toNat)
  case atStart => exact ⟨0, Nat.zero_le _, rfl, rfl⟩
  case round =>
    obtain ⟨k, hk, rfl, rfl⟩ := hrel
    have hle := flat_le ls k
    have hb1 : (ls.take k).flatten.length < 1099511627776 := by have := Hb.out; omega
    by_cases hlt : k < n
    · have hkl : k < ls.length := by omega
      have hkx : k < xs.length := by rw [hp.1]; omega
      obtain ⟨hcell, hbs⟩ := hp.2 k xs[k] ls[k] (by simp [hkx]) (by simp [hkl])
      have hsn := flat_snoc ls k hkl
      have hle2 := flat_le ls (k + 1)
      have hb2 : (ls.take k).flatten.length + ls[k].length < 1099511627776 := by rw [hsn, List.length_append] at hle2; have := Hb.out; omega
      have HS := Lib.hid hsn
      clear hsn hle hle2
      generalize ls[k] = l at *
      generalize hx : xs[k] = x at *
      clear hx
      obtain ⟨A, d, rfl⟩ := hbs.shape
      generalize (ls.take k).flatten = F at *
      have hge : ¬ ((F.length : Int) + l.length < 0) := by omega
      clear hbs
      go_wp2
      go_round
      case rel => exact ⟨k + 1, by omega, by go_num, by rw [HS.out, List.length_append]; go_num⟩
      case measure => simp [intOf]; omega
    · have hkn : k = n := by omega
      have hT : ls.take k = ls := List.take_of_length_le (by omega)
      rw [hT] at hb1 ⊢
      have HL := Lib.hid hn
      clear hle hT hkn hn
      generalize hF : ls.flatten.length = F at *
      have HF := Lib.hid hF; clear hF
      go_wp2_with fail
      refine (grow0_any F w (by omega)).mono ?_
      rintro e w1 ⟨v1, rfl, hown1, hfr1⟩
      have hp1 := hp.non hfr1
      go_wp2_with fail
      go_loopw [6, 27] (fun v i wr => ∃ k : Nat, k ≤ n ∧ i = .int .i64 k ∧ Own wr w.heap.size v (ls.take k).flatten ∧ Fr Non w wr) (fun _ i _ => n - (intOf i).toNat)
      case atStart => exact ⟨0, Nat.zero_le _, rfl, hown1, hfr1⟩
      case round =>
        obtain ⟨j, hj, rfl, hown, hfr⟩ := hrel
        have hB := hfr.size
        have hle := flat_le ls j
        by_cases hlt : j < n
        · have hkl : j < ls.length := by rw [HL.out]; exact hlt
          have hkx : j < xs.length := by rw [hp.1]; exact hkl
          obtain ⟨hcell, hbs⟩ := (hp.non hfr).2 j xs[j] ls[j] (by simp [hkx]) (by simp [hkl])
          have hsn := flat_snoc ls j hkl
          have hle2 := flat_le ls (j + 1)
          have hb2 : (ls.take j).flatten.length + ls[j].length < 140737488355328 := by rw [hsn, List.length_append] at hle2; have := HF.out; omega
          have HS := Lib.hid hsn
          clear hsn hle hle2 hp1 hp
          generalize ls[j] = l at *
          generalize hx : xs[j] = x at *
          clear hx
          generalize (ls.take j).flatten = G at *
          go_wp2_with (at_builtin; refine wpList_app rfl (.tmp 31) (.tmp 32) rfl w.heap.size u6 x G l rfl hown rfl hbs hb2 hB ?_; intro v' w' hown' hfr')
          go_roundw
          case rel => exact ⟨j + 1, by omega, by go_num, by rw [HS.out]; exact hown', hfr.fresh hfr' fun k hk => (hown.lt k hk).1⟩
          case measure => simp [intOf]; omega
        · have hT : ls.take j = ls := List.take_of_length_le (by rw [HL.out]; omega)
          rw [hT] at hown
          clear hT hle hp1 hp
          go_wp2
          go_ret
          exact ⟨_, rfl, hown, hfr⟩

theorem Parts.three {w : World} {t : TypeId} {x y z : Value} {l m n : List UInt8} (hx : Bs w x l) (hy : Bs w y m) (hz : Bs w z n) : Parts (w.alloc (.cells #[x, y, z] t)) w.heap.size [x, y, z] [l, m, n] := by
  refine ⟨rfl, fun j u k hu hk => ?_⟩
  have hb := Blk.new w t #[x, y, z]
  have hf : Fr Non w (w.alloc (.cells #[x, y, z] t)) := (Fr.refl _ _).alloc _
  match j with
  | 0 =>
    obtain rfl : x = u := by simpa using hu
    obtain rfl : l = k := by simpa using hk
    exact ⟨hb.cell 0, hx.non hf⟩
  | 1 =>
    obtain rfl : y = u := by simpa using hu
    obtain rfl : m = k := by simpa using hk
    exact ⟨hb.cell 1, hy.non hf⟩
  | 2 =>
    obtain rfl : z = u := by simpa using hu
    obtain rfl : n = k := by simpa using hk
    exact ⟨hb.cell 2, hz.non hf⟩
  | j + 3 => simp at hu
end Go.Proofs.YtemfmnjhmmlmbaaGreat


namespace Go.Proofs.YtemfmnjhmmlmbaaGreat
set_option linter.unusedVariables false
set_option linter.unusedSimpArgs false
set_option maxRecDepth 100000
open Go.RowKit

set_option maxHeartbeats 1000000 in
theorem plain_any (v : Value) (l : List Tx) (w : World) (hv : Vs sv w v l) (hl : l.length ≤ 1000000) (hx : ∀ x ∈ l, x.length < 1048576) (hb : (plainB l).length < 137438953472) :
    Calls Tryz.prog 48 #[v] w fun e w' => ∃ u, e = .returned u ∧ Own w' w.heap.size u (plainB l) ∧ Fr Non w w' := by
  have HX := Lib.hid hx
  have HB := Lib.hid hb
  clear hx hb
  obtain ⟨A, c, rfl, hlc, hn, hcell⟩ := hv
  have HN := Lib.hid hn
  have HC := Lib.hid hcell
  clear hn hcell
  go_enter Tryz.func48, Tryz.ntmps48
  go_wp2
  go_loopw [3, 8] (fun b i wr => ∃ k : Nat, k ≤ l.length ∧ i = .int .i64 k ∧ Own wr w.heap.size b (plainB (l.take k)) ∧ Fr Non w wr) (fun _ i _ => l.length - (intOf i).toNat)
  case atStart => exact ⟨0, Nat.zero_le _, rfl, own_nil _ _, Fr.refl _ _⟩
  case round =>
    obtain ⟨k, hk, rfl, hown, hfr⟩ := hrel
    by_cases hlt : k < l.length
    · cases A with
      | none => have := HN.out rfl; omega
      | some a =>
        have g0 : w.cell? (a.add k) = some (sv l[k]) := HC.out a rfl k hlt
        have g1 : wr.cell? (a.add k) = some (sv l[k]) := (hfr.cell (World.block_lt_of_cell? w _ g0) (fun e => e)).trans g0
        unfold sv at g1
        have hx1 := HX.out l[k] (by simp)
        have hle := plainB_le l (k + 1)
        have HS := Lib.hid (plainB_take l k hlt)
        have hle2 : (plainB (l.take k)).length + (textB l[k]).length < 140737488355328 := by
          rw [HS.out, List.length_append] at hle
          have := HB.out
          omega
        have hB := hfr.size
        clear g0 hle
        generalize l[k] = x at *
        generalize plainB (l.take k) = F at *
        go_wp2_with fail
        refine (vtext_any x wr hx1).mono ?_
        rintro e w1 ⟨v1, rfl, hown1, hf1⟩
        have hown' := hown.non hf1
        go_wp2_with (at_builtin; refine wpList_app rfl (.tmp 12) (.tmp 14) rfl w.heap.size u3 v1 F (textB x) rfl hown' rfl hown1.bs hle2 (Nat.le_trans hB hf1.size) ?_; intro v' w' hown2 hfr2)
        go_roundw
        case rel => exact ⟨k + 1, by omega, by go_num, by rw [HS.out]; exact hown2, (hfr.trans hf1).fresh hfr2 fun q hq => (hown.lt q hq).1⟩
        case measure => simp [intOf]; omega
    · have hT : l.take k = l := List.take_of_length_le (by omega)
      rw [hT] at hown
      clear hT
      go_wp2
      go_ret
      exact ⟨_, rfl, hown, hfr⟩

set_option maxHeartbeats 1000000 in
theorem rplain_any (v : Value) (l : List Tx) (w : World) (hv : Vs sv w v l) (hl : l.length ≤ 1000000) (hx : ∀ x ∈ l, x.length < 1048576) (hb : (plainB l).length < 137438953472) :
    Calls Tryz.prog 92 #[v] w fun e w' => ∃ u, e = .returned u ∧ Own w' w.heap.size u (plainB l) ∧ Fr Non w w' := by
  have HX := Lib.hid hx
  have HB := Lib.hid hb
  clear hx hb
  obtain ⟨A, c, rfl, hlc, hn, hcell⟩ := hv
  have HN := Lib.hid hn
  have HC := Lib.hid hcell
  clear hn hcell
  go_enter Tryz.func92, Tryz.ntmps92
  go_wp2
  have hown0 := own_lit0 w w.heap.size w.heap.size rfl (Nat.le_refl _)
  have hf0 : Fr Non w (w.alloc (.cells #[] 5)) := (Fr.refl _ _).alloc _
  go_loopw [3, 4] (fun b i wr => ∃ k : Nat, k ≤ l.length ∧ i = .int .i64 k ∧ Own wr w.heap.size b (plainB (l.take k)) ∧ Fr Non w wr) (fun _ i _ => l.length - (intOf i).toNat)
  case atStart => exact ⟨0, Nat.zero_le _, rfl, hown0, hf0⟩
  case round =>
    clear hown0 hf0
    obtain ⟨k, hk, rfl, hown, hfr⟩ := hrel
    by_cases hlt : k < l.length
    · cases A with
      | none => have := HN.out rfl; omega
      | some a =>
        have g0 : w.cell? (a.add k) = some (sv l[k]) := HC.out a rfl k hlt
        have g1 : wr.cell? (a.add k) = some (sv l[k]) := (hfr.cell (World.block_lt_of_cell? w _ g0) (fun e => e)).trans g0
        unfold sv at g1
        have hx1 := HX.out l[k] (by simp)
        have hle := plainB_le l (k + 1)
        have HS := Lib.hid (plainB_take l k hlt)
        have hle2 : (plainB (l.take k)).length + (textB l[k]).length < 140737488355328 := by
          rw [HS.out, List.length_append] at hle
          have := HB.out
          omega
        have hB := hfr.size
        clear g0 hle
        generalize l[k] = x at *
        generalize plainB (l.take k) = F at *
        go_wp2_with fail
        refine (rtext_any x wr hx1).mono ?_
        rintro e w1 ⟨v1, rfl, hown1, hf1⟩
        have hown' := hown.non hf1
        go_wp2_with (at_builtin; refine wpList_app rfl (.tmp 12) (.tmp 17) rfl w.heap.size u3 v1 F (textB x) rfl hown' rfl hown1.bs hle2 (Nat.le_trans hB hf1.size) ?_; intro v' w' hown2 hfr2)
        go_roundw
        case rel => exact ⟨k + 1, by omega, by go_num, by rw [HS.out]; exact hown2, (hfr.trans hf1).fresh hfr2 fun q hq => (hown.lt q hq).1⟩
        case measure => simp [intOf]; omega
    · have hT : l.take k = l := List.take_of_length_le (by omega)
      rw [hT] at hown
      clear hT
      go_wp2
      go_ret
      exact ⟨_, rfl, hown, hfr⟩
end Go.Proofs.YtemfmnjhmmlmbaaGreat


namespace Go.Proofs.YtemfmnjhmmlmbaaGreat
set_option linter.unusedVariables false
set_option linter.unusedSimpArgs false
set_option maxRecDepth 100000
open Go.RowKit

theorem tsize_any (n k : Nat) (w : World) (hn : n ≤ 1000000) (hk : k ≤ 1000) :
    Calls Tryz.prog 77 #[.int .i64 n, .int .i64 k] w fun e w' => e = .returned (.int .i64 (need (n * k) : Nat)) ∧ w = w' := by
  have hm : n * k ≤ 1000000000 := by have := Nat.mul_le_mul hn hk; omega
  have hc : (n : Int) * k = ((n * k : Nat) : Int) := by push_cast; rfl
  have HN := Lib.hid (show need (n * k) = (n * k + 7) / 8 by rfl)
  generalize n * k = q at *
  have h1 : IntKind.i64.wrap ((n : Int) * k) = (q : Int) := by rw [hc]; exact IntWalk.i64_in _ ⟨by omega, by omega⟩
  go_enter Tryz.func77, Tryz.ntmps77
  go_wp2
  go_ret
  exact ⟨ret_int (by rw [HN.out]; omega), rfl⟩

set_option maxHeartbeats 1000000 in
theorem tmin_any (v : Value) (l : List Int) (w : World) (hv : Vs iv w v l) (h0 : 0 < l.length) (hl : l.length ≤ 9223372036854775807) :
    Calls Tryz.prog 74 #[v] w fun e w' => e = .returned (.int .i64 (leastOf l)) ∧ w = w' := by
  obtain ⟨A, c, rfl, hlc, hn, hcell⟩ := hv
  cases A with
  | none => have := hn rfl; omega
  | some a =>
    have HC := Lib.hid (hcell a rfl)
    have g0 : w.cell? a = some (.int .i64 l[0]) := by
      have := hcell a rfl 0 h0
      simpa [Addr.add, iv] using this
    have H1 := Lib.hid (loT_one l h0)
    have HS := Lib.hid (loT_succ l)
    have HA := Lib.hid (loT_all (l := l) (Nat.le_refl _))
    clear hcell hn
    go_enter Tryz.func74, Tryz.ntmps74
    go_wp2
    go_loopw [3, 4] (fun m i wr => ∃ k : Nat, 1 ≤ k ∧ k ≤ l.length ∧ i = .int .i64 k ∧ m = .int .i64 (loT l k) ∧ wr = w) (fun _ i _ => l.length - (intOf i).toNat)
    case atStart => exact ⟨1, Nat.le_refl _, h0, rfl, by rw [H1.out], rfl⟩
    case round =>
      obtain ⟨k, hk1, hk, rfl, rfl, rfl⟩ := hrel
      by_cases hlt : k < l.length
      · have g1 : wr.cell? (a.add k) = some (iv l[k]) := HC.out k hlt
        have hs := Lib.hid (HS.out k hlt)
        unfold iv at g1
        clear g0 H1
        generalize l[k] = x at *
        go_wp2
        go_roundw
        case rel => exact ⟨k + 1, by omega, by omega, by go_num, by rw [hs.out], trivial⟩
        case measure => simp [intOf]; omega
      · obtain rfl : k = l.length := by omega
        go_wp2
        go_ret
        exact ⟨ret_int HA.out, rfl⟩

set_option maxHeartbeats 1000000 in
theorem tmax_any (v : Value) (l : List Int) (w : World) (hv : Vs iv w v l) (h0 : 0 < l.length) (hl : l.length ≤ 9223372036854775807) :
    Calls Tryz.prog 76 #[v] w fun e w' => e = .returned (.int .i64 (greatOf l)) ∧ w = w' := by
  obtain ⟨A, c, rfl, hlc, hn, hcell⟩ := hv
  cases A with
  | none => have := hn rfl; omega
  | some a =>
    have HC := Lib.hid (hcell a rfl)
    have g0 : w.cell? a = some (.int .i64 l[0]) := by
      have := hcell a rfl 0 h0
      simpa [Addr.add, iv] using this
    have H1 := Lib.hid (hiT_one l h0)
    have HS := Lib.hid (hiT_succ l)
    have HA := Lib.hid (hiT_all (l := l) (Nat.le_refl _))
    clear hcell hn
    go_enter Tryz.func76, Tryz.ntmps76
    go_wp2
    go_loopw [3, 4] (fun m i wr => ∃ k : Nat, 1 ≤ k ∧ k ≤ l.length ∧ i = .int .i64 k ∧ m = .int .i64 (hiT l k) ∧ wr = w) (fun _ i _ => l.length - (intOf i).toNat)
    case atStart => exact ⟨1, Nat.le_refl _, h0, rfl, by rw [H1.out], rfl⟩
    case round =>
      obtain ⟨k, hk1, hk, rfl, rfl, rfl⟩ := hrel
      by_cases hlt : k < l.length
      · have g1 : wr.cell? (a.add k) = some (iv l[k]) := HC.out k hlt
        have hs := Lib.hid (HS.out k hlt)
        unfold iv at g1
        clear g0 H1
        generalize l[k] = x at *
        go_wp2
        go_roundw
        case rel => exact ⟨k + 1, by omega, by omega, by go_num, by rw [hs.out], trivial⟩
        case measure => simp [intOf]; omega
      · obtain rfl : k = l.length := by omega
        go_wp2
        go_ret
        exact ⟨ret_int HA.out, rfl⟩

set_option maxHeartbeats 1000000 in
theorem tneed_any (u : Nat) (w : World) (hu : u < 18446744073709551616) :
    Calls Tryz.prog 93 #[.int .u64 u] w fun e w' => e = .returned (.int .i64 (Lib.bitLen u : Nat)) ∧ w = w' := by
  have HB := Lib.hid (bitLen_le64 u hu)
  have HH := Lib.hid (fun x (h0 : x ≠ 0) (h : x < 18446744073709551616) => Lib.bitLen_half x h0 (by omega))
  go_enter Tryz.func93, Tryz.ntmps93
  go_wp2
  go_loopw [0, 3] (fun x i wr => ∃ y k : Nat, y < 18446744073709551616 ∧ x = .int .u64 y ∧ i = .int .i64 k ∧ Hid (k + Lib.bitLen y = Lib.bitLen u) ∧ k ≤ 64 ∧ wr = w) (fun x _ _ => (intOf x).toNat)
  case atStart => exact ⟨u, 0, hu, rfl, rfl, Lib.hid (by omega), by omega, rfl⟩
  case round =>
    obtain ⟨y, k, hy, rfl, rfl, HK, hk, rfl⟩ := hrel
    by_cases h0 : 0 < y
    · have HX := Lib.hid (HH.out y (by omega) hy)
      go_wp2
      go_roundw
      case rel => exact ⟨y / 2, k + 1, by omega, by go_num, by go_num, Lib.hid (by have := HK.out; have := HX.out; omega), by have := HK.out; have := HX.out; have := HB.out; omega, trivial⟩
      case measure => simp [intOf]; omega
    · obtain rfl : y = 0 := by omega
      go_wp2
      go_ret
      exact ⟨ret_int (by have := HK.out; rw [bitLen_zero] at this; omega), rfl⟩
end Go.Proofs.YtemfmnjhmmlmbaaGreat


namespace Go.Proofs.YtemfmnjhmmlmbaaGreat
set_option linter.unusedVariables false
set_option linter.unusedSimpArgs false
set_option maxRecDepth 100000
open Go.RowKit

/-- two blocks -/
def Two (g r : Nat) : Nat → Prop := fun q => q = g ∨ q = r

theorem bit_lt8 (q t : Nat) (ht : t < 8) (hq : q < 2 ^ t) (b : Bool) : q + b.toNat * 2 ^ t < 256 := by
  have := pow8 ht
  cases b <;> simp <;> omega
theorem or_bit (x j q t : Nat) (hx : x < 18446744073709551616) (ht : t < 8) (hq : q < 2 ^ t) :
    bits BinOp.or IntKind.u8 (q : Int) (bits BinOp.and IntKind.u64 ((x : Int) / 2 ^ j) 1 % 256 * 2 ^ t % 256) = ((q + (x.testBit j).toNat * 2 ^ t : Nat) : Int) := by
  have hd : (x : Int) / 2 ^ j = ((x / 2 ^ j : Nat) : Int) := by push_cast; rfl
  have hl : x / 2 ^ j < 18446744073709551616 := Nat.lt_of_le_of_lt (Nat.div_le_self _ _) hx
  have hb : (x.testBit j).toNat = x / 2 ^ j % 2 := Nat.toNat_testBit x j
  rw [hb, hd]
  generalize x / 2 ^ j = y at *
  rw [Lib.u64_and1 _ (by omega) (by omega)]
  have h2 : (y : Int) % 2 = ((y % 2 : Nat) : Int) := by push_cast; rfl
  have h3 : y % 2 < 2 := Nat.mod_lt _ (by decide)
  rw [h2]
  generalize y % 2 = b at *
  have all : ∀ b : Fin 2, ∀ t : Fin 8, ∀ q : Fin 128, q.1 < 2 ^ t.1 → bits .or .u8 (q.1 : Int) ((b.1 : Int) % 256 * 2 ^ t.1 % 256) = ((q.1 + b.1 * 2 ^ t.1 : Nat) : Int) := by decide +kernel
  have := pow8 ht
  exact all ⟨b, h3⟩ ⟨t, ht⟩ ⟨q, by omega⟩ hq

set_option maxHeartbeats 4000000 in
theorem sput_any (g r B N : Nat) (L : List Bool) (p k x : Nat) (lo wd : Value) (w : World)
    (hB : Blk w g 96 #[.slice (some ⟨r, 0, none⟩) N N, .int .i64 p, lo, wd])
    (hown : Ow bv 5 w B (.slice (some ⟨r, 0, none⟩) N N) (pk L p)) (hN : N = need L.length) (hgr : g ≠ r) (hL : L.length ≤ 100000000)
    (hx : x < 18446744073709551616) (hk : p + k ≤ L.length) (hbits : ∀ i, i < k → L[p + i]? = some (x.testBit i)) (hk64 : k ≤ 64) :
    Calls Tryz.prog 99 #[ptr g, .int .u64 x, .int .i64 k] w fun e w' => e = .returned (.tuple #[]) ∧
      Blk w' g 96 #[.slice (some ⟨r, 0, none⟩) N N, .int .i64 (p + k : Nat), lo, wd] ∧ Ow bv 5 w' B (.slice (some ⟨r, 0, none⟩) N N) (pk L (p + k)) ∧ Fr (Two g r) w w' := by
  have HN := Lib.hid hN
  have HB := Lib.hid hbits
  have hnl : L.length ≤ 8 * N := by rw [hN]; unfold need; omega
  clear hN hbits
  go_enter Tryz.func99, Tryz.ntmps99
  go_wp2
  go_loopw [8] (fun i wr => ∃ j : Nat, j ≤ k ∧ i = .int .i64 j ∧ Blk wr g 96 #[.slice (some ⟨r, 0, none⟩) N N, .int .i64 (p + j : Nat), lo, wd] ∧ Ow bv 5 wr B (.slice (some ⟨r, 0, none⟩) N N) (pk L (p + j)) ∧ Fr (Two g r) w wr) (fun i _ => k - (intOf i).toNat)
  case atStart => exact ⟨0, Nat.zero_le _, rfl, hB, hown, Fr.refl _ _⟩
  case round =>
    obtain ⟨j, hj, rfl, hB, hown, hfr⟩ := hrel
    by_cases hlt : j < k
    · have hpl : p + j < L.length := by omega
      have c0 : wr.cell? ⟨g, 0, none⟩ = some (.slice (some ⟨r, 0, none⟩) N N) := hB.cell 0
      have c1 : wr.cell? ⟨g, 1, none⟩ = some (.int .i64 (p + j : Nat)) := hB.cell 1
      have f1 := hB.frozen 1
      have hq := hown.cell (by rw [pk_length, HN.out]) ((p + j) / 8) _ (pk_at L hpl)
      have hfz := hown.frozen (by rw [pk_length, HN.out]) ((p + j) / 8)
      have hidx : (p + j) / 8 < N := by omega
      have hql := pkn_lt L hpl
      have HS := Lib.hid (show pk L (p + j + 1) = (pk L (p + j)).set ((p + j) / 8) (pkn L (p + j) ((p + j) / 8) + (x.testBit j).toNat * 2 ^ ((p + j) % 8)).toUInt8 by
        rw [pk_step L hpl]
        have h1 := HB.out j hlt
        rw [List.getElem?_eq_getElem hpl] at h1
        rw [show L[p + j] = x.testBit j by simpa using h1])
      unfold bv at hq
      rw [small8 (pkn_lt8 _ _ _)] at hq
      have HBk := Lib.hid hB
      have HO := Lib.hid hown
      have HF := Lib.hid hfr
      clear hB hown hfr
      generalize hQ : pkn L (p + j) ((p + j) / 8) = q at *
      have HQ := Lib.hid hQ
      clear hQ
      generalize hP : p + j = P at *
      have HP := Lib.hid hP
      clear hP
      go_wp2
      go_region
      have e1 : bits BinOp.or IntKind.u8 (q : Int) (bits BinOp.and IntKind.u64 ((x : Int) / 2 ^ j) 1 % 256 * 2 ^ (P % 8) % 256) = ((q + (x.testBit j).toNat * 2 ^ (P % 8) : Nat) : Int) := or_bit x j q (P % 8) (by omega) (by omega) hql
      have hs := (HO.out.store (by rw [pk_length, HN.out]) (P / 8) (q + (x.testBit j).toNat * 2 ^ (P % 8)).toUInt8).drew
      unfold bv at hs
      rw [small8 (bit_lt8 q (P % 8) (by omega) hql _), ← e1, ← HS.out] at hs
      have hfs : Fr (One r) wr (wr.setCell ⟨r, P / 8, none⟩ (.int .u8 (bits BinOp.or IntKind.u8 (q : Int) (bits BinOp.and IntKind.u64 ((x : Int) / 2 ^ j) 1 % 256 * 2 ^ (P % 8) % 256)))).drew := ((Fr.refl _ _).set1 _ _).drew
      have hB2 := HBk.out.fr hfs (fun e => hgr e)
      generalize (wr.setCell ⟨r, P / 8, none⟩ (.int .u8 (bits BinOp.or IntKind.u8 (q : Int) (bits BinOp.and IntKind.u64 ((x : Int) / 2 ^ j) 1 % 256 * 2 ^ (P % 8) % 256)))).drew = W at *
      have c1' : W.cell? ⟨g, 1, none⟩ = some (.int .i64 (P : Nat)) := hB2.cell 1
      have f1' := hB2.frozen 1
      have HB2 := Lib.hid hB2
      have HS2 := Lib.hid hs
      have HF2 := Lib.hid ((HF.out.mono (fun q _ h => h)).trans (hfs.mono (fun q _ h => .inr h)))
      clear hs hfs hB2 e1 c0 c1 f1 hq hfz
      go_wp2
      go_roundw
      case rel =>
        refine ⟨j + 1, by omega, by go_num, ?_, ?_, HF2.out.setCell (fun _ => .inl rfl) _⟩
        · have := HB2.out.set 1 (.int .i64 ((P : Int) + 1))
          rw [show p + (j + 1) = P + 1 by rw [← HP.out]; omega]
          exact this
        · have := HS2.out.fr ((Fr.refl (One g) W).set1 1 (.int .i64 ((P : Int) + 1))) (fun q hq e => hgr (by simp [Value.ownBlock] at hq; rw [hq]; exact e.symm))
          rw [show p + (j + 1) = P + 1 by rw [← HP.out]; omega]
          exact this
      case measure => simp [intOf]; omega
    · obtain rfl : j = k := by omega
      go_wp2
      go_end0
      exact ⟨rfl, hB, hown, hfr⟩

theorem u64_diff {x lo : Int} (hx : I64 x) (hlo : I64 lo) (h : lo ≤ x) : IntKind.u64.wrap (IntKind.u64.wrap x - IntKind.u64.wrap lo) = (((x - lo).toNat : Nat) : Int) := by
  unfold I64 at hx hlo
  simp only [IntKind.wrap_u64]
  omega

set_option maxHeartbeats 4000000 in
theorem sadd_any (g r B N : Nat) (L : List Bool) (p k : Nat) (x lo : Int) (w : World)
    (hB : Blk w g 96 #[.slice (some ⟨r, 0, none⟩) N N, .int .i64 p, .int .i64 lo, .int .i64 k])
    (hown : Ow bv 5 w B (.slice (some ⟨r, 0, none⟩) N N) (pk L p)) (hN : N = need L.length) (hgr : g ≠ r) (hL : L.length ≤ 100000000)
    (hx : I64 x) (hlo : I64 lo) (hle : lo ≤ x) (hk : p + k ≤ L.length) (hbits : ∀ i, i < k → L[p + i]? = some ((x - lo).toNat.testBit i)) (hk64 : k ≤ 64) :
    Calls Tryz.prog 78 #[ptr g, .int .i64 x] w fun e w' => e = .returned (.tuple #[]) ∧
      Blk w' g 96 #[.slice (some ⟨r, 0, none⟩) N N, .int .i64 (p + k : Nat), .int .i64 lo, .int .i64 k] ∧ Ow bv 5 w' B (.slice (some ⟨r, 0, none⟩) N N) (pk L (p + k)) ∧ Fr (Two g r) w w' := by
  have hu : (x - lo).toNat < 18446744073709551616 := by unfold I64 at hx hlo; omega
  have hsp := sput_any g r B N L p k (x - lo).toNat (.int .i64 lo) (.int .i64 k) w.drew hB.drew hown.drew hN hgr hL hu hk hbits hk64
  have e1 := u64_diff hx hlo hle
  have c2 : w.drew.cell? ⟨g, 2, none⟩ = some (.int .i64 lo) := hB.cell 2
  have c3 : w.drew.cell? ⟨g, 3, none⟩ = some (.int .i64 (k : Nat)) := hB.cell 3
  have HP := Lib.hid hsp
  clear hsp hbits hB hown hx hlo hle hN hL
  generalize (x - lo).toNat = u at *
  go_enter Tryz.func78, Tryz.ntmps78
  go_wp2
  go_region_held3 (fun W => W.cell? ⟨g, 2, none⟩ = some (.int .i64 lo) ∧ W.cell? ⟨g, 3, none⟩ = some (.int .i64 (k : Nat))) (first | exact ⟨c2, c3⟩ | exact ⟨d2, d3⟩) (first | (go_at_call 99; refine HP.out.mono ?_; rintro e w2 ⟨rfl, hB2, hown2, hf2⟩; have d2 : w2.cell? ⟨g, 2, none⟩ = some (.int .i64 lo) := hB2.cell 2; have d3 : w2.cell? ⟨g, 3, none⟩ = some (.int .i64 (k : Nat)) := hB2.cell 3))
  go_wp2
  go_end0
  exact ⟨rfl, hB2, hown2, ((Fr.refl _ _).drew).trans hf2⟩

theorem or_low64 (a b i : Nat) (ha : a < 2 ^ i) (hb : b < 2) (hi : i < 64) : a ||| (b * 2 ^ i) = a + b * 2 ^ i := by
  rw [Nat.add_comm, Nat.mul_comm b, Nat.or_comm]
  exact (Nat.two_pow_add_eq_or_of_lt ha b).symm
theorem and_one8 (q : Nat) (h : q < 256) : bits .and .u8 (q : Int) 1 = ((q % 2 : Nat) : Int) := by
  have all : ∀ q : Fin 256, bits .and .u8 (q.1 : Int) 1 = ((q.1 % 2 : Nat) : Int) := by decide +kernel
  exact all ⟨q, h⟩
theorem bit_cell (held : List UInt8) (p : Nat) (c : UInt8) (hc : held[p / 8]? = some c) : bits .and .u8 ((c.toNat : Int) / 2 ^ (p % 8)) 1 = (((bitOf held p).toNat : Nat) : Int) := by
  have hd : (c.toNat : Int) / 2 ^ (p % 8) = ((c.toNat / 2 ^ (p % 8) : Nat) : Int) := by push_cast; rfl
  rw [hd, and_one8 _ (Nat.lt_of_le_of_lt (Nat.div_le_self _ _) c.toNat_lt), ← Nat.toNat_testBit]
  unfold bitOf
  rw [List.getD_eq_getElem?_getD, hc]
  rfl
theorem num_mod (X b i : Nat) (hX : X < 2 ^ i) (hb : b < 2) :
    bits .or .u64 ((X % 18446744073709551616 : Nat) : Int) (IntKind.u64.wrap (IntKind.u64.wrap (b : Int) * 2 ^ min i 64)) = (((X + b * 2 ^ i) % 18446744073709551616 : Nat) : Int) := by
  rw [IntWalk.u64_in (b : Int) ⟨by omega, by omega⟩]
  have hc : (b : Int) * 2 ^ min i 64 = ((b * 2 ^ min i 64 : Nat) : Int) := by push_cast; rfl
  have hm : ∀ y : Nat, IntKind.u64.wrap (y : Int) = ((y % 18446744073709551616 : Nat) : Int) := by intro y; rw [IntKind.wrap_u64]; omega
  rw [hc, hm]
  rw [bits_or_u64_nat _ _ (Nat.mod_lt _ (by decide)) (Nat.mod_lt _ (by decide))]
  congr 1
  by_cases h : i < 64
  · rw [show min i 64 = i by omega]
    have h1 : 2 ^ i ≤ 2 ^ 63 := Nat.pow_le_pow_right (by decide) (by omega)
    have h2 : b * 2 ^ i ≤ 2 ^ i := by
      have := Nat.mul_le_mul_right (2 ^ i) (show b ≤ 1 by omega)
      omega
    have e := or_low64 X b i hX hb h
    generalize 2 ^ i = Y at *
    rw [Nat.mod_eq_of_lt (show X < 18446744073709551616 by omega), Nat.mod_eq_of_lt (show b * Y < 18446744073709551616 by omega), e, Nat.mod_eq_of_lt (by omega)]
  · obtain ⟨q, rfl⟩ : ∃ q, i = 64 + q := ⟨i - 64, by omega⟩
    rw [show min (64 + q) 64 = 64 by omega, Nat.pow_add, show (2 : Nat) ^ 64 = 18446744073709551616 by decide, Nat.mul_mod_left, Nat.or_zero, Nat.mul_comm 18446744073709551616, ← Nat.mul_assoc, Nat.add_mul_mod_self_right]
theorem num_step (held : List UInt8) (p i : Nat) (c : UInt8) (hc : held[(p + i) / 8]? = some c) :
    bits .or .u64 ((numT held p i % 18446744073709551616 : Nat) : Int) (IntKind.u64.wrap (IntKind.u64.wrap (bits .and .u8 ((c.toNat : Int) / 2 ^ ((p + i) % 8)) 1) * 2 ^ min i 64)) = ((numT held p (i + 1) % 18446744073709551616 : Nat) : Int) := by
  rw [bit_cell held (p + i) c hc, num_mod _ _ _ (numT_lt held p i) (by cases bitOf held (p + i) <;> decide), numT_succ]

set_option maxHeartbeats 4000000 in
theorem sget_any (g p k : Nat) (v : Value) (held : List UInt8) (lo wd : Value) (w : World)
    (hB : Blk w g 96 #[v, .int .i64 p, lo, wd]) (hv : Vs bv w v held) (hvg : 0 < held.length → ∀ q, v.ownBlock = some q → q ≠ g)
    (hk : p + k ≤ 8 * held.length) (hl : held.length ≤ 100000000) (hk8 : k ≤ 255) :
    Calls Tryz.prog 100 #[ptr g, .int .i64 k] w fun e w' => e = .returned (.int .u64 (numT held p k % 18446744073709551616 : Nat)) ∧
      Blk w' g 96 #[v, .int .i64 (p + k : Nat), lo, wd] ∧ Fr (One g) w w' := by
  obtain ⟨A, c, rfl, hlc, hn, hcell⟩ := hv
  have HC := Lib.hid hcell
  have HN := Lib.hid hn
  have HG := Lib.hid hvg
  have HV := Lib.hid (show Vs bv w (.slice A held.length c) held from ⟨A, c, rfl, hlc, hn, hcell⟩)
  clear hcell hn hvg
  go_enter Tryz.func100, Tryz.ntmps100
  go_wp2
  go_loopw [5, 8] (fun x i wr => ∃ j : Nat, j ≤ k ∧ i = .int .i64 j ∧ x = .int .u64 (numT held p j % 18446744073709551616 : Nat) ∧ Blk wr g 96 #[.slice A held.length c, .int .i64 (p + j : Nat), lo, wd] ∧ Fr (One g) w wr) (fun _ i _ => k - (intOf i).toNat)
  case atStart => exact ⟨0, Nat.zero_le _, rfl, rfl, hB, Fr.refl _ _⟩
  case round =>
    obtain ⟨j, hj, rfl, rfl, hB, hfr⟩ := hrel
    by_cases hlt : j < k
    · have hpl : (p + j) / 8 < held.length := by omega
      cases A with
      | none => have := HN.out rfl; omega
      | some a =>
        have c0 : wr.cell? ⟨g, 0, none⟩ = some (.slice (some a) held.length c) := hB.cell 0
        have c1 : wr.cell? ⟨g, 1, none⟩ = some (.int .i64 (p + j : Nat)) := hB.cell 1
        have f1 := hB.frozen 1
        have hq : wr.cell? (a.add ((p + j) / 8)) = some (bv (held[(p + j) / 8]'hpl)) := by
          obtain ⟨a', ha', _, _, hq⟩ := (HV.out.fr hfr (fun q hq e => HG.out (by omega) q hq e)).addr (by omega)
          obtain rfl : a = a' := by simpa using ha'
          exact hq ((p + j) / 8) hpl
        have hst := num_step held p j (held[(p + j) / 8]'hpl) (List.getElem?_eq_getElem hpl)
        have HS := Lib.hid hst
        clear hst
        unfold bv at hq
        have hx8 := held[(p + j) / 8].toNat_lt
        have HBk := Lib.hid hB
        have HF := Lib.hid hfr
        clear hB hfr
        generalize held[(p + j) / 8] = cb at *
        generalize hX : numT held p j % 18446744073709551616 = X at *
        have HX := Lib.hid hX
        clear hX
        generalize hP : p + j = P at *
        have HP := Lib.hid hP
        clear hP
        go_wp2
        go_region
        have c1' : wr.drew.cell? ⟨g, 1, none⟩ = some (.int .i64 (P : Nat)) := c1
        have f1' : wr.drew.frozen? ⟨g, 1, none⟩ = false := f1
        generalize hW : wr.drew = W at *
        have hBW : Blk W g 96 #[.slice (some a) held.length c, .int .i64 (P : Nat), lo, wd] := by rw [← hW]; exact HBk.out
        have hFW : Fr (One g) w W := by rw [← hW]; exact HF.out.drew
        have HBW := Lib.hid hBW
        have HFW := Lib.hid hFW
        clear hBW hFW hW
        go_wp2
        go_roundw
        case rel =>
          refine ⟨j + 1, by omega, by go_num, ?_, ?_, HFW.out.set1 _ _⟩
          · rw [HS.out]
          · have := HBW.out.set 1 (.int .i64 ((P : Int) + 1))
            rw [show p + (j + 1) = P + 1 by rw [← HP.out]; omega]
            exact this
        case measure => simp [intOf]; omega
    · obtain rfl : j = k := by omega
      go_wp2
      go_ret
      exact ⟨rfl, hB, hfr⟩

theorem tell_eq (lo : Int) (n : Nat) : IntKind.i64.wrap (IntKind.u64.wrap (IntKind.u64.wrap lo + ((n % 18446744073709551616 : Nat) : Int))) = w6 (lo + (n : Int)) := by
  unfold w6
  simp only [IntKind.wrap_u64, IntKind.wrap_i64]
  omega

set_option maxHeartbeats 4000000 in
theorem stell_any (g p k : Nat) (v : Value) (held : List UInt8) (lo : Int) (w : World)
    (hB : Blk w g 96 #[v, .int .i64 p, .int .i64 lo, .int .i64 k]) (hv : Vs bv w v held) (hvg : 0 < held.length → ∀ q, v.ownBlock = some q → q ≠ g)
    (hk : p + k ≤ 8 * held.length) (hl : held.length ≤ 100000000) (hk8 : k ≤ 255) :
    Calls Tryz.prog 80 #[ptr g] w fun e w' => e = .returned (.int .i64 (w6 (lo + (numT held p k : Nat)))) ∧
      Blk w' g 96 #[v, .int .i64 (p + k : Nat), .int .i64 lo, .int .i64 k] ∧ Fr (One g) w w' := by
  have HP := Lib.hid (sget_any g p k v held (.int .i64 lo) (.int .i64 k) w.drew hB.drew hv.drew hvg hk hl hk8)
  have HT := Lib.hid (tell_eq lo (numT held p k))
  have c2 : w.drew.cell? ⟨g, 2, none⟩ = some (.int .i64 lo) := hB.cell 2
  have c3 : w.drew.cell? ⟨g, 3, none⟩ = some (.int .i64 (k : Nat)) := hB.cell 3
  clear hB hv hvg hl
  generalize hM : numT held p k % 18446744073709551616 = m at *
  have HM := Lib.hid hM
  clear hM
  go_enter Tryz.func80, Tryz.ntmps80
  go_wp2
  go_region_held3 (fun W => W.cell? ⟨g, 2, none⟩ = some (.int .i64 lo) ∧ W.cell? ⟨g, 3, none⟩ = some (.int .i64 (k : Nat))) (first | exact ⟨c2, c3⟩ | exact ⟨d2, d3⟩) (first | (go_at_call 100; refine HP.out.mono ?_; rintro e w2 ⟨rfl, hB2, hf2⟩; have d2 : w2.cell? ⟨g, 2, none⟩ = some (.int .i64 lo) := hB2.cell 2; have d3 : w2.cell? ⟨g, 3, none⟩ = some (.int .i64 (k : Nat)) := hB2.cell 3))
  go_wp2
  go_ret
  exact ⟨ret_int HT.out, hB2, ((Fr.refl _ _).drew).trans hf2⟩
end Go.Proofs.YtemfmnjhmmlmbaaGreat


namespace Go.Proofs.YtemfmnjhmmlmbaaGreat
set_option linter.unusedVariables false
set_option linter.unusedSimpArgs false
set_option maxRecDepth 100000
open Go.RowKit

theorem cell_al {w : World} {p : Addr} {u : Value} {o : Obj} (h : w.cell? p = some u) : (w.alloc o).cell? p = some u :=
  (((Fr.refl Non w).alloc o).cell (World.block_lt_of_cell? w _ h) (fun e => e)).trans h

theorem bs_byte (w2 : World) {k : Nat} (hk : k ≤ 64) : Bs (w2.alloc (.cells #[.int .u8 ((k : Int) % 256)] 5)) (.slice (some ⟨w2.heap.size, 0, none⟩) 1 1) [k.toUInt8] := by
  have := bs_row w2 [k.toUInt8]
  simp only [List.map_cons, List.map_nil, bv, small64 hk] at this
  rw [show (k : Int) % 256 = (k : Int) by omega]
  exact this
/-- the three parts of what Put answers, as they lie ahead of the call of Concat -/
theorem parts_put {w2 : World} {B : Nat} {x z : Value} {t : TypeId} {l n : List UInt8} {k : Nat} (hk : k ≤ 64) (hx : Own w2 B x l) (hz : Bs w2 z n) :
    Parts ((w2.alloc (.cells #[.int .u8 ((k : Int) % 256)] 5)).alloc (.cells #[x, .slice (some ⟨w2.heap.size, 0, none⟩) 1 1, z] t)) (w2.heap.size + 1) [x, .slice (some ⟨w2.heap.size, 0, none⟩) 1 1, z] [l, [k.toUInt8], n] := by
  have hf : Fr Non w2 (w2.alloc (.cells #[.int .u8 ((k : Int) % 256)] 5)) := (Fr.refl _ _).alloc _
  have hy := bs_byte w2 hk
  have h := Parts.three (t := t) (hx.bs.non hf) hy (hz.non hf)
  rwa [show (w2.alloc (.cells #[.int .u8 ((k : Int) % 256)] 5)).heap.size = w2.heap.size + 1 by simp] at h

set_option maxHeartbeats 4000000 in
theorem tput_any (v : Value) (l : List Int) (w : World) (hv : Vs iv w v l) (hx : ∀ x ∈ l, I64 x) (hl : l.length ≤ 1000000) :
    Calls Tryz.prog 45 #[v] w fun e w' => ∃ u, e = .returned u ∧ Own w' w.heap.size u (putT l) ∧ Fr Non w w' := by
  have HV := Lib.hid hv
  have HX := Lib.hid hx
  clear hx
  obtain ⟨A, c, rfl, hlc, hn, hcell⟩ := hv
  have HN := Lib.hid hn
  have HC := Lib.hid hcell
  clear hn hcell
  by_cases h0 : l.length = 0
  · have hl0 : l = [] := List.eq_nil_of_length_eq_zero h0
    subst hl0
    go_enter Tryz.func45, Tryz.ntmps45
    go_wp2
    go_ret
    exact ⟨_, rfl, own_nil _ _, Fr.refl _ _⟩
  · have hpos : 0 < l.length := by omega
    have h64 := least_i64 HX.out
    have HLo := Lib.hid h64
    have HHi := Lib.hid (great_i64 HX.out)
    go_enter Tryz.func45, Tryz.ntmps45
    go_wp2_with fail
    refine (tmin_any _ l w HV.out hpos (by omega)).mono ?_
    rintro e w1 ⟨rfl, rfl⟩
    go_wp2_with fail
    have hB1 : Blk (w.alloc (.cells #[.slice none 0 0, .int .i64 0, .int .i64 (leastOf l), .int .i64 0] 96)) w.heap.size 96 #[.slice none 0 0, .int .i64 0, .int .i64 (leastOf l), .int .i64 0] := Blk.new _ _ _
    have hf1 : Fr Non w (w.alloc (.cells #[.slice none 0 0, .int .i64 0, .int .i64 (leastOf l), .int .i64 0] 96)) := (Fr.refl _ _).alloc _
    have hz1 : (w.alloc (.cells #[.slice none 0 0, .int .i64 0, .int .i64 (leastOf l), .int .i64 0] 96)).heap.size = w.heap.size + 1 := by simp
    generalize w.alloc (.cells #[.slice none 0 0, .int .i64 0, .int .i64 (leastOf l), .int .i64 0] 96) = W1 at *
    generalize hg : w.heap.size = g at *
    have hv1 := (HV.out.non hf1).drew
    have c2 : W1.drew.cell? ⟨g, 2, none⟩ = some (.int .i64 (leastOf l)) := hB1.cell 2
    have c3 : W1.drew.cell? ⟨g, 3, none⟩ = some (.int .i64 0) := hB1.cell 3
    have f3 : W1.drew.frozen? ⟨g, 3, none⟩ = false := hB1.frozen 3
    have hle : leastOf l ≤ greatOf l := Int.le_trans (least_le l 0 hpos) (great_ge l 0 hpos)
    have e1 := u64_diff HHi.out HLo.out hle
    have hd := diff_lt HX.out
    have HLen := Lib.hid (fun W => len64_any (greatOf l - leastOf l).toNat W hd)
    have HMax := Lib.hid (tmax_any _ l _ hv1 hpos (by omega))
    have hB2 := (hB1.set 3 (.int .i64 (Lib.bitLen (greatOf l - leastOf l).toNat : Nat))).drew
    have d2 : (W1.setCell ⟨g, 3, none⟩ (.int .i64 (Lib.bitLen (greatOf l - leastOf l).toNat : Nat))).drew.cell? ⟨g, 2, none⟩ = some (.int .i64 (leastOf l)) := hB2.cell 2
    have HB1 := Lib.hid hB1
    have HB2 := Lib.hid hB2
    have HF1 := Lib.hid hf1
    clear hd hle hB1 hB2 hf1 hv1
    generalize hD : (greatOf l - leastOf l).toNat = d at *
    have HD := Lib.hid hD
    clear hD
    go_region_held3 (fun W => W.cell? ⟨g, 2, none⟩ = some (.int .i64 (leastOf l))) (first | exact c2 | exact d2) (first | (go_at_call 76; refine HMax.out.mono ?_; rintro e w2 ⟨rfl, rfl⟩) | (go_at_call 75; refine (HLen.out _).mono ?_; rintro e w2 ⟨rfl, rfl⟩))
    have hB2 := HB2.out
    have hf2 : Fr Non w (W1.setCell ⟨g, 3, none⟩ (.int .i64 (Lib.bitLen d : Nat))).drew := (HF1.out.setCell (p := ⟨g, 3, none⟩) (fun h => by have h : g < w.heap.size := h; omega) _).drew
    have hz2 : (W1.setCell ⟨g, 3, none⟩ (.int .i64 (Lib.bitLen d : Nat))).drew.heap.size = g + 1 := by simpa using hz1
    clear c2 c3 f3 d2 e1
    generalize (W1.setCell ⟨g, 3, none⟩ (.int .i64 (Lib.bitLen d : Nat))).drew = W2 at *
    have hk64 := width_le HX.out
    have HW := Lib.hid (show width l = Lib.bitLen d by unfold width; rw [HD.out])
    rw [HW.out] at hk64
    generalize Lib.bitLen d = k at *
    have c3 : W2.cell? ⟨g, 3, none⟩ = some (.int .i64 (k : Nat)) := hB2.cell 3
    have c0 : W2.cell? ⟨g, 0, none⟩ = some (.slice none 0 0) := hB2.cell 0
    have f0 := hB2.frozen 0
    have HB3 := Lib.hid hB2
    have HF3 := Lib.hid hf2
    clear hB2 hf2
    go_wp2_with fail
    refine (tsize_any l.length k W2 hl (by omega)).mono ?_
    rintro e w2 ⟨rfl, rfl⟩
    generalize hNN : need (l.length * k) = N at *
    have hN9 : N ≤ 100000000 := by rw [← hNN]; have := Nat.mul_le_mul hl hk64; unfold need; omega
    have HNN := Lib.hid hNN
    clear hNN
    go_wp2_with (at_make; refine wpList_mkfullG el_u8 (f := bv) (0 : UInt8) rfl rfl _ _ rfl _ _ _ _ N rfl rfl rfl rfl (by omega) ?_; intro w3 hown3 hf3; rw [hz2] at hown3 ⊢; have b3 := HB3.out.fr hf3 (fun e => e); have c3 : w3.cell? ⟨g, 3, none⟩ = some (.int .i64 (k : Nat)) := b3.cell 3; have c0 : w3.cell? ⟨g, 0, none⟩ = some (.slice none 0 0) := b3.cell 0; have f0 := b3.frozen 0; have HB4 := Lib.hid b3; clear b3; have HO3 := Lib.hid hown3; clear hown3)
    have HL := Lib.hid (show N = need (allB k (leastOf l) l).length by rw [allB_length, HNN.out])
    have HLn := Lib.hid (allB_length k (leastOf l) l)
    have HLk : Hid (l.length * k ≤ 100000000) := Lib.hid (by have := Nat.mul_le_mul hl hk64; omega)
    have hgw : ¬ g < w.heap.size := by omega
    have hBs := HB4.out.set 0 (.slice (some ⟨g + 1, 0, none⟩) N N)
    have hos := HO3.out.fr ((Fr.refl (One g) w3).set1 0 (.slice (some ⟨g + 1, 0, none⟩) N N)) (fun q hq e => by simp [Value.ownBlock] at hq; have : q = g := e; omega)
    have hfs : Fr Non w (w3.setCell ⟨g, 0, none⟩ (.slice (some ⟨g + 1, 0, none⟩) N N)) := (HF3.out.trans hf3).setCell (p := ⟨g, 0, none⟩) (fun h => hgw h) _
    have hp0 : pk (allB k (leastOf l) l) (0 * k) = List.replicate N 0 := by rw [Nat.zero_mul, pk_zero, ← HL.out]
    rw [← hp0] at hos
    clear hf3 hp0 c0 c3 f0
    go_loopw [31] (fun i wr => ∃ j : Nat, j ≤ l.length ∧ i = .int .i64 j ∧ Blk wr g 96 #[.slice (some ⟨g + 1, 0, none⟩) N N, .int .i64 (j * k : Nat), .int .i64 (leastOf l), .int .i64 k] ∧ Ow bv 5 wr (g + 1) (.slice (some ⟨g + 1, 0, none⟩) N N) (pk (allB k (leastOf l) l) (j * k)) ∧ Fr Non w wr) (fun i _ => l.length - (intOf i).toNat)
    case atStart => exact ⟨0, Nat.zero_le _, rfl, by rw [Nat.zero_mul]; exact hBs, hos, hfs⟩
    case round =>
      clear hBs hos hfs
      obtain ⟨j, hj, rfl, hB, hown, hfr⟩ := hrel
      by_cases hlt : j < l.length
      · cases A with
        | none => have := HN.out rfl; omega
        | some a =>
          have hc0 := HC.out a rfl j hlt
          have hc1 : wr.cell? (a.add j) = some (iv l[j]) := (hfr.cell (World.block_lt_of_cell? w _ hc0) (fun e => e)).trans hc0
          unfold iv at hc1
          have hadd := sadd_any g (g + 1) (g + 1) N (allB k (leastOf l) l) (j * k) k l[j] (leastOf l) wr hB hown HL.out (by omega) (by rw [HLn.out]; exact HLk.out) (HX.out _ (by simp)) HLo.out (least_le l j hlt)
            (by rw [HLn.out]; have := Nat.mul_le_mul_right k (show j + 1 ≤ l.length by omega); rw [Nat.add_mul, Nat.one_mul] at this; exact this)
            (fun i hi => by
              have hp : j * k + i < (allB k (leastOf l) l).length := by rw [HLn.out]; exact place_lt hi hlt
              rw [List.getElem?_eq_getElem hp, allB_at (leastOf l) l hi hlt hp])
            hk64
          have HA := Lib.hid hadd
          have HFr := Lib.hid hfr
          clear hadd hc0 hB hown hfr
          generalize l[j] = x at *
          go_wp2_with fail
          refine HA.out.mono ?_
          rintro e w5 ⟨rfl, hB5, hown5, hf5⟩
          go_wp2
          go_roundw
          case rel =>
            have e : j * k + k = (j + 1) * k := by rw [Nat.add_mul, Nat.one_mul]
            rw [e] at hB5 hown5
            exact ⟨j + 1, by omega, by go_num, hB5, hown5, HFr.out.fresh hf5 (fun q hq => by rcases hq with h | h <;> omega)⟩
          case measure => simp [intOf]; omega
      · obtain rfl : j = l.length := by omega
        rw [pk_all _ (by rw [HLn.out]; exact Nat.le_refl _)] at hown
        have d0 : wr.drew.cell? ⟨g, 0, none⟩ = some (.slice (some ⟨g + 1, 0, none⟩) N N) := hB.cell 0
        have d2 : wr.drew.cell? ⟨g, 2, none⟩ = some (.int .i64 (leastOf l)) := hB.cell 2
        have d3 : wr.drew.cell? ⟨g, 3, none⟩ = some (.int .i64 (k : Nat)) := hB.cell 3
        have HO := Lib.hid hown
        have HF := Lib.hid hfr.drew
        have HF0 := Lib.hid hfr
        have HBk := Lib.hid hB
        have hgr := hB.lt
        have ek : IntKind.u8.wrap (k : Int) = ((k.toUInt8.toNat : Nat) : Int) := by rw [small64 hk64, IntKind.wrap_u8]; omega
        have HLt : Hid ([Lib.uvarint (zig (leastOf l)), [k.toUInt8], packB (allB k (leastOf l) l)].flatten.length < 1099511627776) := Lib.hid (by
          have := Lib.uvarint_length64 (zig_lt h64.1 h64.2)
          simp only [List.flatten_cons, List.flatten_nil, List.length_append, List.length_nil, packB_length, ← HL.out, List.length_cons]
          omega)
        have HPt : Hid ([Lib.uvarint (zig (leastOf l)), [k.toUInt8], packB (allB k (leastOf l) l)].flatten = putT l) := Lib.hid (by
          rw [putT_some (by intro e; rw [e] at hpos; simp at hpos), HW.out]
          simp)
        have hgr2 : g < (wr.alloc (.cells #[.int .u8 ((k : Int) % 256)] 5)).drew.heap.size := by show g < (wr.alloc (.cells #[.int .u8 ((k : Int) % 256)] 5)).heap.size; simp; omega
        have HY := Lib.hid (bs_byte wr hk64)
        clear hown hfr hB
        go_wp2_with fail
        go_region_held3 (fun W => W.cell? ⟨g, 0, none⟩ = some (.slice (some ⟨g + 1, 0, none⟩) N N) ∧ W.cell? ⟨g, 2, none⟩ = some (.int .i64 (leastOf l)) ∧ W.cell? ⟨g, 3, none⟩ = some (.int .i64 (k : Nat))) (first | exact ⟨d0, d2, d3⟩ | exact ⟨cell_al (w := wr) d0, cell_al (w := wr) d2, cell_al (w := wr) d3⟩ | exact ⟨q0, q2, q3⟩ | exact ⟨cell_al q0, cell_al q2, cell_al q3⟩ | exact ⟨cell_al (cell_al q0), cell_al (cell_al q2), cell_al (cell_al q3)⟩ | exact ⟨z0, z2, z3⟩) (first | (go_at_call 65; refine (vint_any (leastOf l) _ h64.1 h64.2).mono ?_; rintro e w2 ⟨v1, rfl, hown1, hf1⟩; obtain ⟨A1, c1, rfl⟩ := hown1.bs.shape; have q0 := (hf1.cell (p := ⟨g, 0, none⟩) hgr (fun e => e)).trans d0; have q2 := (hf1.cell (p := ⟨g, 2, none⟩) hgr (fun e => e)).trans d2; have q3 := (hf1.cell (p := ⟨g, 3, none⟩) hgr (fun e => e)).trans d3) | (go_at_call 65; refine (vint_any (leastOf l) _ h64.1 h64.2).mono ?_; rintro e w2 ⟨v1, rfl, hown1, hfb⟩; obtain ⟨A1, c1, rfl⟩ := hown1.bs.shape; have q0 := (hfb.cell (p := ⟨g, 0, none⟩) hgr2 (fun e => e)).trans (cell_al (w := wr) d0); have q2 := (hfb.cell (p := ⟨g, 2, none⟩) hgr2 (fun e => e)).trans (cell_al (w := wr) d2); have q3 := (hfb.cell (p := ⟨g, 3, none⟩) hgr2 (fun e => e)).trans (cell_al (w := wr) d3)) | (go_at_call 23; refine (concat_any (w2.heap.size + 1) 3 3 _ [Lib.uvarint (zig (leastOf l)), [k.toUInt8], packB (allB k (leastOf l) l)] _ rfl (by omega) (parts_put hk64 hown1 (HO.out.vs.bs.drew.non hf1)) HLt.out).mono ?_; rintro e w4 ⟨v4, rfl, hown4, hf4⟩; have z0 := (hf4.cell (p := ⟨g, 0, none⟩) (World.block_lt_of_cell? _ _ (cell_al (cell_al q0))) (fun e => e)).trans (cell_al (cell_al q0)); have z2 := (hf4.cell (p := ⟨g, 2, none⟩) (World.block_lt_of_cell? _ _ (cell_al (cell_al q2))) (fun e => e)).trans (cell_al (cell_al q2)); have z3 := (hf4.cell (p := ⟨g, 3, none⟩) (World.block_lt_of_cell? _ _ (cell_al (cell_al q3))) (fun e => e)).trans (cell_al (cell_al q3))) | (go_at_call 23; refine (concat_any w2.heap.size 3 3 _ [Lib.uvarint (zig (leastOf l)), [k.toUInt8], packB (allB k (leastOf l) l)] _ rfl (by omega) (Parts.three hown1.bs (HY.out.drew.non hfb) ((HO.out.vs.bs.non ((Fr.refl Non _).alloc _)).drew.non hfb)) HLt.out).mono ?_; rintro e w4 ⟨v4, rfl, hown4, hf4⟩; have z0 := (hf4.cell (p := ⟨g, 0, none⟩) (World.block_lt_of_cell? _ _ (cell_al q0)) (fun e => e)).trans (cell_al q0); have z2 := (hf4.cell (p := ⟨g, 2, none⟩) (World.block_lt_of_cell? _ _ (cell_al q2)) (fun e => e)).trans (cell_al q2); have z3 := (hf4.cell (p := ⟨g, 3, none⟩) (World.block_lt_of_cell? _ _ (cell_al q3)) (fun e => e)).trans (cell_al q3)))
        · go_wp2
          go_ret
          rw [HPt.out] at hown4
          have hfin := (((HF.out.trans hf1).alloc (.cells #[.int .u8 ((k : Int) % 256)] 5)).alloc (.cells #[.slice A1 (Lib.uvarint (zig (leastOf l))).length c1, .slice (some ⟨w2.heap.size, 0, none⟩) 1 1, .slice (some ⟨g + 1, 0, none⟩) N N] 22))
          refine ⟨v4, rfl, ?_, hfin.trans hf4⟩
          have := hown4.mono (B' := w.heap.size) hfin.size
          rwa [hg] at this ⊢
        · go_wp2
          go_ret
          rw [HPt.out] at hown4
          have hfin := ((((HF0.out.alloc (.cells #[.int .u8 ((k : Int) % 256)] 5)).drew).trans hfb).alloc (.cells #[.slice A1 (Lib.uvarint (zig (leastOf l))).length c1, .slice (some ⟨wr.heap.size, 0, none⟩) 1 1, .slice (some ⟨g + 1, 0, none⟩) N N] 22))
          refine ⟨v4, rfl, ?_, hfin.trans hf4⟩
          have := hown4.mono (B' := w.heap.size) hfin.size
          rwa [hg] at this ⊢
end Go.Proofs.YtemfmnjhmmlmbaaGreat


namespace Go.Proofs.YtemfmnjhmmlmbaaGreat
set_option linter.unusedVariables false
set_option linter.unusedSimpArgs false
set_option maxRecDepth 100000
open Go.RowKit

theorem cut_none : cutT [] 1 = [] ∧ cutR [] 1 = [] ∧ cutB [] true 1 = true ∧ cutB [] false 1 = true := by decide
theorem cut_one (c : UInt8) (r : List UInt8) : cutT (c :: r) 1 = [c] ∧ cutR (c :: r) 1 = r ∧ cutB (c :: r) false 1 = false := by
  unfold cutT cutR cutB cutOk
  rw [decide_eq_true (by simp; omega)]
  exact ⟨rfl, rfl, rfl⟩
theorem cut_all (r : List UInt8) : cutT r (r.length : Nat) = r ∧ cutR r (r.length : Nat) = [] ∧ cutB r false (r.length : Nat) = false := by
  unfold cutT cutR cutB cutOk
  rw [decide_eq_true (by simp)]
  simp

/-- a call's end where its first result lies in a cell: a struct in a block of its own -/
theorem ret_cell {fn : Func} {p u : Tmp} {ty : TypeId} (h : fn.results = #[.cell p ty, .tmp u]) (tmps : Array Value) (w : World) (g : Nat) (t : TypeId) (cs : Array Value)
    (hp : tmps.getD p undef = .pointer (some ⟨g, 0, none⟩)) (hg : Blk w g t cs)
    (hl : (loadVar ty ⟨g, 0, none⟩).run Tryz.prog w = .ok (.agg cs) w) :
    (results fn tmps).run Tryz.prog w = .ok (.tuple #[.agg cs, tmps.getD u undef]) w := by
  rw [results_cell_tmp h, hp]
  simp [asAddr, hl, Result.andThen]
theorem load_pack {w : World} {g : Nat} {cs : Array Value} (hg : Blk w g 96 cs) (h4 : cs.size = 4) : (loadVar 96 ⟨g, 0, none⟩).run Tryz.prog w = .ok (.agg cs) w :=
  run_loadVar_row w g 96 96 cs (0, 0) _ hg Tryz.underlying96 rfl (by rw [h4]; kernel_rfl)

/-- what open answers where it fails -/
def noPack : Value := .agg #[.slice none 0 0, .int .i64 0, .int .i64 0, .int .i64 0]

set_option maxHeartbeats 4000000 in
theorem topen_none (v : Value) (b : List UInt8) (n : Nat) (w : World) (hv : Bs w v b) (hn : n ≤ 4096) (hp : parse b = none) :
    Calls Tryz.prog 79 #[v, .int .i64 n] w fun e w' => e = .returned (.tuple #[noPack, .bool false]) ∧ Fr Non w w' := by
  have HV := Lib.hid hv
  obtain ⟨A, c, rfl, _⟩ := hv
  have hcase : Hid (rest b = [] ∧ cutB (rest b) (fell b) 1 = true) := Lib.hid (by
    unfold parse at hp
    cases hr : rd 0 0 b with
    | none => obtain ⟨h1, h2, _⟩ := rest_none hr; rw [h1, h2]; exact ⟨rfl, cut_none.2.2.1⟩
    | some y =>
      obtain ⟨z, r⟩ := y
      rw [hr] at hp
      cases r with
      | nil => obtain ⟨h1, h2, _⟩ := rest_some hr; rw [h1, h2]; exact ⟨rfl, cut_none.2.2.2⟩
      | cons c r => cases hp)
  clear hp
  go_enter Tryz.func79, Tryz.ntmps79
  go_wp2_with fail
  have hB0 : Blk (w.alloc (.cells #[.slice none 0 0, .int .i64 0, .int .i64 0, .int .i64 0] 96)) w.heap.size 96 #[.slice none 0 0, .int .i64 0, .int .i64 0, .int .i64 0] := Blk.new _ _ _
  have f0 : Fr Non w (w.alloc (.cells #[.slice none 0 0, .int .i64 0, .int .i64 0, .int .i64 0] 96)) := (Fr.refl _ _).alloc _
  have hz : (w.alloc (.cells #[.slice none 0 0, .int .i64 0, .int .i64 0, .int .i64 0] 96)).heap.size = w.heap.size + 1 := by simp
  generalize w.alloc (.cells #[.slice none 0 0, .int .i64 0, .int .i64 0, .int .i64 0] 96) = W0 at *
  have h1 := from_any _ b W0 (HV.out.non f0)
  rw [hz] at h1
  generalize hR : w.heap.size = R at *
  refine h1.mono ?_
  rintro e w1 ⟨rfl, s1, f1⟩
  have hB1 := hB0.fr f1 (fun e => e)
  have f01 := f0.trans f1
  clear h1 hB0 f0 f1
  go_wp2_with fail
  refine (sint_any (R + 1) b false w1 s1).mono ?_
  rintro e w2 ⟨rfl, s2, f2⟩
  have hB2 := hB1.fr f2 (fun e => by have : R = R + 1 := e; omega)
  have f02 := f01.fresh f2 (fun q hq => by have : q = R + 1 := hq; omega)
  have hz2 := s2.1.lt
  have hF2 := (Fr.refl Non w2).alloc (.cells #[.slice none 0 0, .int .i64 0, .int .i64 (unzig (fstN b)), .int .i64 0] 96)
  have f03 := f02.trans hF2
  have s3 := s2.fr hF2 (fun e => e)
  have hB3 := hB2.fr hF2 (fun e => e)
  clear hB1 f01 f2 hB2 f02 hF2 s2 s1
  go_wp2_with fail
  refine (take_any (R + 1) (rest b) (fell b) 1 _ s3).mono ?_
  rintro e w4 ⟨v4, rfl, hb4, hn4, s4, f4⟩
  rw [hcase.out.2] at s4
  have hB4 := hB3.fr f4 (fun e => by have : R = R + 1 := e; omega)
  have f04 := f03.fresh f4 (fun q hq => by have : q = R + 1 := hq; omega)
  clear hB3 s3 f4 f03
  go_wp2_with fail
  refine (ok_any (R + 1) _ _ w4 s4).mono ?_
  rintro e w5 ⟨rfl, rfl⟩
  have HB4 := Lib.hid hB4
  have HF4 := Lib.hid f04
  have hfz := hB4.frozen
  have hc0 : w4.cell? ⟨R, 0, none⟩ = some (.slice none 0 0) := hB4.cell 0
  have hc1 : w4.cell? ⟨R, 1, none⟩ = some (.int .i64 0) := hB4.cell 1
  have hc2 : w4.cell? ⟨R, 2, none⟩ = some (.int .i64 0) := hB4.cell 2
  have hc3 : w4.cell? ⟨R, 3, none⟩ = some (.int .i64 0) := hB4.cell 3
  have fz0 := hfz 0
  have fz1 := hfz 1
  have fz2 := hfz 2
  have fz3 := hfz 3
  clear hfz hB4 f04 hn4 hb4
  go_wp2
  (try simp only [Exit.inBlock, Exit.then])
  have hBe : Blk ((((w4.setCell ⟨R, 0, none⟩ (.slice none 0 0)).setCell ⟨R, 1, none⟩ (.int .i64 0)).setCell ⟨R, 2, none⟩ (.int .i64 0)).setCell ⟨R, 3, none⟩ (.int .i64 0)) R 96 #[.slice none 0 0, .int .i64 0, .int .i64 0, .int .i64 0] :=
    (((HB4.out.set 0 _).set 1 _).set 2 _).set 3 _
  have hn : ∀ i : Nat, ¬ (⟨R, i, none⟩ : Addr).block < w.heap.size := fun i h => by have h : R < w.heap.size := h; omega
  refine bodyPost_ret (v := .tuple #[noPack, .bool false]) (ret_cell (p := 4) (u := 5) (ty := 96) rfl _ _ R _ _ rfl hBe (load_pack hBe rfl)) rfl ⟨rfl, ?_⟩
  exact (((HF4.out.setCell (fun h => absurd h (hn 0)) _).setCell (fun h => absurd h (hn 1)) _).setCell (fun h => absurd h (hn 2)) _).setCell (fun h => absurd h (hn 3)) _

set_option maxHeartbeats 4000000 in
theorem topen_some (v : Value) (b : List UInt8) (n : Nat) (lo : Int) (k : Nat) (r : List UInt8) (w : World) (hv : Bs w v b) (hn : n ≤ 4096) (hbl : b.length ≤ 100000000) (hp : parse b = some (lo, k, r)) :
    Calls Tryz.prog 79 #[v, .int .i64 n] w fun e w' => ∃ u, e = .returned (.tuple #[.agg #[u, .int .i64 0, .int .i64 lo, .int .i64 k], .bool (decide (r.length = need (n * k)))]) ∧ Bs w' u r ∧ (∀ q, u.ownBlock = some q → w.heap.size ≤ q) ∧ k ≤ 255 ∧ r.length ≤ b.length ∧ Fr Non w w' := by
  have HV := Lib.hid hv
  obtain ⟨A, c, rfl, _⟩ := hv
  obtain ⟨ch, hch⟩ : ∃ ch : UInt8, rest b = ch :: r ∧ fell b = false ∧ unzig (fstN b) = lo ∧ ch.toNat = k ∧ r.length ≤ b.length := by
    unfold parse at hp
    cases hr : rd 0 0 b with
    | none => rw [hr] at hp; cases hp
    | some y =>
      obtain ⟨z, q⟩ := y
      obtain ⟨h1, h2, h3, _⟩ := rest_some hr
      have h4 := rd_len (by omega) hr
      rw [hr] at hp
      cases q with
      | nil => cases hp
      | cons ch q =>
        simp only [Option.some.injEq, Prod.mk.injEq] at hp
        obtain ⟨e1, e2, e3⟩ := hp
        subst e1 e2 e3
        exact ⟨ch, h1, h2, by rw [h3], rfl, by simp at h4; omega⟩
  obtain ⟨hr1, hr2, hr3, hr4, hr5⟩ := hch
  have hk8 : k ≤ 255 := by rw [← hr4]; have := ch.toNat_lt; omega
  have HR := Lib.hid hr1
  have HL := Lib.hid hr3
  have HK := Lib.hid hr4
  clear hp hr1 hr3 hr4
  go_enter Tryz.func79, Tryz.ntmps79
  go_wp2_with fail
  have hB0 : Blk (w.alloc (.cells #[.slice none 0 0, .int .i64 0, .int .i64 0, .int .i64 0] 96)) w.heap.size 96 #[.slice none 0 0, .int .i64 0, .int .i64 0, .int .i64 0] := Blk.new _ _ _
  have f0 : Fr Non w (w.alloc (.cells #[.slice none 0 0, .int .i64 0, .int .i64 0, .int .i64 0] 96)) := (Fr.refl _ _).alloc _
  have hz : (w.alloc (.cells #[.slice none 0 0, .int .i64 0, .int .i64 0, .int .i64 0] 96)).heap.size = w.heap.size + 1 := by simp
  generalize w.alloc (.cells #[.slice none 0 0, .int .i64 0, .int .i64 0, .int .i64 0] 96) = W0 at *
  have h1 := from_any _ b W0 (HV.out.non f0)
  rw [hz] at h1
  generalize hR : w.heap.size = R at *
  refine h1.mono ?_
  rintro e w1 ⟨rfl, s1, f1⟩
  have hB1 := hB0.fr f1 (fun e => e)
  have f01 := f0.trans f1
  clear h1 hB0 f0 f1
  go_wp2_with fail
  have h2 := sint_any (R + 1) b false w1 s1
  rw [HL.out, HR.out, hr2] at h2
  refine h2.mono ?_
  rintro e w2 ⟨rfl, s2, f2⟩
  clear h2
  have hB2 := hB1.fr f2 (fun e => by have : R = R + 1 := e; omega)
  have f02 := f01.fresh f2 (fun q hq => by have : q = R + 1 := hq; omega)
  have hz2 := s2.1.lt
  have hF2 := (Fr.refl Non w2).alloc (.cells #[.slice none 0 0, .int .i64 0, .int .i64 (lo), .int .i64 0] 96)
  have f03 := f02.trans hF2
  have s3 := s2.fr hF2 (fun e => e)
  have hB3 := hB2.fr hF2 (fun e => e)
  clear hB1 f01 f2 hB2 f02 hF2 s2 s1
  have hP2 : Blk (w2.alloc (.cells #[.slice none 0 0, .int .i64 0, .int .i64 lo, .int .i64 0] 96)) w2.heap.size 96 #[.slice none 0 0, .int .i64 0, .int .i64 lo, .int .i64 0] := Blk.new _ _ _
  go_wp2_with fail
  have h3 := take_any (R + 1) (ch :: r) false 1 _ s3
  rw [(cut_one ch r).1, (cut_one ch r).2.1, (cut_one ch r).2.2] at h3
  refine h3.mono ?_
  rintro e w4 ⟨v4, rfl, hb4, hn4, s4, f4⟩
  clear h3
  have hB4 := hB3.fr f4 (fun e => by have : R = R + 1 := e; omega)
  have hP4 := hP2.fr f4 (fun e => by have : w2.heap.size = R + 1 := e; omega)
  have f04 := f03.fresh f4 (fun q hq => by have : q = R + 1 := hq; omega)
  clear hB3 s3 f4 f03 hP2
  generalize hG : w2.heap.size = G at *
  go_wp2_with fail
  refine (ok_any (R + 1) _ _ w4 s4).mono ?_
  rintro e w5 ⟨rfl, rfl⟩
  have hcw : ∃ a c4, v4 = .slice (some a) 1 c4 ∧ w4.cell? a = some (.int .u8 (k : Nat)) := by
    obtain ⟨A4, c4, rfl, _⟩ := hb4.shape
    obtain ⟨a, rfl, _, _, h⟩ := hb4.vs.addr (by simp)
    refine ⟨a, c4, rfl, ?_⟩
    have := h 0 (by simp)
    simpa [bv, HK.out, Addr.add] using this
  obtain ⟨a, c4, rfl, hca⟩ := hcw
  have p3 : w4.cell? ⟨G, 3, none⟩ = some (.int .i64 0) := hP4.cell 3
  have fp3 := hP4.frozen 3
  have hGw : ¬ G < w.heap.size := by omega
  have hRw : ¬ R < w.heap.size := by omega
  have hP5 := hP4.set 3 (.int .i64 (k : Nat))
  have s5 := s4.fr ((Fr.refl (One G) w4).set1 3 (.int .i64 (k : Nat))) (fun e => by have : R + 1 = G := e; omega)
  have hB5 := hB4.fr ((Fr.refl (One G) w4).set1 3 (.int .i64 (k : Nat))) (fun e => by have : R = G := e; omega)
  have f05 : Fr Non w (w4.setCell ⟨G, 3, none⟩ (.int .i64 (k : Nat))) := f04.setCell (p := ⟨G, 3, none⟩) (fun h => hGw h) _
  clear hb4 hn4 hP4 s4 hB4 f04
  go_wp2_with fail
  clear p3 fp3 hca
  generalize w4.setCell ⟨G, 3, none⟩ (.int .i64 (k : Nat)) = w5 at *
  refine (left_any (R + 1) _ _ w5 s5).mono ?_
  rintro e w6 ⟨rfl, rfl⟩
  go_wp2_with fail
  have h6 := take_any (R + 1) r false (r.length : Nat) w5 s5
  rw [(cut_all r).1, (cut_all r).2.1, (cut_all r).2.2] at h6
  refine h6.mono ?_
  rintro e w6 ⟨v6, rfl, hb6, hn6, s6, f6⟩
  obtain ⟨A6, c6, rfl⟩ := hb6.shape
  have hB6 := hB5.fr f6 (fun e => by have : R = R + 1 := e; omega)
  have hP6 := hP5.fr f6 (fun e => by have : G = R + 1 := e; omega)
  have f06 := f05.fresh f6 (fun q hq => by have : q = R + 1 := hq; omega)
  have hn7 : ∀ q, (Value.slice A6 r.length c6).ownBlock = some q → q ≠ G ∧ q ≠ R ∧ w.heap.size ≤ q := fun q hq => by
    have h1 := hn6 q hq
    have h2 := hP5.lt
    have h3 := hB5.lt
    exact ⟨by omega, by omega, by omega⟩
  have p0 : w6.cell? ⟨G, 0, none⟩ = some (.slice none 0 0) := hP6.cell 0
  have fp0 := hP6.frozen 0
  have hP7 := hP6.set 0 (.slice A6 r.length c6)
  have hF7 := (Fr.refl (One G) w6).set1 0 (.slice A6 r.length c6)
  have hB7 := hB6.fr hF7 (fun e => by have : R = G := e; omega)
  have hb7 := hb6.fr hF7 (fun q hq e => (hn7 q hq).1 e)
  have f07 : Fr Non w (w6.setCell ⟨G, 0, none⟩ (.slice A6 r.length c6)) := f06.setCell (p := ⟨G, 0, none⟩) (fun h => hGw h) _
  have HN7 := Lib.hid hn7
  clear h6 hb6 hn6 s6 f6 hB6 hP6 f06 hn7 hF7 hP5 hB5 f05 s5
  go_wp2_with fail
  clear p0 fp0
  generalize w6.setCell ⟨G, 0, none⟩ (.slice A6 r.length c6) = w7 at *
  have hP8 : Blk w7 G 96 #[.slice A6 r.length c6, .int .i64 0, .int .i64 lo, .int .i64 (k : Nat)] := hP7
  have c0 : w7.drew.cell? ⟨G, 0, none⟩ = some (.slice A6 r.length c6) := hP8.cell 0
  have c1 : w7.drew.cell? ⟨G, 1, none⟩ = some (.int .i64 0) := hP8.cell 1
  have c2 : w7.drew.cell? ⟨G, 2, none⟩ = some (.int .i64 lo) := hP8.cell 2
  have c3 : w7.drew.cell? ⟨G, 3, none⟩ = some (.int .i64 (k : Nat)) := hP8.cell 3
  have s0 : w7.cell? ⟨R, 0, none⟩ = some (.slice none 0 0) := hB7.cell 0
  have fs0 : w7.frozen? ⟨R, 0, none⟩ = false := hB7.frozen 0
  have s1 : w7.cell? ⟨R, 1, none⟩ = some (.int .i64 0) := hB7.cell 1
  have fs1 : w7.frozen? ⟨R, 1, none⟩ = false := hB7.frozen 1
  have s2 : w7.cell? ⟨R, 2, none⟩ = some (.int .i64 0) := hB7.cell 2
  have fs2 : w7.frozen? ⟨R, 2, none⟩ = false := hB7.frozen 2
  have s3 : w7.cell? ⟨R, 3, none⟩ = some (.int .i64 0) := hB7.cell 3
  have fs3 : w7.frozen? ⟨R, 3, none⟩ = false := hB7.frozen 3
  have hB9 : Blk ((((w7.setCell ⟨R, 0, none⟩ (.slice A6 r.length c6)).setCell ⟨R, 1, none⟩ (.int .i64 0)).setCell ⟨R, 2, none⟩ (.int .i64 lo)).setCell ⟨R, 3, none⟩ (.int .i64 (k : Nat))).drew R 96 #[.slice A6 r.length c6, .int .i64 0, .int .i64 lo, .int .i64 (k : Nat)] :=
    ((((hB7.set 0 _).set 1 _).set 2 _).set 3 _).drew
  have hF9 : Fr (One R) w7 ((((w7.setCell ⟨R, 0, none⟩ (.slice A6 r.length c6)).setCell ⟨R, 1, none⟩ (.int .i64 0)).setCell ⟨R, 2, none⟩ (.int .i64 lo)).setCell ⟨R, 3, none⟩ (.int .i64 (k : Nat))).drew := (((((Fr.refl (One R) w7).set1 0 _).set1 1 _).set1 2 _).set1 3 _).drew
  have hP9 := hP8.fr hF9 (fun e => by have : G = R := e; omega)
  have k0 : (((((w7.setCell ⟨R, 0, none⟩ (.slice A6 r.length c6)).setCell ⟨R, 1, none⟩ (.int .i64 0)).setCell ⟨R, 2, none⟩ (.int .i64 lo)).setCell ⟨R, 3, none⟩ (.int .i64 (k : Nat))).drew).cell? ⟨G, 0, none⟩ = some (.slice A6 r.length c6) := hP9.cell 0
  have k1 : (((((w7.setCell ⟨R, 0, none⟩ (.slice A6 r.length c6)).setCell ⟨R, 1, none⟩ (.int .i64 0)).setCell ⟨R, 2, none⟩ (.int .i64 lo)).setCell ⟨R, 3, none⟩ (.int .i64 (k : Nat))).drew).cell? ⟨G, 1, none⟩ = some (.int .i64 0) := hP9.cell 1
  have k2 : (((((w7.setCell ⟨R, 0, none⟩ (.slice A6 r.length c6)).setCell ⟨R, 1, none⟩ (.int .i64 0)).setCell ⟨R, 2, none⟩ (.int .i64 lo)).setCell ⟨R, 3, none⟩ (.int .i64 (k : Nat))).drew).cell? ⟨G, 2, none⟩ = some (.int .i64 lo) := hP9.cell 2
  have k3 : (((((w7.setCell ⟨R, 0, none⟩ (.slice A6 r.length c6)).setCell ⟨R, 1, none⟩ (.int .i64 0)).setCell ⟨R, 2, none⟩ (.int .i64 lo)).setCell ⟨R, 3, none⟩ (.int .i64 (k : Nat))).drew).cell? ⟨G, 3, none⟩ = some (.int .i64 (k : Nat)) := hP9.cell 3
  have HB9 := Lib.hid hB9
  have HF9 := Lib.hid (f07.fresh hF9 (fun q hq => by have : q = R := hq; omega))
  have Hb9 := Lib.hid (hb7.fr hF9 (fun q hq e => (HN7.out q hq).2.1 e))
  clear hB9 hF9 hP9
  have HSz := Lib.hid (fun W => tsize_any n k W (by omega) (by omega))
  clear hP7 hP8 hB7 hb7 f07
  go_region_held3 (fun W => W.cell? ⟨G, 0, none⟩ = some (.slice A6 r.length c6) ∧ W.cell? ⟨G, 1, none⟩ = some (.int .i64 0) ∧ W.cell? ⟨G, 2, none⟩ = some (.int .i64 lo) ∧ W.cell? ⟨G, 3, none⟩ = some (.int .i64 (k : Nat))) (first | exact ⟨c0, c1, c2, c3⟩ | exact ⟨k0, k1, k2, k3⟩) (first | (go_at_call 77; refine (HSz.out _).mono ?_; rintro e w8 ⟨rfl, rfl⟩))
  go_wp2
  (try simp only [Exit.inBlock, Exit.then])
  have hbe : ((r.length : Int) == (need (n * k) : Nat)) = decide (r.length = need (n * k)) := by
    rw [Bool.eq_iff_iff, beq_iff_eq, decide_eq_true_iff]; omega
  rw [hbe]
  refine bodyPost_ret (v := .tuple #[.agg #[.slice A6 r.length c6, .int .i64 0, .int .i64 lo, .int .i64 (k : Nat)], .bool (decide (r.length = need (n * k)))]) (ret_cell (p := 4) (u := 5) (ty := 96) rfl _ _ R _ _ rfl HB9.out (load_pack HB9.out rfl)) rfl ?_
  exact ⟨_, rfl, Hb9.out, fun q hq => (HN7.out q hq).2.2, hk8, hr5, HF9.out⟩
end Go.Proofs.YtemfmnjhmmlmbaaGreat
