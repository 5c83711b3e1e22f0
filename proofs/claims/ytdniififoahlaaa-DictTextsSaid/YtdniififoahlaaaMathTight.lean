/-
  Layer 7 as plain functions on lists: the bytes of numbers in few bits (putT), which numbers bytes are (getT, getZ), and that each is the other's back. Nothing of the program.
-/
import Derived.Test.YtdniififoahlaaaMathBits
import Derived.Test.YtdniififoahlaaaMathDelta
import Derived.Lib.BitFns
namespace Go.Proofs.Ytdniififoahlaaa
set_option linter.unusedVariables false
set_option linter.unusedSimpArgs false

/-! ### The least and the greatest -/
def loT (l : List Int) (k : Nat) : Int := (l.take k).foldl min (l.headD 0)
def hiT (l : List Int) (k : Nat) : Int := (l.take k).foldl max (l.headD 0)
def leastOf (l : List Int) : Int := loT l l.length
def greatOf (l : List Int) : Int := hiT l l.length
theorem loT_zero (l : List Int) : loT l 0 = l.headD 0 := rfl
theorem hiT_zero (l : List Int) : hiT l 0 = l.headD 0 := rfl
theorem loT_succ (l : List Int) (k : Nat) (h : k < l.length) : loT l (k + 1) = min (loT l k) l[k] := by
  unfold loT; rw [List.take_succ_eq_append_getElem h, List.foldl_append]; rfl
theorem hiT_succ (l : List Int) (k : Nat) (h : k < l.length) : hiT l (k + 1) = max (hiT l k) l[k] := by
  unfold hiT; rw [List.take_succ_eq_append_getElem h, List.foldl_append]; rfl
theorem loT_one (l : List Int) (h : 0 < l.length) : loT l 1 = l[0] := by
  rw [loT_succ l 0 h, loT_zero]
  cases l with
  | nil => simp at h
  | cons x l => simp
theorem hiT_one (l : List Int) (h : 0 < l.length) : hiT l 1 = l[0] := by
  rw [hiT_succ l 0 h, hiT_zero]
  cases l with
  | nil => simp at h
  | cons x l => simp
theorem loT_all {l : List Int} {k : Nat} (h : l.length ≤ k) : loT l k = leastOf l := by
  unfold leastOf loT; rw [List.take_of_length_le h, List.take_of_length_le (Nat.le_refl _)]
theorem hiT_all {l : List Int} {k : Nat} (h : l.length ≤ k) : hiT l k = greatOf l := by
  unfold greatOf hiT; rw [List.take_of_length_le h, List.take_of_length_le (Nat.le_refl _)]
theorem loT_le (l : List Int) : ∀ (k i : Nat) (h : i < l.length), i < k → k ≤ l.length → loT l k ≤ l[i]
  | 0, i, h, hi, _ => by omega
  | k + 1, i, h, hi, hk => by
    rw [loT_succ l k (by omega)]
    by_cases e : i = k
    · subst e; exact Int.min_le_right _ _
    · have := loT_le l k i h (by omega) (by omega)
      exact Int.le_trans (Int.min_le_left _ _) this
theorem hiT_ge (l : List Int) : ∀ (k i : Nat) (h : i < l.length), i < k → k ≤ l.length → l[i] ≤ hiT l k
  | 0, i, h, hi, _ => by omega
  | k + 1, i, h, hi, hk => by
    rw [hiT_succ l k (by omega)]
    by_cases e : i = k
    · subst e; exact Int.le_max_right _ _
    · have := hiT_ge l k i h (by omega) (by omega)
      exact Int.le_trans this (Int.le_max_left _ _)
theorem headD_i64 {l : List Int} (hx : ∀ x ∈ l, I64 x) : I64 (l.headD 0) := by
  cases l with
  | nil => exact ⟨by decide, by decide⟩
  | cons x l => exact hx x (by simp)
theorem loT_i64 {l : List Int} (hx : ∀ x ∈ l, I64 x) : ∀ k, k ≤ l.length → I64 (loT l k)
  | 0, _ => headD_i64 hx
  | k + 1, h => by
    rw [loT_succ l k (by omega)]
    have h1 := loT_i64 hx k (by omega)
    have h2 := hx l[k] (by simp)
    rw [Int.min_def]
    split
    · exact h1
    · exact h2
theorem hiT_i64 {l : List Int} (hx : ∀ x ∈ l, I64 x) : ∀ k, k ≤ l.length → I64 (hiT l k)
  | 0, _ => headD_i64 hx
  | k + 1, h => by
    rw [hiT_succ l k (by omega)]
    have h1 := hiT_i64 hx k (by omega)
    have h2 := hx l[k] (by simp)
    rw [Int.max_def]
    split
    · exact h2
    · exact h1
theorem least_i64 {l : List Int} (hx : ∀ x ∈ l, I64 x) : I64 (leastOf l) := loT_i64 hx _ (Nat.le_refl _)
theorem great_i64 {l : List Int} (hx : ∀ x ∈ l, I64 x) : I64 (greatOf l) := hiT_i64 hx _ (Nat.le_refl _)
theorem least_le (l : List Int) (i : Nat) (h : i < l.length) : leastOf l ≤ l[i] := loT_le l _ i h h (Nat.le_refl _)
theorem great_ge (l : List Int) (i : Nat) (h : i < l.length) : l[i] ≤ greatOf l := hiT_ge l _ i h h (Nat.le_refl _)

/-! ### How many bits a number needs -/
theorem bitLen_zero : Lib.bitLen 0 = 0 := by decide
theorem lt_bitLen (u : Nat) (h : u < 18446744073709551616) : u < 2 ^ Lib.bitLen u := by
  induction u using Nat.strongRecOn with
  | _ u ih =>
    by_cases h0 : u = 0
    · subst h0; rw [bitLen_zero]; decide
    · have := ih (u / 2) (by omega) (by omega)
      rw [Lib.bitLen_half u h0 (by omega), Nat.add_comm, Nat.pow_succ]
      omega
theorem bitLen_le64 (u : Nat) (h : u < 18446744073709551616) : Lib.bitLen u ≤ 64 := Lib.bitLen_le u 64 (Nat.le_refl _) (by omega)

def width (l : List Int) : Nat := Lib.bitLen (greatOf l - leastOf l).toNat
theorem diff_lt {l : List Int} (hx : ∀ x ∈ l, I64 x) : (greatOf l - leastOf l).toNat < 18446744073709551616 := by
  have h1 := least_i64 hx
  have h2 := great_i64 hx
  unfold I64 at h1 h2
  omega
theorem width_le {l : List Int} (hx : ∀ x ∈ l, I64 x) : width l ≤ 64 := bitLen_le64 _ (diff_lt hx)

/-! ### The bits -/
def bitAt (w : Nat) (lo : Int) (l : List Int) (p : Nat) : Bool := ((l.getD (p / w) 0) - lo).toNat.testBit (p % w)
def allB (w : Nat) (lo : Int) (l : List Int) : List Bool := (List.range (l.length * w)).map (bitAt w lo l)
theorem allB_length (w : Nat) (lo : Int) (l : List Int) : (allB w lo l).length = l.length * w := by simp [allB]
theorem bitAt_at {w i k : Nat} (lo : Int) (l : List Int) (hk : k < w) (hi : i < l.length) : bitAt w lo l (i * w + k) = (l[i] - lo).toNat.testBit k := by
  unfold bitAt
  rw [Nat.mul_comm i w, Nat.mul_add_div (by omega), Nat.mul_add_mod, Nat.div_eq_of_lt hk, Nat.mod_eq_of_lt hk]
  simp [List.getD_eq_getElem?_getD, hi]
theorem place_lt {n w i k : Nat} (hk : k < w) (hi : i < n) : i * w + k < n * w := by
  have := Nat.mul_le_mul_right w (show i + 1 ≤ n by omega)
  rw [Nat.add_mul, Nat.one_mul] at this
  omega
theorem allB_at {w i k : Nat} (lo : Int) (l : List Int) (hk : k < w) (hi : i < l.length) (h : i * w + k < (allB w lo l).length) : (allB w lo l)[i * w + k] = (l[i] - lo).toNat.testBit k := by
  have := place_lt hk hi
  simp only [allB, List.getElem_map, List.getElem_range]
  exact bitAt_at lo l hk hi

/-! ### The bytes -/
def putT (l : List Int) : List UInt8 :=
  if l = [] then [] else Lib.uvarint (zig (leastOf l)) ++ ((width l).toUInt8 :: packB (allB (width l) (leastOf l) l))
theorem putT_nil : putT [] = [] := rfl
theorem putT_some {l : List Int} (h : l ≠ []) : putT l = Lib.uvarint (zig (leastOf l)) ++ ((width l).toUInt8 :: packB (allB (width l) (leastOf l) l)) := by unfold putT; rw [if_neg h]

/-- the number that k bits are, from bit p on -/
def numT (b : List UInt8) (p : Nat) : Nat → Nat
  | 0 => 0
  | k + 1 => numT b p k + (bitOf b (p + k)).toNat * 2 ^ k
theorem numT_zero (b : List UInt8) (p : Nat) : numT b p 0 = 0 := rfl
theorem numT_succ (b : List UInt8) (p k : Nat) : numT b p (k + 1) = numT b p k + (bitOf b (p + k)).toNat * 2 ^ k := rfl
theorem numT_lt (b : List UInt8) (p : Nat) : ∀ k, numT b p k < 2 ^ k
  | 0 => by simp [numT]
  | k + 1 => by
    have := numT_lt b p k
    rw [numT_succ, Nat.pow_succ]
    cases bitOf b (p + k) <;> simp <;> omega
theorem numT_of (b : List UInt8) (p u : Nat) : ∀ k, (∀ i, i < k → bitOf b (p + i) = u.testBit i) → numT b p k = u % 2 ^ k
  | 0, _ => by simp [numT, Nat.mod_one]
  | k + 1, h => by
    rw [numT_succ, numT_of b p u k (fun i hi => h i (by omega)), h k (by omega), Nat.toNat_testBit, Nat.pow_succ, Nat.mod_mul, Nat.mul_comm (2 ^ k)]

def readT (b : List UInt8) (lo : Int) (w n : Nat) : List Int := (List.range n).map fun i => w6 (lo + (numT b (i * w) w : Nat))
theorem readT_length (b : List UInt8) (lo : Int) (w n : Nat) : (readT b lo w n).length = n := by simp [readT]
theorem readT_i64 (b : List UInt8) (lo : Int) (w n : Nat) : ∀ x ∈ readT b lo w n, I64 x := by
  intro x hx
  obtain ⟨i, _, rfl⟩ := List.mem_map.1 hx
  exact w6_i64 _
theorem readT_succ (b : List UInt8) (lo : Int) (w n : Nat) : readT b lo w (n + 1) = readT b lo w n ++ [w6 (lo + (numT b (n * w) w : Nat))] := by simp [readT, List.range_succ]
theorem w6_own {x : Int} (hx : I64 x) : w6 x = x := by unfold I64 at hx; unfold w6; omega
theorem readT_put {l : List Int} (hx : ∀ x ∈ l, I64 x) : readT (packB (allB (width l) (leastOf l) l)) (leastOf l) (width l) l.length = l := by
  unfold readT
  refine List.ext_getElem (by simp) fun i h1 h2 => ?_
  simp only [List.getElem_map, List.getElem_range]
  have hlo := least_le l i h2
  have hhi := great_ge l i h2
  have hd := diff_lt hx
  have hw := lt_bitLen _ hd
  have hn : numT (packB (allB (width l) (leastOf l) l)) (i * width l) (width l) = (l[i] - leastOf l).toNat := by
    rw [numT_of _ _ (l[i] - leastOf l).toNat _ ?_]
    · refine Nat.mod_eq_of_lt (Nat.lt_of_le_of_lt ?_ hw)
      omega
    · intro k hk
      have hp := place_lt hk h2
      rw [packB_bit, List.getD_eq_getElem?_getD, List.getElem?_eq_getElem (by rw [allB_length]; exact hp), Option.getD_some]
      exact allB_at _ l hk h2 _
  rw [hn, show leastOf l + ((l[i] - leastOf l).toNat : Nat) = l[i] by omega]
  exact w6_own (hx _ (by simp))

/-! ### What is read ahead of the bits -/
def parse (b : List UInt8) : Option (Int × Nat × List UInt8) :=
  match rd 0 0 b with
  | none => none
  | some (z, []) => none
  | some (z, c :: r) => some (unzig z, c.toNat, r)
theorem parse_none {b : List UInt8} (h : rd 0 0 b = none) : parse b = none := by unfold parse; rw [h]
theorem parse_nil {b : List UInt8} {z : Nat} (h : rd 0 0 b = some (z, [])) : parse b = none := by unfold parse; rw [h]
theorem parse_some {b : List UInt8} {z : Nat} {c : UInt8} {r : List UInt8} (h : rd 0 0 b = some (z, c :: r)) : parse b = some (unzig z, c.toNat, r) := by unfold parse; rw [h]
theorem small64 {w : Nat} (h : w ≤ 64) : w.toUInt8.toNat = w := toNat_small (by omega)
theorem parse_put {l : List Int} (hx : ∀ x ∈ l, I64 x) (h : l ≠ []) : parse (putT l) = some (leastOf l, width l, packB (allB (width l) (leastOf l) l)) := by
  have hz := least_i64 hx
  have hrd : rd 0 0 (putT l) = some (zig (leastOf l), (width l).toUInt8 :: packB (allB (width l) (leastOf l) l)) := by
    rw [putT_some h]; exact rd_own (zig_lt hz.1 hz.2) _
  rw [parse_some hrd, unzig_zig, small64 (width_le hx)]

/-- the n numbers whose bytes are all of b -/
def getT (b : List UInt8) (n : Nat) : Option (List Int) :=
  match parse b with
  | none => none
  | some (lo, w, r) => if r.length = need (n * w) ∧ putT (readT r lo w n) = b then some (readT r lo w n) else none
theorem getT_none {b : List UInt8} {n : Nat} (h : parse b = none) : getT b n = none := by unfold getT; rw [h]
theorem getT_len {b r : List UInt8} {n w : Nat} {lo : Int} (h : parse b = some (lo, w, r)) (hl : r.length ≠ need (n * w)) : getT b n = none := by
  unfold getT; rw [h]; exact if_neg fun e => hl e.1
theorem getT_ne {b r : List UInt8} {n w : Nat} {lo : Int} (h : parse b = some (lo, w, r)) (hl : putT (readT r lo w n) ≠ b) : getT b n = none := by
  unfold getT; rw [h]; exact if_neg fun e => hl e.2
theorem getT_yes {b r : List UInt8} {n w : Nat} {lo : Int} (h : parse b = some (lo, w, r)) (hl : r.length = need (n * w)) (hp : putT (readT r lo w n) = b) : getT b n = some (readT r lo w n) := by
  unfold getT; rw [h]; exact if_pos ⟨hl, hp⟩
theorem getT_wide {b r : List UInt8} {n w : Nat} {lo : Int} (h : parse b = some (lo, w, r)) (hw : 64 < w) (hn : 0 < n) : getT b n = none := by
  refine getT_ne h fun e => ?_
  have hx := readT_i64 r lo w n
  have hne : readT r lo w n ≠ [] := by
    intro e2
    have := readT_length r lo w n
    rw [e2] at this
    simp at this; omega
  have hp := parse_put hx hne
  rw [e, h] at hp
  simp only [Option.some.injEq, Prod.mk.injEq] at hp
  have := width_le hx
  omega
theorem getT_put {l : List Int} (hx : ∀ x ∈ l, I64 x) (h : l ≠ []) : getT (putT l) l.length = some l := by
  have hr := readT_put hx
  have := getT_yes (n := l.length) (parse_put hx h) (by rw [packB_length, allB_length]) (by rw [hr])
  rw [this, hr]
theorem getT_is {b : List UInt8} {n : Nat} {l : List Int} (h : getT b n = some l) : putT l = b ∧ l.length = n ∧ (∀ x ∈ l, I64 x) := by
  unfold getT at h
  split at h
  · cases h
  · split at h
    · rename_i e
      obtain rfl : readT _ _ _ n = l := by simpa using h
      exact ⟨e.2, readT_length _ _ _ _, readT_i64 _ _ _ _⟩
    · cases h

/-- the same, of any whole count -/
def getZ (b : List UInt8) (n : Int) : Option (List Int) := if n = 0 then if b = [] then some [] else none else if n < 0 then none else getT b n.toNat
/-- and within MaxList -/
def getM (b : List UInt8) (n : Int) : Option (List Int) := if n ≤ 4096 then getZ b n else none
theorem getZ_nil : getZ [] 0 = some [] := rfl
theorem getZ_zero {b : List UInt8} (h : b ≠ []) : getZ b 0 = none := by unfold getZ; rw [if_pos rfl, if_neg h]
theorem getZ_neg {b : List UInt8} {n : Int} (h : n < 0) : getZ b n = none := by unfold getZ; rw [if_neg (by omega), if_pos h]
theorem getZ_pos {b : List UInt8} {n : Nat} (h : 0 < n) : getZ b n = getT b n := by
  unfold getZ; rw [if_neg (by omega), if_neg (by omega), Int.toNat_natCast]
theorem getZ_put {l : List Int} (hx : ∀ x ∈ l, I64 x) : getZ (putT l) l.length = some l := by
  cases l with
  | nil => rfl
  | cons x l =>
    rw [getZ_pos (by simp)]
    exact getT_put hx (by simp)
theorem getZ_is {b : List UInt8} {n : Int} {l : List Int} (h : getZ b n = some l) : putT l = b ∧ (l.length : Int) = n ∧ (∀ x ∈ l, I64 x) := by
  unfold getZ at h
  split at h
  · rename_i e
    split at h
    · rename_i e2
      obtain rfl : [] = l := by simpa using h
      exact ⟨by rw [e2]; rfl, by simp [e], by simp⟩
    · cases h
  · split at h
    · cases h
    · obtain ⟨h1, h2, h3⟩ := getT_is h
      exact ⟨h1, by omega, h3⟩

/-! ### The bytes, bit by bit, as the document lays them -/
theorem pk_more (L : List Bool) {p : Nat} (hp : p < L.length) : pk (L.take (p + 1)) p = (if p % 8 = 0 then packB (L.take p) ++ [0] else packB (L.take p)) := by
  have hl1 : (L.take (p + 1)).length = p + 1 := by rw [List.length_take]; omega
  have hl0 : (L.take p).length = p := by rw [List.length_take]; omega
  have hpk : ∀ j, pkn (L.take (p + 1)) p j = pkn (L.take p) p j := by
    intro j
    unfold pkn
    rw [List.take_take, List.take_take, show min p (p + 1) = p by omega, Nat.min_self]
  split
  · rename_i h8
    refine List.ext_getElem (by rw [pk_length, List.length_append, packB_length, hl0, hl1]; simp; unfold need; omega) fun i h1 h2 => ?_
    rw [pk_length, hl1] at h1
    by_cases hi : i < need p
    · rw [List.getElem_append_left (by rw [packB_length, hl0]; exact hi)]
      simp only [pk, packB, List.getElem_map, List.getElem_range, hpk, hl0]
    · have hi8 : 8 * i = p := by unfold need at h1 hi; omega
      rw [List.getElem_append_right (by rw [packB_length, hl0]; omega)]
      simp only [pk, List.getElem_map, List.getElem_range, hpk, List.getElem_singleton]
      unfold pkn
      rw [hi8, List.drop_eq_nil_of_le (by rw [List.length_take, hl0]; omega)]
      simp [byteOf]
  · rename_i h8
    refine List.ext_getElem (by rw [pk_length, packB_length, hl0, hl1]; unfold need; omega) fun i h1 h2 => ?_
    simp only [pk, packB, List.getElem_map, List.getElem_range, hpk, hl0]
theorem packB_step (L : List Bool) {p : Nat} (hp : p < L.length) : packB (L.take (p + 1)) = (pk (L.take (p + 1)) p).set (p / 8) (pkn (L.take (p + 1)) p (p / 8) + L[p].toNat * 2 ^ (p % 8)).toUInt8 := by
  have hl1 : (L.take (p + 1)).length = p + 1 := by rw [List.length_take]; omega
  have h := pk_step (L.take (p + 1)) (p := p) (by omega)
  rw [pk_all _ (by omega)] at h
  rw [h]
  simp
theorem take_len (L : List Bool) {p : Nat} (hp : p < L.length) : (L.take (p + 1)).length = p + 1 := by rw [List.length_take]; omega

/-- the first i of the n numbers, the others 0 -/
def partT (b : List UInt8) (lo : Int) (w n i : Nat) : List Int := (List.range n).map fun j => if j < i then w6 (lo + (numT b (j * w) w : Nat)) else 0
theorem partT_length (b : List UInt8) (lo : Int) (w n i : Nat) : (partT b lo w n i).length = n := by simp [partT]
theorem partT_zero (b : List UInt8) (lo : Int) (w n : Nat) : partT b lo w n 0 = List.replicate n 0 := by
  unfold partT
  refine List.ext_getElem (by simp) fun i h1 h2 => by simp
theorem partT_all (b : List UInt8) (lo : Int) (w n : Nat) : partT b lo w n n = readT b lo w n := by
  unfold partT readT
  refine List.map_congr_left fun i hi => ?_
  rw [if_pos (List.mem_range.1 hi)]
theorem partT_step (b : List UInt8) (lo : Int) (w n i : Nat) (h : i < n) : partT b lo w n (i + 1) = (partT b lo w n i).set i (w6 (lo + (numT b (i * w) w : Nat))) := by
  unfold partT
  refine List.ext_getElem (by simp) fun j h1 h2 => ?_
  rw [List.getElem_set]
  by_cases hj : i = j
  · subst hj; simp
  · rw [if_neg hj]
    simp only [List.getElem_map, List.getElem_range]
    by_cases h3 : j < i
    · rw [if_pos h3, if_pos (by omega)]
    · rw [if_neg h3, if_neg (by omega)]
end Go.Proofs.Ytdniififoahlaaa
