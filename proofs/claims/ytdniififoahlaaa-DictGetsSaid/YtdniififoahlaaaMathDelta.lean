/-
  Layer 6 as plain functions on lists: the bytes of numbers as differences (putD), which numbers bytes are (gd), and that each is the other's back. Nothing of the program.
-/
import Derived.Test.YtdniififoahlaaaMathRuns
namespace Go.Proofs.Ytdniififoahlaaa
set_option linter.unusedVariables false
set_option linter.unusedSimpArgs false

/-- int64's wrap -/
def w6 (n : Int) : Int := (n + 9223372036854775808) % 18446744073709551616 - 9223372036854775808
theorem w6_i64 (n : Int) : I64 (w6 n) := by unfold I64 w6; omega
theorem w6_back {x a : Int} (hx : I64 x) : w6 (a + w6 (x - a)) = x := by unfold I64 at hx; unfold w6; omega
theorem w6_fore {u a : Int} (hu : I64 u) : w6 (w6 (a + u) - a) = u := by unfold I64 at hu; unfold w6; omega

/-- the bytes of numbers, a being the one ahead -/
def putD (a : Int) : List Int → List UInt8
  | [] => []
  | x :: l => Lib.uvarint (zig (w6 (x - a))) ++ putD x l
theorem putD_nil (a : Int) : putD a [] = [] := rfl
theorem putD_cons (a x : Int) (l : List Int) : putD a (x :: l) = Lib.uvarint (zig (w6 (x - a))) ++ putD x l := rfl

/-- the n numbers whose bytes are all of b, a being the one ahead -/
def gd : Nat → Int → List UInt8 → Option (List Int)
  | 0, _, b => if b = [] then some [] else none
  | n + 1, a, b => match rd 0 0 b with
    | none => none
    | some (z, q) => (gd n (w6 (a + unzig z)) q).map (w6 (a + unzig z) :: ·)

theorem gd_nil (a : Int) : gd 0 a [] = some [] := rfl
theorem gd_end {a : Int} {b : List UInt8} (h : b ≠ []) : gd 0 a b = none := by unfold gd; rw [if_neg h]
theorem gd_none {n : Nat} {a : Int} {b : List UInt8} (h : rd 0 0 b = none) : gd (n + 1) a b = none := by unfold gd; rw [h]
theorem gd_some {n : Nat} {a : Int} {b q : List UInt8} {z : Nat} (h : rd 0 0 b = some (z, q)) : gd (n + 1) a b = (gd n (w6 (a + unzig z)) q).map (w6 (a + unzig z) :: ·) := by
  rw [gd, h]

theorem gd_putD : ∀ (l : List Int) (a : Int), (∀ x ∈ l, I64 x) → gd l.length a (putD a l) = some l
  | [], a, _ => gd_nil a
  | x :: l, a, h => by
    have hx := h x (by simp)
    have hw := w6_i64 (x - a)
    rw [putD_cons, List.length_cons, gd_some (rd_own (zig_lt hw.1 hw.2) _), unzig_zig, w6_back hx, gd_putD l x (fun y hy => h y (by simp [hy]))]
    rfl

theorem gd_is : ∀ (n : Nat) (a : Int) (b : List UInt8) (l : List Int), gd n a b = some l → putD a l = b ∧ l.length = n ∧ (∀ x ∈ l, I64 x) ∧ n ≤ b.length
  | 0, a, b, l, h => by
    by_cases hb : b = []
    · subst hb
      rw [gd_nil] at h
      obtain rfl : [] = l := by simpa using h
      exact ⟨rfl, rfl, fun x hx => by simp at hx, Nat.zero_le _⟩
    · rw [gd_end hb] at h; cases h
  | n + 1, a, b, l, h => by
    cases hr : rd 0 0 b with
    | none => rw [gd_none hr] at h; cases h
    | some p =>
      obtain ⟨z, q⟩ := p
      rw [gd_some hr] at h
      cases hg : gd n (w6 (a + unzig z)) q with
      | none => rw [hg] at h; cases h
      | some l' =>
        rw [hg] at h
        obtain rfl : w6 (a + unzig z) :: l' = l := by simpa using h
        obtain ⟨i1, i2, i3, i4⟩ := gd_is n _ q l' hg
        have hz := unzig_i64 (rd_lt hr)
        have hq := rd_len (by omega) hr
        refine ⟨?_, by rw [List.length_cons, i2], ?_, by omega⟩
        · rw [putD_cons, w6_fore hz, zig_unzig, i1, ← rd_is hr]
        · intro x hx
          rcases List.mem_cons.1 hx with rfl | hx
          · exact w6_i64 _
          · exact i3 x hx

theorem gd_count : ∀ (n m : Nat) (a : Int) (b : List UInt8) (l l' : List Int), gd n a b = some l → gd m a b = some l' → n = m
  | 0, 0, _, _, _, _, _, _ => rfl
  | 0, m + 1, a, b, l, l', h, h' => by
    have := (gd_is _ _ _ _ h').2.2.2
    have hb : b = [] := by
      by_cases hb : b = []
      · exact hb
      · rw [gd_end hb] at h; cases h
    subst hb; simp at this
  | n + 1, 0, a, b, l, l', h, h' => by
    have := (gd_is _ _ _ _ h).2.2.2
    have hb : b = [] := by
      by_cases hb : b = []
      · exact hb
      · rw [gd_end hb] at h'; cases h'
    subst hb; simp at this
  | n + 1, m + 1, a, b, l, l', h, h' => by
    cases hr : rd 0 0 b with
    | none => rw [gd_none hr] at h; cases h
    | some p =>
      obtain ⟨z, q⟩ := p
      rw [gd_some hr] at h h'
      cases hg : gd n (w6 (a + unzig z)) q with
      | none => rw [hg] at h; cases h
      | some l1 =>
        cases hg' : gd m (w6 (a + unzig z)) q with
        | none => rw [hg'] at h'; cases h'
        | some l2 => rw [gd_count n m _ q l1 l2 hg hg']

theorem putD_len : ∀ (l : List Int) (a : Int), (putD a l).length ≤ 10 * l.length
  | [], a => by simp [putD_nil]
  | x :: l, a => by
    have h1 := uvarint_zig10 (w6_i64 (x - a))
    have h2 := putD_len l x
    rw [putD_cons, List.length_append, List.length_cons]
    omega

/-- by a count that may be any whole number -/
def gdz (n : Int) (a : Int) (b : List UInt8) : Option (List Int) := if n < 0 then none else gd n.toNat a b
theorem gdz_neg {n a : Int} {b : List UInt8} (h : n < 0) : gdz n a b = none := by unfold gdz; rw [if_pos h]
theorem gdz_long {n a : Int} {b : List UInt8} (h : (b.length : Int) < n) : gdz n a b = none := by
  unfold gdz
  rw [if_neg (by omega)]
  cases hg : gd n.toNat a b with
  | none => rfl
  | some l => have := (gd_is _ _ _ _ hg).2.2.2; omega
theorem gdz_nil (a : Int) : gdz 0 a [] = some [] := rfl
theorem gdz_end {n a : Int} {b : List UInt8} (hn : n ≤ 0) (h : b ≠ []) : gdz n a b = none := by
  unfold gdz
  split
  · rfl
  · rw [show n.toNat = 0 by omega]; exact gd_end h
theorem gdz_nilne {n a : Int} (h : n ≠ 0) : gdz n a [] = none := by
  unfold gdz
  split
  · rfl
  · cases hg : gd n.toNat a [] with
    | none => rfl
    | some l => have := (gd_is _ _ _ _ hg).2.2.2; simp at this; omega
theorem gdz_bad {n a : Int} {b : List UInt8} (hb : b ≠ []) (h : rd 0 0 b = none) : gdz n a b = none := by
  unfold gdz
  split
  · rfl
  · cases hn : n.toNat with
    | zero => exact gd_end hb
    | succ k => exact gd_none h
theorem gdz_some {n a : Int} {b q : List UInt8} {z : Nat} (hn : 0 < n) (h : rd 0 0 b = some (z, q)) : gdz n a b = (gdz (n - 1) (w6 (a + unzig z)) q).map (w6 (a + unzig z) :: ·) := by
  unfold gdz
  rw [if_neg (by omega), if_neg (by omega), show n.toNat = (n - 1).toNat + 1 by omega, gd_some h]
theorem gdz_put {l : List Int} (hx : ∀ x ∈ l, I64 x) : gdz l.length 0 (putD 0 l) = some l := by
  unfold gdz
  rw [if_neg (by omega), Int.toNat_natCast]
  exact gd_putD l 0 hx
theorem gdz_is {n a : Int} {b : List UInt8} {l : List Int} (h : gdz n a b = some l) : putD a l = b ∧ (l.length : Int) = n ∧ (∀ x ∈ l, I64 x) ∧ 0 ≤ n ∧ n ≤ b.length := by
  unfold gdz at h
  split at h
  · cases h
  · obtain ⟨h1, h2, h3, h4⟩ := gd_is _ _ _ _ h
    exact ⟨h1, by omega, h3, by omega, by omega⟩
theorem gdz_count {n m a : Int} {b : List UInt8} {l l' : List Int} (h : gdz n a b = some l) (h' : gdz m a b = some l') : n = m := by
  have hb := gdz_is h
  have hb' := gdz_is h'
  unfold gdz at h h'
  rw [if_neg (by omega)] at h h'
  have := gd_count _ _ _ _ _ _ h h'
  omega
/-- what a round leaves of what is answered -/
theorem cons_app {o : List Int} {x : Int} (g : Option (List Int)) : (g.map (x :: ·)).map (o ++ ·) = g.map (o ++ [x] ++ ·) := by
  cases g <;> simp
/-- the one ahead of what comes behind a list -/
def lastD (a : Int) (l : List Int) : Int := l.getLast?.getD a
theorem putD_app : ∀ (l m : List Int) (a : Int), putD a (l ++ m) = putD a l ++ putD (lastD a l) m
  | [], m, a => rfl
  | x :: l, m, a => by
    rw [List.cons_append, putD_cons, putD_cons, putD_app l m x, List.append_assoc]
    congr 3
    unfold lastD
    cases l with
    | nil => rfl
    | cons y l => simp [List.getLast?_cons]

end Go.Proofs.Ytdniififoahlaaa
