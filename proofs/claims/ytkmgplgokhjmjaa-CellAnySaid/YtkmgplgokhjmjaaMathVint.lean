/-
  Layer 1 as plain functions on lists of bytes: what a number's bytes are (the library's 'uvarint'), which number bytes begin with (rd), and that each is the other's back. Nothing of the program.
-/
import Derived.Lib.Varint
namespace Go.Proofs.Ytkmgplgokhjmjaa
set_option linter.unusedVariables false
set_option linter.unusedSimpArgs false
set_option maxRecDepth 100000

/-- the number that bytes begin with, from its i-th byte on, acc being what the bytes ahead of it make -/
def rd (i acc : Nat) : List UInt8 → Option (Nat × List UInt8)
  | [] => none
  | c :: r => if (i = 9 ∧ 1 < c.toNat) ∨ (0 < i ∧ c.toNat = 0) then none else if c.toNat < 128 then some (acc + c.toNat * 128 ^ i, r) else rd (i + 1) (acc + (c.toNat - 128) * 128 ^ i) r

def two64 : Nat := 18446744073709551616

theorem rd_bad {i acc : Nat} {c : UInt8} {r : List UInt8} (h : (i = 9 ∧ 1 < c.toNat) ∨ (0 < i ∧ c.toNat = 0)) : rd i acc (c :: r) = none := by rw [rd, if_pos h]
theorem rd_last {i acc : Nat} {c : UInt8} {r : List UInt8} (h : ¬ ((i = 9 ∧ 1 < c.toNat) ∨ (0 < i ∧ c.toNat = 0))) (h2 : c.toNat < 128) : rd i acc (c :: r) = some (acc + c.toNat * 128 ^ i, r) := by
  rw [rd, if_neg h, if_pos h2]
theorem rd_more {i acc : Nat} {c : UInt8} {r : List UInt8} (h : ¬ ((i = 9 ∧ 1 < c.toNat) ∨ (0 < i ∧ c.toNat = 0))) (h2 : 128 ≤ c.toNat) : rd i acc (c :: r) = rd (i + 1) (acc + (c.toNat - 128) * 128 ^ i) r := by
  rw [rd, if_neg h, if_neg (by omega)]

theorem pow128_9 : (128 : Nat) ^ 9 = 9223372036854775808 := by decide
theorem pow128_8 : (128 : Nat) ^ 8 = 72057594037927936 := by decide

theorem toNat_small {m : Nat} (h : m < 256) : m.toUInt8.toNat = m := by
  simp only [Nat.toUInt8_eq, UInt8.toNat_ofNat']; omega

/-- what is written is read -/
theorem rd_uvarint : ∀ (m i acc : Nat) (r : List UInt8), i ≤ 9 → m * 128 ^ i < two64 → (0 < i → m ≠ 0) → rd i acc (Lib.uvarint m ++ r) = some (acc + m * 128 ^ i, r) := by
  intro m
  induction m using Nat.strongRecOn with
  | _ m ih =>
    intro i acc r hi hm h0
    by_cases hs : m < 128
    · rw [Lib.uvarint_small hs]
      have hb := toNat_small (m := m) (by omega)
      rw [List.singleton_append, rd_last, hb]
      · rw [hb]
        rintro (⟨rfl, h⟩ | ⟨h, h'⟩)
        · rw [pow128_9, two64] at hm; omega
        · exact h0 h h'
      · omega
    · rw [Lib.uvarint_big (by omega)]
      have hb := toNat_small (m := m % 128 + 128) (by omega)
      have hi8 : i ≤ 8 := by
        rcases Nat.lt_or_ge i 9 with h | h
        · omega
        · obtain rfl : i = 9 := by omega
          rw [pow128_9, two64] at hm; omega
      have hsplit : m = 128 * (m / 128) + m % 128 := by omega
      have hpow : (128 : Nat) ^ (i + 1) = 128 * 128 ^ i := by rw [Nat.pow_succ, Nat.mul_comm]
      have hmul : m / 128 * 128 ^ (i + 1) + (m % 128) * 128 ^ i = m * 128 ^ i := by
        rw [hpow, ← Nat.mul_assoc, ← Nat.add_mul]; congr 1; omega
      rw [List.cons_append, rd_more, hb, ih (m / 128) (by omega) (i + 1) _ r (by omega) (by omega) (fun _ => by omega)]
      · congr 2
        rw [Nat.add_sub_cancel]; omega
      · rw [hb]; omega
      · omega

theorem eight_lt {m c : Nat} (hm : m * 9223372036854775808 < 18446744073709551616) (hc : c < 256) : m * 9223372036854775808 + (c - 128) * 72057594037927936 < 18446744073709551616 := by
  rcases Nat.lt_or_ge m 2 with h | h
  · clear hm
    have h1 : m ≤ 1 := by omega
    omega
  · exact absurd hm (Nat.not_lt.2 (Nat.le_trans (by decide) (Nat.mul_le_mul_right 9223372036854775808 h)))

/-- what is read was written so -/
theorem rd_back : ∀ (l : List UInt8) (i acc n : Nat) (r : List UInt8), i ≤ 9 → rd i acc l = some (n, r) → ∃ m, n = acc + m * 128 ^ i ∧ l = Lib.uvarint m ++ r ∧ m * 128 ^ i < two64 ∧ (0 < i → m ≠ 0) := by
  intro l
  induction l with
  | nil => intro i acc n r _ h; simp [rd] at h
  | cons c l ih =>
    intro i acc n r hi h
    by_cases hbad : (i = 9 ∧ 1 < c.toNat) ∨ (0 < i ∧ c.toNat = 0)
    · rw [rd_bad hbad] at h; cases h
    · have hc := c.toNat_lt
      have hle : (128 : Nat) ^ i ≤ 128 ^ 9 := Nat.pow_le_pow_right (by decide) hi
      rw [pow128_9] at hle
      by_cases h2 : c.toNat < 128
      · rw [rd_last hbad h2] at h
        simp only [Option.some.injEq, Prod.mk.injEq] at h
        obtain ⟨rfl, rfl⟩ := h
        refine ⟨c.toNat, rfl, ?_, ?_, fun h0 e => hbad (.inr ⟨h0, e⟩)⟩
        · rw [Lib.uvarint_small h2]
          simp
        · by_cases h9 : i = 9
          · subst h9
            rw [pow128_9, two64]; omega
          · have hle8 : (128 : Nat) ^ i ≤ 128 ^ 8 := Nat.pow_le_pow_right (by decide) (by omega)
            rw [pow128_8] at hle8
            have := Nat.mul_le_mul (show c.toNat ≤ 127 by omega) hle8
            rw [two64]; omega
      · have hi8 : i ≤ 8 := by omega
        rw [rd_more hbad (by omega)] at h
        obtain ⟨m, rfl, hl, hm, h0⟩ := ih (i + 1) _ n r (by omega) h
        have h0' := h0 (by omega)
        have hpow : (128 : Nat) ^ (i + 1) = 128 * 128 ^ i := by rw [Nat.pow_succ, Nat.mul_comm]
        have hmul : m * 128 ^ (i + 1) + (c.toNat - 128) * 128 ^ i = (128 * m + (c.toNat - 128)) * 128 ^ i := by
          rw [hpow, Nat.add_mul, ← Nat.mul_assoc, Nat.mul_comm m 128]
        refine ⟨128 * m + (c.toNat - 128), by omega, ?_, ?_, fun _ => by omega⟩
        · rw [Lib.uvarint_big (by omega), hl, show (128 * m + (c.toNat - 128)) / 128 = m by omega, show (128 * m + (c.toNat - 128)) % 128 + 128 = c.toNat by omega]
          simp
        · rw [← hmul]
          by_cases h8 : i = 8
          · subst h8
            rw [show (8 : Nat) + 1 = 9 from rfl, pow128_9, two64] at hm
            rw [show (8 : Nat) + 1 = 9 from rfl, pow128_9, pow128_8, two64]
            exact eight_lt hm hc
          · have hm1 : 128 ^ (i + 1) * 128 ≤ 128 ^ 9 := by
              rw [← Nat.pow_succ]; exact Nat.pow_le_pow_right (by decide) (by omega)
            have hdvd : 128 ^ (i + 1) ∣ two64 := by
              refine ⟨two64 / 128 ^ (i + 1), ?_⟩
              have : i + 1 = 1 ∨ i + 1 = 2 ∨ i + 1 = 3 ∨ i + 1 = 4 ∨ i + 1 = 5 ∨ i + 1 = 6 ∨ i + 1 = 7 ∨ i + 1 = 8 := by omega
              rcases this with h | h | h | h | h | h | h | h <;> rw [h] <;> decide
            obtain ⟨q, hq⟩ := hdvd
            rw [hq] at hm ⊢
            have hmq : m < q := by
              rw [Nat.mul_comm m] at hm
              exact Nat.lt_of_mul_lt_mul_left hm
            have : m * 128 ^ (i + 1) + 128 ^ (i + 1) ≤ 128 ^ (i + 1) * q := by
              rw [Nat.mul_comm m, ← Nat.mul_succ]; exact Nat.mul_le_mul_left _ hmq
            have hlt : (c.toNat - 128) * 128 ^ i < 128 ^ (i + 1) := by
              rw [hpow]; exact Nat.mul_lt_mul_of_pos_right (by omega) (Nat.pos_of_neZero _)
            omega

theorem rd_len {l : List UInt8} {i acc n : Nat} {r : List UInt8} (hi : i ≤ 9) (h : rd i acc l = some (n, r)) : r.length < l.length := by
  obtain ⟨m, _, rfl, _⟩ := rd_back l i acc n r hi h
  have := Lib.uvarint_pos m
  simp; omega

theorem rd_lt {l : List UInt8} {n : Nat} {r : List UInt8} (h : rd 0 0 l = some (n, r)) : n < two64 := by
  obtain ⟨m, rfl, _, h2, _⟩ := rd_back l 0 0 n r (by omega) h
  simpa using h2

theorem rd_own {n : Nat} (hn : n < two64) (r : List UInt8) : rd 0 0 (Lib.uvarint n ++ r) = some (n, r) := by
  have := rd_uvarint n 0 0 r (by omega) (by simpa using hn) (by simp)
  simpa using this

theorem rd_is {l : List UInt8} {n : Nat} {r : List UInt8} (h : rd 0 0 l = some (n, r)) : l = Lib.uvarint n ++ r := by
  obtain ⟨m, rfl, h1, _, _⟩ := rd_back l 0 0 n r (by omega) h
  simpa using h1

/-- zig-zag there and back -/
def unzig (n : Nat) : Int := if n % 2 = 1 then -((n / 2 : Nat) : Int) - 1 else ((n / 2 : Nat) : Int)
def zig (k : Int) : Nat := if k < 0 then (-2 * k - 1).toNat else (2 * k).toNat
theorem unzig_zig (k : Int) : unzig (zig k) = k := by unfold unzig zig; split <;> split <;> omega
theorem zig_unzig (n : Nat) : zig (unzig n) = n := by unfold unzig zig; split <;> split <;> omega
theorem zig_lt {k : Int} (h1 : -9223372036854775808 ≤ k) (h2 : k ≤ 9223372036854775807) : zig k < two64 := by unfold zig two64; split <;> omega

end Go.Proofs.Ytkmgplgokhjmjaa
