/-
  Layer 1, what is read: contracts of Source's methods.
-/
import Derived.Test.YtkmgplgokhjmjaaVint3
namespace Go.Proofs.Ytkmgplgokhjmjaa
set_option linter.unusedVariables false
set_option linter.unusedSimpArgs false
set_option maxRecDepth 100000
open Go.RowKit

/-- what first answers -/
def fstN (l : List UInt8) : Nat := match rd 0 0 l with | none => 0 | some (n, _) => n
def fstS (l : List UInt8) : Nat := match rd 0 0 l with | none => 0 | some (_, r) => l.length - r.length

theorem byte_at (l : List UInt8) (k : Nat) (c : UInt8) (hk : k < l.length) (hc : l[k] = c) : ∀ h : k < ByteArray.size ⟨l.toArray⟩, (⟨l.toArray⟩ : ByteArray)[k] = c := by
  intro h; exact hc

theorem fst_some {l : List UInt8} {n : Nat} {r : List UInt8} (h : rd 0 0 l = some (n, r)) : fstN l = n ∧ fstS l = l.length - r.length := by
  unfold fstN fstS; rw [h]; exact ⟨rfl, rfl⟩
theorem fst_none {l : List UInt8} (h : rd 0 0 l = none) : fstN l = 0 ∧ fstS l = 0 := by
  unfold fstN fstS; rw [h]; exact ⟨rfl, rfl⟩
theorem drop_at {l : List UInt8} {k : Nat} {c : UInt8} (hk : k < l.length) (hc : l[k] = c) : l.drop k = c :: l.drop (k + 1) := by
  rw [List.drop_eq_getElem_cons hk, hc]

theorem pow27 (k : Nat) : (2 : Int) ^ (7 * k) = ((128 ^ k : Nat) : Int) := by
  rw [Int.pow_mul]; norm_cast
theorem or_step {k acc x : Nat} (hk : k ≤ 9) (ha : acc < 128 ^ k) (hx : x < 128) (h9 : k = 9 → x ≤ 1) :
    bits BinOp.or IntKind.u64 (acc : Int) (IntKind.u64.wrap ((x : Int) * 2 ^ (7 * k))) = ((acc + x * 128 ^ k : Nat) : Int) := by
  have hp : (128 : Nat) ^ k = 2 ^ (7 * k) := by rw [Nat.pow_mul]
  have hle : (128 : Nat) ^ k ≤ 128 ^ 9 := Nat.pow_le_pow_right (by decide) hk
  have hlt : x * 128 ^ k < 18446744073709551616 := by
    by_cases h : k = 9
    · subst h
      have := h9 rfl
      rw [pow128_9]
      clear hle hp ha
      omega
    · have hle8 : (128 : Nat) ^ k ≤ 128 ^ 8 := Nat.pow_le_pow_right (by decide) (by omega)
      rw [pow128_8] at hle8
      have := Nat.mul_le_mul (show x ≤ 127 by omega) hle8
      omega
  have hacc : acc < 18446744073709551616 := by rw [pow128_9] at hle; omega
  rw [pow27, show ((x : Int) * ((128 ^ k : Nat) : Int)) = ((x * 128 ^ k : Nat) : Int) by push_cast; rfl, IntWalk.u64_in _ ⟨by omega, by omega⟩]
  rw [bits_join_low .u64 64 (by decide) wraps_u64 (7 * k) _ _ (by omega) ?_ (by omega) (by omega) ?_ (by omega)]
  · push_cast; rfl
  · rw [hp] at ha; exact_mod_cast ha
  · rw [hp]; push_cast; exact Int.mul_emod_left _ _

set_option maxRecDepth 20000 in
theorem first_any (l : List UInt8) (w : World) :
    Calls Try.prog 58 #[.string ⟨l.toArray⟩] w fun e w' => e = .returned (.tuple #[.int .u64 (fstN l), .int .i64 (fstS l)]) ∧ w = w' := by
  have hs : ByteArray.size ⟨l.toArray⟩ = l.length := by simp [ByteArray.size]
  go_enter Try.func58, Try.ntmps58
  go_wp2
  go_loop [4, 9] (fun n i => ∃ k acc : Nat, k ≤ 9 ∧ k ≤ l.length ∧ i = .int .i64 k ∧ n = .int .u64 acc ∧ acc < 128 ^ k ∧ rd 0 0 l = rd k acc (l.drop k)) (fun _ i => l.length - (intOf i).toNat)
  case atStart => exact ⟨0, 0, by omega, by omega, rfl, rfl, by decide, by simp⟩
  case round =>
    obtain ⟨k, acc, hk9, hk, rfl, rfl, hacc, hrd⟩ := hrel
    have HA := Lib.hid hacc
    by_cases hlt : k < l.length
    · obtain ⟨c, hc⟩ : ∃ c, l[k] = c := ⟨_, rfl⟩
      rw [drop_at hlt hc] at hrd
      have HR := Lib.hid hrd
      have hb := byte_at l k c hlt hc
      clear hc hacc hrd
      have hc256 := c.toNat_lt
      by_cases b1 : 9 ≤ k ∧ 1 < c.toNat
      · have HN := Lib.hid (fst_none (HR.out.trans (rd_bad (.inl ⟨by omega, b1.2⟩))))
        obtain ⟨b1, b1'⟩ := b1
        clear HA HR
        go_wp2
        all_goals
          go_ret2
          rw [HN.out.1, HN.out.2]
          exact ⟨rfl, rfl⟩
      · have hO := or_step (x := c.toNat % 128) hk9 HA.out (by omega) (by omega)
        rw [show ((c.toNat % 128 : Nat) : Int) = (c.toNat : Int) % 128 by omega] at hO
        by_cases b5 : 9 ≤ k
        · obtain rfl : k = 9 := by omega
          by_cases b2 : c.toNat = 0
          · have HN := Lib.hid (fst_none (HR.out.trans (rd_bad (.inr ⟨by omega, b2⟩))))
            have b2' : c.toNat ≤ 0 := by omega
            clear HA HR b1 b2 hO
            go_wp2
            all_goals
              go_ret2
              rw [HN.out.1, HN.out.2]
              exact ⟨rfl, rfl⟩
          · have b2' : 0 < c.toNat := by omega
            have b1' : c.toNat ≤ 1 := by omega
            have HN := Lib.hid (fst_some (HR.out.trans (rd_last (by omega) (by omega))))
            clear HA HR b1 b2
            rw [show (2 : Int) ^ (7 * 9) = 9223372036854775808 by decide, IntWalk.u64_in _ ⟨by omega, by omega⟩] at hO
            have HE := Lib.hid (show acc + c.toNat % 128 * 128 ^ 9 = acc + c.toNat * 128 ^ 9 by rw [show c.toNat % 128 = c.toNat by omega])
            go_wp2
            go_ret2
            have hd : (l.drop (9 + 1)).length = l.length - 10 := by simp
            rw [HN.out.1, HN.out.2, ← HE.out, hd, show l.length - (l.length - 10) = 10 by omega]
            exact ⟨rfl, rfl⟩
        · have b5' : k < 9 := by omega
          clear b5 b1
          by_cases b2 : 0 < k ∧ c.toNat = 0
          · have HN := Lib.hid (fst_none (HR.out.trans (rd_bad (.inr b2))))
            obtain ⟨b2, b2'⟩ := b2
            have b2'' : c.toNat ≤ 0 := by omega
            clear HA HR b2' hO
            go_wp2
            all_goals
              go_ret2
              rw [HN.out.1, HN.out.2]
              exact ⟨rfl, rfl⟩
          · by_cases b3 : c.toNat < 128
            · have HN := Lib.hid (fst_some (HR.out.trans (rd_last (by omega) b3)))
              have hd : (l.drop (k + 1)).length = l.length - (k + 1) := by simp
              have HD := Lib.hid (show l.length - (l.drop (k + 1)).length = k + 1 by rw [hd]; omega)
              clear hd
              by_cases b6 : c.toNat = 0
              · obtain rfl : k = 0 := by omega
                obtain rfl : acc = 0 := by have := HA.out; omega
                have b6' : c.toNat ≤ 0 := by omega
                have HC := Lib.hid b6
                have hz : bits BinOp.or IntKind.u64 0 (IntKind.u64.wrap 0) = 0 := by decide
                have hz' : bits BinOp.or IntKind.u64 0 0 = 0 := by decide
                clear HA HR b2 b6 hO
                go_wp2
                all_goals
                  go_ret2
                  rw [HN.out.1, HN.out.2, HC.out, HD.out]
                  exact ⟨rfl, rfl⟩
              · have b6' : 0 < c.toNat := by omega
                have HE := Lib.hid (show acc + c.toNat % 128 * 128 ^ k = acc + c.toNat * 128 ^ k by rw [show c.toNat % 128 = c.toNat by omega])
                clear HA HR b2 b6
                go_wp2
                go_ret2
                rw [HN.out.1, HN.out.2, ← HE.out, HD.out]
                exact ⟨rfl, rfl⟩
            · have HN := Lib.hid (HR.out.trans (rd_more (by omega) (by omega)))
              have b3' : 128 ≤ c.toNat := by omega
              have HA2 := Lib.hid (show acc + c.toNat % 128 * 128 ^ k < 128 ^ (k + 1) by
                have h1 := HA.out
                have h2 : c.toNat % 128 ≤ 127 := by omega
                have h3 := Nat.mul_le_mul_right (128 ^ k) h2
                rw [Nat.pow_succ]; omega)
              have HE := Lib.hid (show acc + (c.toNat - 128) * 128 ^ k = acc + c.toNat % 128 * 128 ^ k by rw [show c.toNat - 128 = c.toNat % 128 by omega])
              clear HR b2 HA
              go_wp2
              refine ⟨⟨k + 1, acc + c.toNat % 128 * 128 ^ k, by omega, by omega, by go_num, rfl, HA2.out, ?_⟩, by simp [intOf]; omega⟩
              rw [HN.out, HE.out]
    · have hd : l.drop k = [] := List.drop_eq_nil_of_le (by omega)
      rw [hd] at hrd
      have HN := Lib.hid (fst_none (hrd.trans rfl))
      clear hrd HA hacc hd
      go_wp2
      go_ret2
      rw [HN.out.1, HN.out.2]
      exact ⟨rfl, rfl⟩

end Go.Proofs.Ytkmgplgokhjmjaa
