/-
  Layer 1, what is written, numbers with a sign: contracts of Int, the program's own and the document's.
-/
import Derived.Test.YtkmgplgokhjmjaaVint1
import Derived.Lib.Zigzag
namespace Go.Proofs.Ytkmgplgokhjmjaa
set_option linter.unusedVariables false
set_option linter.unusedSimpArgs false
set_option maxRecDepth 100000
open Go.RowKit

theorem zig_nonneg {k : Int} (h : ¬ k < 0) : ((zig k : Nat) : Int) = 2 * k := by unfold zig; rw [if_neg h]; omega
theorem zig_neg {k : Int} (h : k < 0) : ((zig k : Nat) : Int) = -2 * k - 1 := by unfold zig; rw [if_pos h]; omega

theorem vzig {k : Int} (h1 : -9223372036854775808 ≤ k) (h2 : k ≤ 9223372036854775807) :
    bits BinOp.xor IntKind.u64 (IntKind.u64.wrap (IntKind.u64.wrap k * 2)) (IntKind.u64.wrap (k / 9223372036854775808)) = ((zig k : Nat) : Int) := by
  by_cases h : k < 0
  · have e1 : IntKind.u64.wrap (IntKind.u64.wrap k * 2) = (((2 * k + 18446744073709551616).toNat : Nat) : Int) := by
      rw [IntKind.wrap_u64, IntKind.wrap_u64]; omega
    have e2 : IntKind.u64.wrap (k / 9223372036854775808) = ((2 ^ 64 - 1 : Nat) : Int) := by
      rw [IntKind.wrap_u64, show k / 9223372036854775808 = -1 by omega]; decide
    rw [e1, e2, bits_xor_u64_nat _ _ (by omega) (by decide), Nat.xor_comm, Lib.xor_ones64 _ (by omega), zig_neg h]
    omega
  · have e1 : IntKind.u64.wrap (IntKind.u64.wrap k * 2) = (((2 * k).toNat : Nat) : Int) := by
      rw [IntKind.wrap_u64, IntKind.wrap_u64]; omega
    have e2 : IntKind.u64.wrap (k / 9223372036854775808) = ((0 : Nat) : Int) := by
      rw [IntKind.wrap_u64, show k / 9223372036854775808 = 0 by omega]; decide
    rw [e1, e2, bits_xor_u64_nat _ _ (by omega) (by decide), Nat.xor_zero, zig_nonneg h]
    omega

theorem rzig_neg {k : Int} (h1 : -9223372036854775808 ≤ k) (h : k < 0) :
    IntKind.u64.wrap (IntKind.u64.wrap (2 * IntKind.u64.wrap (-IntKind.u64.wrap k)) - 1) = ((zig k : Nat) : Int) := by
  rw [zig_neg h]; simp only [IntKind.wrap_u64]; omega
theorem rzig_pos {k : Int} (h2 : k ≤ 9223372036854775807) (h : ¬ k < 0) : IntKind.u64.wrap (2 * IntKind.u64.wrap k) = ((zig k : Nat) : Int) := by
  rw [zig_nonneg h]; simp only [IntKind.wrap_u64]; omega

theorem vint_any (k : Int) (w : World) (h1 : -9223372036854775808 ≤ k) (h2 : k ≤ 9223372036854775807) :
    Calls Try.prog 30 #[.int .i64 k] w fun e w' => ∃ v, e = .returned v ∧ Own w' w.heap.size v (Lib.uvarint (zig k)) ∧ Fr Non w w' := by
  have e1 := vzig h1 h2
  have Hz := Lib.hid (zig_lt h1 h2)
  clear h1 h2
  go_enter Try.func30, Try.ntmps30
  go_wp2_with fail
  refine (vnum_any (zig k) w Hz.out).mono ?_
  rintro e w' ⟨v, rfl, hown, hfr⟩
  go_wp2
  go_ret
  exact ⟨v, rfl, hown, hfr⟩

theorem rint_any (k : Int) (w : World) (h1 : -9223372036854775808 ≤ k) (h2 : k ≤ 9223372036854775807) :
    Calls Try.prog 32 #[.int .i64 k] w fun e w' => ∃ v, e = .returned v ∧ Own w' w.heap.size v (Lib.uvarint (zig k)) ∧ Fr Non w w' := by
  have Hz := Lib.hid (zig_lt h1 h2)
  by_cases h0 : k < 0
  · have e1 := rzig_neg h1 h0
    clear h1 h2
    go_enter Try.func32, Try.ntmps32
    go_wp2_with fail
    refine (rnum_any (zig k) w Hz.out).mono ?_
    rintro e w' ⟨v, rfl, hown, hfr⟩
    go_wp2
    go_ret
    exact ⟨v, rfl, hown, hfr⟩
  · have e1 := rzig_pos h2 h0
    clear h1 h2
    go_enter Try.func32, Try.ntmps32
    go_wp2_with fail
    refine (rnum_any (zig k) w Hz.out).mono ?_
    rintro e w' ⟨v, rfl, hown, hfr⟩
    go_wp2
    go_ret
    exact ⟨v, rfl, hown, hfr⟩

end Go.Proofs.Ytkmgplgokhjmjaa
