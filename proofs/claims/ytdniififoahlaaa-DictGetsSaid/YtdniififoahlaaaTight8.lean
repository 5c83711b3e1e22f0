/-
  Layer 7: firkinref07.Same; the example; the laws TightPuts, TightGets, TightOne, walked.
-/
import Derived.Test.YtdniififoahlaaaTight7
namespace Go.Proofs.Ytdniififoahlaaa
set_option linter.unusedVariables false
set_option linter.unusedSimpArgs false
open Go.RowKit

theorem putT_ex : putT [5, 6, 8] = [10, 2, 52] := by
  rw [putT_some (by simp), show leastOf [5, 6, 8] = 5 by decide, show width [5, 6, 8] = 2 by decide, show zig 5 = 10 by decide, Lib.uvarint_small (by omega), show packB (allB 2 5 [5, 6, 8]) = [52] by decide]
  rfl
theorem ex_i64 : ∀ x ∈ ([5, 6, 8] : List Int), I64 x := by
  intro x hx
  simp at hx
  unfold I64
  omega
theorem putT_len {l : List Int} (hx : ∀ x ∈ l, I64 x) : (putT l).length ≤ 20 + 8 * l.length := by
  by_cases h : l = []
  · subst h; simp [putT]
  · have hz := least_i64 hx
    have h1 := Lib.uvarint_length64 (zig_lt hz.1 hz.2)
    have h2 := Nat.mul_le_mul_left l.length (width_le hx)
    rw [putT_some h, List.length_append, List.length_cons, packB_length, allB_length]
    unfold need
    omega
theorem getM_small {b : List UInt8} {n : Int} (h : n ≤ 400) : getM b n = getZ b n := by unfold getM; rw [if_pos (by omega)]

end Go.Proofs.Ytdniififoahlaaa
