/-
  bits.Len64: its contract, in the words of the library's bitLen. Of the program itself alone: beside other texts' imports the walk of its table does not end.
-/
import Derived.Test.YtheefloegbkflaaGreatDoorProg
import Derived.Lib.Walk
import Derived.Lib.BitFns
namespace Go.Proofs.YtheefloegbkflaaGreatDoor
set_option linter.unusedVariables false
set_option linter.unusedSimpArgs false
set_option maxRecDepth 100000

/-- the table of bits.Len64, as the program bears it, in the library's words -/
theorem len_tab : (ByteArray.mk (((([0, 1, 2, 2, 3, 3, 3, 3, 4, 4, 4, 4, 4, 4, 4, 4, 5, 5, 5, 5, 5, 5, 5, 5, 5, 5, 5, 5, 5, 5, 5, 5, 6, 6, 6, 6, 6, 6, 6, 6, 6, 6, 6, 6, 6, 6, 6, 6, 6, 6, 6, 6, 6, 6, 6, 6, 6, 6, 6, 6, 6, 6, 6, 6] : List UInt8).append [7, 7, 7, 7, 7, 7, 7, 7, 7, 7, 7, 7, 7, 7, 7, 7, 7, 7, 7, 7, 7, 7, 7, 7, 7, 7, 7, 7, 7, 7, 7, 7, 7, 7, 7, 7, 7, 7, 7, 7, 7, 7, 7, 7, 7, 7, 7, 7, 7, 7, 7, 7, 7, 7, 7, 7, 7, 7, 7, 7, 7, 7, 7, 7]).append (([8, 8, 8, 8, 8, 8, 8, 8, 8, 8, 8, 8, 8, 8, 8, 8, 8, 8, 8, 8, 8, 8, 8, 8, 8, 8, 8, 8, 8, 8, 8, 8, 8, 8, 8, 8, 8, 8, 8, 8, 8, 8, 8, 8, 8, 8, 8, 8, 8, 8, 8, 8, 8, 8, 8, 8, 8, 8, 8, 8, 8, 8, 8, 8] : List UInt8).append [8, 8, 8, 8, 8, 8, 8, 8, 8, 8, 8, 8, 8, 8, 8, 8, 8, 8, 8, 8, 8, 8, 8, 8, 8, 8, 8, 8, 8, 8, 8, 8, 8, 8, 8, 8, 8, 8, 8, 8, 8, 8, 8, 8, 8, 8, 8, 8, 8, 8, 8, 8, 8, 8, 8, 8, 8, 8, 8, 8, 8, 8, 8, 8])).toArray)) = Lib.len8tab := by decide +kernel

theorem len_byte (y : Int) (u k : Nat) (hu : u < 18446744073709551616) (h1 : y = ((u / 2 ^ k : Nat) : Int)) (h2 : u / 2 ^ k < 256) (h3 : 2 ^ k ≤ u ∨ k = 0) : ((k : Nat) : Int) + Lib.len8 y = ((Lib.bitLen u : Nat) : Int) ∧ 0 ≤ Lib.len8 y ∧ Lib.len8 y ≤ 8 := by
  subst h1
  have h4 : ((u / 2 ^ k : Nat) : Int) ≤ 255 := by have := h2; clear h3; generalize u / 2 ^ k = q at *; omega
  have h5 := Lib.bitLen_le8' ((u / 2 ^ k : Nat) : Int) (Int.natCast_nonneg _) h4
  rw [Lib.len8_of _ (Int.natCast_nonneg _) h4]
  rw [Int.toNat_natCast] at h5 ⊢
  refine ⟨?_, by omega, by omega⟩
  rcases h3 with h3 | rfl
  · rw [Lib.bitLen_shift k u h3 (by omega)]; push_cast; rfl
  · simp
theorem len_end (y c : Int) (u k : Nat) (hu : u < 18446744073709551616) (h1 : y = ((u / 2 ^ k : Nat) : Int)) (h2 : u / 2 ^ k < 256) (h3 : 2 ^ k ≤ u ∨ k = 0) (hc : c = (k : Int)) (hk : k ≤ 56) :
    (c + ((Lib.len8 y + 9223372036854775808) % 18446744073709551616 - 9223372036854775808) + 9223372036854775808) % 18446744073709551616 - 9223372036854775808 = ((Lib.bitLen u : Nat) : Int) := by
  obtain ⟨h4, h5, h6⟩ := len_byte y u k hu h1 h2 h3
  subst hc
  clear h1 h2 h3
  omega
theorem len_end0 (y : Int) (u : Nat) (hu : u < 18446744073709551616) (h1 : y = ((u / 2 ^ 0 : Nat) : Int)) (h2 : u / 2 ^ 0 < 256) :
    (Lib.len8 y + 9223372036854775808) % 18446744073709551616 - 9223372036854775808 = ((Lib.bitLen u : Nat) : Int) := by
  obtain ⟨h4, h5, h6⟩ := len_byte y u 0 hu h1 h2 (.inr rfl)
  clear h1 h2
  omega

set_option maxHeartbeats 4000000 in
set_option maxRecDepth 100000 in
theorem len64I_any (x : Int) (w : World) (h0 : 0 ≤ x) (h1 : x ≤ 18446744073709551615) :
    Calls Tryz.prog 153 #[.int .u64 x] w fun e w' => e = .returned (.int .i64 (Lib.bitLen x.toNat : Nat)) ∧ w = w' := by
  have hu : x.toNat < 18446744073709551616 := by omega
  go_enter Tryz.func153, Tryz.ntmps153
  rw [len_tab]
  go_wp2
  all_goals go_ret
  all_goals refine ⟨congrArg Ending.returned (congrArg (Value.int IntKind.i64) ?_), rfl⟩
  · exact len_end _ _ x.toNat 56 hu (by omega) (by omega) (by omega) rfl (by omega)
  · exact len_end _ _ x.toNat 48 hu (by omega) (by omega) (by omega) rfl (by omega)
  · exact len_end _ _ x.toNat 40 hu (by omega) (by omega) (by omega) rfl (by omega)
  · exact len_end _ _ x.toNat 32 hu (by omega) (by omega) (by omega) rfl (by omega)
  · exact len_end _ _ x.toNat 24 hu (by omega) (by omega) (by omega) rfl (by omega)
  · exact len_end _ _ x.toNat 16 hu (by omega) (by omega) (by omega) rfl (by omega)
  · exact len_end _ _ x.toNat 8 hu (by omega) (by omega) (by omega) rfl (by omega)
  · exact len_end0 _ x.toNat hu (by omega) (by omega)

theorem len64_any (u : Nat) (w : World) (hu : u < 18446744073709551616) :
    Calls Tryz.prog 153 #[.int .u64 u] w fun e w' => e = .returned (.int .i64 (Lib.bitLen u : Nat)) ∧ w = w' := by
  have := len64I_any (u : Int) w (by omega) (by omega)
  rwa [Int.toNat_natCast] at this
end Go.Proofs.YtheefloegbkflaaGreatDoor
