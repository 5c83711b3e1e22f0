/-
  Layer 1, what is written: contracts of the functions that make bytes of numbers and texts, the program's own and the document's.
-/
import Derived.Test.YtefcbkjanfbmoaaBase
import Derived.Test.YtefcbkjanfbmoaaMathVint
namespace Go.Proofs.Ytefcbkjanfbmoaa
set_option linter.unusedVariables false
set_option linter.unusedSimpArgs false
open Go.RowKit

theorem same_any (v1 v2 : Value) (l1 l2 : List UInt8) (w : World) (h1 : Bs w v1 l1) (h2 : Bs w v2 l2) :
    Calls Try.prog 9 #[v1, v2] w fun e w' => e = .returned (.bool (l1 == l2)) ∧ w = w' := by
  have c1 := run_conv_Bs h1 24 9 5 Try.underlying24 Try.underlying5 Try.underlying9
  have c2 := run_conv_Bs h2 24 9 5 Try.underlying24 Try.underlying5 Try.underlying9
  clear h1 h2
  go_enter Try.func9, Try.ntmps9
  go_wp2
  go_ret
  exact ⟨rfl, rfl⟩

def hiB (m : Nat) : UInt8 := (m % 128 + 128).toUInt8
def loB (m : Nat) : UInt8 := m.toUInt8
theorem hiB_nat (m : Nat) : (hiB m).toNat = m % 128 + 128 := toNat_small (by omega)
theorem hiB_or (m : Nat) : bits BinOp.or IntKind.u8 ((m : Int) % 256) 128 = ((hiB m).toNat : Int) := by
  rw [Lib.u8_or128_any _ (by omega) (by omega), hiB_nat]; omega
theorem loB_small {m : Nat} (h : ¬ (128 : Int) ≤ m) : (m : Int) = ((loB m).toNat : Int) := by
  unfold loB; rw [toNat_small (by omega)]

theorem u64_div128 {m : Nat} (h : m < two64) : IntKind.u64.wrap ((m : Int) / 128) = (m : Int) / 128 := by
  unfold two64 at h
  exact IntWalk.u64_in _ ⟨by omega, by omega⟩

theorem refHi (m : Nat) : ((m : Int) % 128 + 128) = ((hiB m).toNat : Int) := by rw [hiB_nat]; omega

end Go.Proofs.Ytefcbkjanfbmoaa
