/-
  Layer 2: the walk of the law CrcTells.
-/
import Derived.Test.YtfgbhnchchdlcaaDoorCrc2
import Derived.RegionTactic
namespace Go.Proofs.YtfgbhnchchdlcaaDoor
set_option linter.unusedVariables false
set_option linter.unusedSimpArgs false
open Go.RowKit

/-- the four bytes as they come in -/
def four (x0 x1 x2 x3 : UInt8) : Array Value := #[.int .u8 x0.toNat, .int .u8 x1.toNat, .int .u8 x2.toNat, .int .u8 x3.toNat]
def anyOf (xs : List UInt8) (k : Nat) : Bool := (xs.take k).any (· != 0)
theorem anyOf_succ (xs : List UInt8) (k : Nat) (h : k < xs.length) : anyOf xs (k + 1) = (anyOf xs k || xs[k] != 0) := by
  unfold anyOf; rw [List.take_succ_eq_append_getElem h, List.any_append]; simp
theorem sums_ne (l xs : List UInt8) (a k : Nat) (h1 : a + k ≤ l.length) (h2 : k ≤ xs.length) (h4 : k ≤ 4) :
    (((sumOf 0 l : Nat) : Int) != ((sumOf 0 (mk l xs a k) : Nat) : Int)) = anyOf xs k := by
  have h := mk_tells l xs a k h1 h2 h4 0
  rw [Bool.eq_iff_iff]
  unfold anyOf
  rw [bne_iff_ne, List.any_eq_true, ne_eq, Int.ofNat_inj, h]
  simp
theorem xor_u8 (a b : UInt8) : bits .xor .u8 (a.toNat : Int) (b.toNat : Int) = ((a ^^^ b).toNat : Int) := by
  rw [u8_xor_nat _ _ (u8_lt a) (u8_lt b), UInt8.toNat_xor]
theorem toNat_ne (b : UInt8) : ((b.toNat : Int) != 0) = (b != 0) := by
  rw [Bool.eq_iff_iff]; simp [← UInt8.toNat_inj]

end Go.Proofs.YtfgbhnchchdlcaaDoor
