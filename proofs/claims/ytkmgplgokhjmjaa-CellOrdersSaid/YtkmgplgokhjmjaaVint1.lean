/-
  Layer 1, what is written: contracts of the functions that make bytes of numbers and texts, the program's own and the document's.
-/
import Derived.Test.YtkmgplgokhjmjaaBase
import Derived.Test.YtkmgplgokhjmjaaMathVint
namespace Go.Proofs.Ytkmgplgokhjmjaa
set_option linter.unusedVariables false
set_option linter.unusedSimpArgs false
set_option maxRecDepth 100000
open Go.RowKit

theorem same_any (v1 v2 : Value) (l1 l2 : List UInt8) (w : World) (h1 : Bs w v1 l1) (h2 : Bs w v2 l2) :
    Calls Try.prog 15 #[v1, v2] w fun e w' => e = .returned (.bool (l1 == l2)) ∧ w = w' := by
  have c1 := run_conv_Bs h1 30 9 5 Try.underlying30 Try.underlying5 Try.underlying9
  have c2 := run_conv_Bs h2 30 9 5 Try.underlying30 Try.underlying5 Try.underlying9
  clear h1 h2
  go_enter Try.func15, Try.ntmps15
  go_wp2
  go_ret
  exact ⟨rfl, rfl⟩

def hiB (m : Nat) : UInt8 := (m % 128 + 128).toUInt8
def loB (m : Nat) : UInt8 := m.toUInt8
theorem hiB_nat (m : Nat) : (hiB m).toNat = m % 128 + 128 := toNat_small (by omega)
theorem hiB_or (m : Nat) : bits BinOp.or IntKind.u8 ((m : Int) % 256) 128 = ((hiB m).toNat : Int) := by
  rw [Lib.u8_or128_any _ (by omega) (by omega), hiB_nat]; omega
theorem loB_small {m : Nat} (h : ¬ (128 : Int) ≤ m) : (m : Int) = ((loB m).toNat : Int) := by
  unfold loB; rw [toNat_small (by omega)]

set_option maxHeartbeats 400000 in
theorem vnum_any (n : Nat) (w : World) (hn : n < two64) :
    Calls Try.prog 46 #[.int .u64 n] w fun e w' => ∃ v, e = .returned v ∧ Own w' w.heap.size v (Lib.uvarint n) ∧ Fr Non w w' := by
  have hl10 : (Lib.uvarint n).length ≤ 10 := Lib.uvarint_length64 hn
  clear hn
  go_enter Try.func46, Try.ntmps46
  go_wp2
  go_loopw [0, 3] (fun x v wr => ∃ (m : Nat) (bs : List UInt8), m ≤ n ∧ x = .int .u64 m ∧ Lib.uvarint n = bs ++ Lib.uvarint m ∧ Own wr w.heap.size v bs ∧ Fr Non w wr) (fun x _ _ => (intOf x).toNat)
  case atStart => exact ⟨n, [], Nat.le_refl _, rfl, rfl, own_nil _ _, Fr.refl _ _⟩
  case round =>
    obtain ⟨m, bs, hm, rfl, hnum, hown, hfr⟩ := hrel
    have hlen : bs.length < 140737488355327 := by rw [hnum] at hl10; simp at hl10; omega
    have Hnum := Lib.hid hnum; clear hnum
    have e1 := hiB_or m
    have hB := hfr.size
    by_cases hm : (128 : Int) ≤ m
    · go_wp2_with (at_builtin; refine wpList_push rfl (.tmp 6) (.tmp 10) rfl w.heap.size u3 bs rfl hown _ (hiB m) rfl rfl hlen hB ?_; intro v' w1 hown1 hb1)
      refine ⟨⟨m / 128, bs ++ [hiB m], by omega, rfl, ?_, hown1, hfr.fresh hb1 fun k hk => (hown.lt k hk).1⟩, by simp [intOf]; omega⟩
      rw [Hnum.out, Lib.uvarint_big (by omega)]; simp [hiB]
    · go_wp2_with (at_builtin; refine wpList_push rfl (.tmp 14) (.tmp 17) rfl w.heap.size u3 bs rfl hown _ (loB m) (loB_small (by omega)) rfl hlen hB ?_; intro v' w1 hown1 hb1)
      go_ret
      refine ⟨v', rfl, ?_, hfr.fresh hb1 fun k hk => (hown.lt k hk).1⟩
      rw [Hnum.out, Lib.uvarint_small (by omega)]; exact hown1

theorem u64_div128 {m : Nat} (h : m < two64) : IntKind.u64.wrap ((m : Int) / 128) = (m : Int) / 128 := by
  unfold two64 at h
  exact IntWalk.u64_in _ ⟨by omega, by omega⟩

theorem refHi (m : Nat) : ((m : Int) % 128 + 128) = ((hiB m).toNat : Int) := by rw [hiB_nat]; omega

set_option maxHeartbeats 400000 in
theorem rnum_any (n : Nat) (w : World) (hn : n < two64) :
    Calls Try.prog 48 #[.int .u64 n] w fun e w' => ∃ v, e = .returned v ∧ Own w' w.heap.size v (Lib.uvarint n) ∧ Fr Non w w' := by
  have hl10 : (Lib.uvarint n).length ≤ 10 := Lib.uvarint_length64 hn
  go_enter Try.func48, Try.ntmps48
  go_wp2
  go_loopw [0, 3] (fun x v wr => ∃ (m : Nat) (bs : List UInt8), m ≤ n ∧ x = .int .u64 m ∧ Lib.uvarint n = bs ++ Lib.uvarint m ∧ Own wr w.heap.size v bs ∧ Fr Non w wr) (fun x _ _ => (intOf x).toNat)
  case atStart =>
    refine ⟨n, [], Nat.le_refl _, rfl, rfl, ?_, (Fr.refl _ _).alloc _⟩
    exact World.ownsRow_made w #[] 0 (Nat.le_refl _) (by unfold maxLen; omega) rfl
  case round =>
    obtain ⟨m, bs, hm, rfl, hnum, hown, hfr⟩ := hrel
    have hlen : bs.length < 140737488355327 := by rw [hnum] at hl10; simp at hl10; omega
    have Hnum := Lib.hid hnum; clear hnum
    have hB := hfr.size
    by_cases hm : (127 : Int) < m
    · have e3 := u64_div128 (m := m) (by omega)
      go_wp2_with (at_builtin; refine wpList_push rfl (.tmp 7) (.tmp 12) rfl w.heap.size u3 bs rfl hown _ (hiB m) (refHi m) rfl hlen hB ?_; intro v' w1 hown1 hb1)
      refine ⟨⟨m / 128, bs ++ [hiB m], by omega, rfl, ?_, hown1, hfr.fresh hb1 fun k hk => (hown.lt k hk).1⟩, by simp [intOf]; omega⟩
      rw [Hnum.out, Lib.uvarint_big (by omega)]; simp [hiB]
    · go_wp2_with (at_builtin; refine wpList_push rfl (.tmp 16) (.tmp 19) rfl w.heap.size u3 bs rfl hown _ (loB m) (loB_small (by omega)) rfl hlen hB ?_; intro v' w1 hown1 hb1)
      go_ret
      refine ⟨v', rfl, ?_, hfr.fresh hb1 fun k hk => (hown.lt k hk).1⟩
      rw [Hnum.out, Lib.uvarint_small (by omega)]; exact hown1

end Go.Proofs.Ytkmgplgokhjmjaa
