/-
  Layer 3: the walk of the law FrameGets.
-/
import Derived.Test.YtfgbhnchchdlcaaDoorFrm8
namespace Go.Proofs.YtfgbhnchchdlcaaDoor
set_option linter.unusedVariables false
set_option linter.unusedSimpArgs false
open Go.RowKit

set_option maxHeartbeats 2000000 in
theorem frameGets_walk (v : Value) (l : List UInt8) (w : World) (hv : Bs w v l) (hvl : ∀ k, v.ownBlock = some k → k < w.heap.size) (ht : Tab w) :
    Calls Tryd.prog 4 #[v] w fun e w' => e = .returned (.bool true) ∧ Below w.heap.size w w' := by
  have HB := Lib.hid hv
  have HT := Lib.hid ht
  have HVL := Lib.hid hvl
  obtain ⟨A, c, rfl, _⟩ := hv
  clear ht hvl
  by_cases hbig : 1000 < l.length
  · go_enter Tryd.func4, Tryd.ntmps4
    go_wp2_with fail
    refine (flive_any _ HT.out).mono ?_
    rintro e w1 ⟨rfl, hf1⟩
    go_wp2
    go_ret
    exact ⟨rfl, hf1.below⟩
  have HL := Lib.hid (show l.length < 1099511627776 by omega)
  have HL9 := Lib.hid (show l.length < 1000000000 by omega)
  have HAL := Lib.hid (show (allB l.length l).length ≤ 9223372036854775807 by have := allB_len l.length l; omega)
  have hle : (l.length : Int) ≤ 1000 := by omega
  go_enter Tryd.func4, Tryd.ntmps4
  go_wp2_with fail
  refine (fget_any _ l w HB.out HT.out HL.out).mono ?_
  rintro e w1 ⟨v1, rfl, hown1, hfr1⟩
  have HF1 := Lib.hid hfr1
  have HO1 := Lib.hid hown1.bs
  have HV1 := Lib.hid (show ∀ k, (Value.slice A l.length c).ownBlock = some k → k < w1.heap.size from fun k hk => Nat.lt_of_lt_of_le (HVL.out k hk) hfr1.size)
  clear hown1 hfr1
  go_wp2_with fail
  refine (rgetO_any _ l w1 (HB.out.non HF1.out) HV1.out HL9.out).mono ?_
  rintro e w2 ⟨v2, rfl, hown2, hfr2⟩
  have HF2 := Lib.hid (HF1.out.trans hfr2)
  have HO12 := Lib.hid (HO1.out.non hfr2)
  have HO2 := Lib.hid hown2.bs
  have HV2 := Lib.hid (show ∀ k, (Value.slice A l.length c).ownBlock = some k → k < w2.heap.size from fun k hk => Nat.lt_of_lt_of_le (HV1.out k hk) hfr2.size)
  clear hown2 hfr2
  go_wp2_with fail
  refine (fall_any _ l w2 (HB.out.non HF2.out) HV2.out (HT.out.non HF2.out) HL9.out).mono ?_
  rintro e w3 ⟨v3, rfl, hown3, hbl3⟩
  have hfr3 : Fr Non w2 w3 := Fr.of_below hbl3
  have HF3 := Lib.hid (HF2.out.trans hfr3)
  have HO13 := Lib.hid (HO12.out.non hfr3)
  have HO23 := Lib.hid (HO2.out.non hfr3)
  have HO3 := Lib.hid hown3.bss
  have HV3 := Lib.hid (show ∀ k, (Value.slice A l.length c).ownBlock = some k → k < w3.heap.size from fun k hk => Nat.lt_of_lt_of_le (HV2.out k hk) hfr3.size)
  clear hown3 hfr3 hbl3
  go_wp2_with fail
  refine (rall_any _ l w3 (HB.out.non HF3.out) HV3.out HL9.out).mono ?_
  rintro e w4 ⟨v4, rfl, hown4, hfr4⟩
  have HF4 := Lib.hid (HF3.out.trans hfr4)
  have HO14 := Lib.hid (HO13.out.non hfr4)
  have HO24 := Lib.hid (HO23.out.non hfr4)
  have HO34 := Lib.hid (HO3.out.non hfr4)
  have HO4 := Lib.hid hown4.bss
  clear hown4 hfr4
  go_wp2_with fail
  refine (same_any _ _ (gB l) (gB l) w4 HO14.out HO24.out).mono ?_
  rintro e w5 ⟨rfl, rfl⟩
  rw [beq_self_eq_true]
  go_wp2_with fail
  refine (fnum_any _ _).mono ?_
  rintro e w5 ⟨rfl, rfl⟩
  go_wp2_with fail
  refine (lists_any _ _ (allB l.length l) (allB l.length l) w4 HO34.out HO4.out HAL.out HAL.out).mono ?_
  rintro e w5 ⟨rfl, hfr5⟩
  rw [beq_self_eq_true]
  have HF5 := Lib.hid (HF4.out.trans hfr5)
  clear hfr5
  go_wp2_with fail
  refine (flive_any _ (HT.out.non HF5.out)).mono ?_
  rintro e w6 ⟨rfl, hfr6⟩
  go_wp2_with fail
  go_ret
  exact ⟨rfl, (HF5.out.trans hfr6).below⟩
end Go.Proofs.YtfgbhnchchdlcaaDoor
