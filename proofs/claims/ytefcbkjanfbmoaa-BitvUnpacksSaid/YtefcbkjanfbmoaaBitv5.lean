/-
  Layer 4: the example; the laws BitvPacks, BitvUnpacks, BitvCounts, walked.
-/
import Derived.Test.YtefcbkjanfbmoaaBitv4
namespace Go.Proofs.Ytefcbkjanfbmoaa
set_option linter.unusedVariables false
set_option linter.unusedSimpArgs false
open Go.RowKit

set_option maxHeartbeats 1000000 in
theorem blive_any (w : World) : Calls Try.prog 6 #[] w fun e w' => e = .returned (.bool true) ∧ Fr Non w w' := by
  have h1 := Lib.hid (vs_row (f := tv) w [true, false, true] 4 (0, 0))
  have H5 := Lib.hid (fun W : World => bs_row W [5])
  go_enter Try.func6, Try.ntmps6
  go_wp2_with fail
  refine (pack_any _ [true, false, true] _ h1.out (by decide)).mono ?_
  rintro e w1 ⟨u, rfl, hown, hfr⟩
  go_wp2_with fail
  refine (same_any _ _ (packB [true, false, true]) [5] _ (hown.bs.non ((Fr.refl _ _).alloc _)) (H5.out _)).mono ?_
  rintro e w2 ⟨rfl, rfl⟩
  go_wp2
  go_ret
  exact ⟨ret_bool (by decide), (((Fr.refl _ _).alloc _).trans hfr).alloc _⟩
set_option maxHeartbeats 1000000 in
theorem bitvPacks_walk (v : Value) (l : List Bool) (w : World) (hv : Vs tv w v l) (hl : l.length ≤ 9223372036854775807) :
    Calls Try.prog 3 #[v] w fun e w' => e = .returned (.bool true) ∧ Below w.heap.size w w' := by
  have HV := Lib.hid hv
  obtain ⟨A, c, rfl, _⟩ := hv
  by_cases hbig : 1000 < l.length
  · go_enter Try.func3, Try.ntmps3
    go_wp2_with fail
    refine (blive_any w).mono ?_
    rintro e w1 ⟨rfl, hf1⟩
    go_wp2
    go_ret
    exact ⟨rfl, hf1.below⟩
  · go_enter Try.func3, Try.ntmps3
    go_wp2_with fail
    refine (pack_any _ l w HV.out (by omega)).mono ?_
    rintro e w1 ⟨u1, rfl, hown1, hfr1⟩
    have hpl : (packB l).length ≤ 1000 := by rw [packB_length]; unfold need; omega
    have HF := Lib.hid (pack_fit l)
    have HU := Lib.hid (unp_pack l)
    go_wp2_with fail
    refine (unpack_any u1 (packB l) l.length w1 hown1.bs (by omega) (by omega) (by omega)).mono ?_
    rintro e w2 ⟨hu, hfr2⟩
    rcases hu with ⟨hbad, _⟩ | ⟨_, u2, rfl, hown2⟩
    · exact absurd ⟨by omega, by simpa using HF.out⟩ hbad
    · rw [show ((l.length : Int)).toNat = l.length by simp, HU.out] at hown2
      have hf12 := hfr1.trans hfr2
      go_wp2_with fail
      refine (rpack_any _ l w2 (HV.out.non hf12) (by omega)).mono ?_
      rintro e w3 ⟨u3, rfl, hown3, hfr3⟩
      go_wp2_with fail
      refine (same_any _ _ (packB l) (packB l) w3 (hown1.bs.non (hfr2.trans hfr3)) hown3.bs).mono ?_
      rintro e w4 ⟨rfl, rfl⟩
      have hbb : (packB l == packB l) = true := by simp
      have hll : (l == l) = true := by simp
      go_wp2_with fail
      refine (bools_any _ _ l l w3 (hown2.vs.non hfr3) (HV.out.non (hf12.trans hfr3)) hl hl).mono ?_
      rintro e w4 ⟨rfl, hfr4⟩
      go_wp2_with fail
      refine (blive_any w4).mono ?_
      rintro e w5 ⟨rfl, hfr5⟩
      go_wp2
      go_ret
      exact ⟨rfl, (((hf12.trans hfr3).trans hfr4).trans hfr5).below⟩

set_option maxHeartbeats 1000000 in
theorem bitvUnpacks_walk (v : Value) (b : List UInt8) (n : Int) (w : World) (hv : Bs w v b) (hl : b.length ≤ 9223372036854775807) (h1 : -9223372036854775808 ≤ n) (h2 : n ≤ 9223372036854775807) :
    Calls Try.prog 4 #[v, .int .i64 n] w fun e w' => e = .returned (.bool true) ∧ Below w.heap.size w w' := by
  have HV := Lib.hid hv
  obtain ⟨A, c, rfl, _⟩ := hv
  by_cases hbig : 200 < b.length
  · go_enter Try.func4, Try.ntmps4
    go_wp2_with fail
    refine (blive_any w).mono ?_
    rintro e w1 ⟨rfl, hf1⟩
    go_wp2
    go_ret
    exact ⟨rfl, hf1.below⟩
  · go_enter Try.func4, Try.ntmps4
    go_wp2_with fail
    refine (unpack_any _ b n w HV.out (by omega) h1 h2).mono ?_
    rintro e w1 ⟨hu, hfr1⟩
    have HV1 := Lib.hid (HV.out.non hfr1)
    rcases hu with ⟨hbad, rfl⟩ | ⟨hfit, u1, rfl, hown1⟩
    · have Hbad := Lib.hid hbad
      clear hbad
      go_wp2_with fail
      refine (runpack_any _ b n w1 HV1.out (by omega) h1 h2).mono ?_
      rintro e w2 ⟨hu2, hfr2⟩
      rcases hu2 with ⟨_, rfl⟩ | ⟨hok, _⟩
      · go_wp2_with fail
        refine (bools_any _ _ [] [] w2 (Vs.nil_ _) (Vs.nil_ _) (by simp) (by simp)).mono ?_
        rintro e w3 ⟨rfl, hfr3⟩
        have hnn : (([] : List Bool) == []) = true := rfl
        go_wp2_with fail
        refine (blive_any w3).mono ?_
        rintro e w4 ⟨rfl, hfr4⟩
        go_wp2
        go_ret
        exact ⟨rfl, (((hfr1.trans hfr2).trans hfr3).trans hfr4).below⟩
      · exact absurd hok Hbad.out
    · have Hfit := Lib.hid hfit
      clear hfit
      have hn16 : n.toNat ≤ 1600 := by have := Hfit.out.2.1; unfold need at this; omega
      have HP := Lib.hid (pack_unp Hfit.out.2)
      have HLen := Lib.hid (unp_length b n.toNat)
      go_wp2_with fail
      refine (runpack_any _ b n w1 HV1.out (by omega) h1 h2).mono ?_
      rintro e w2 ⟨hu2, hfr2⟩
      rcases hu2 with ⟨hbad, rfl⟩ | ⟨_, u2, rfl, hown2⟩
      · exact absurd Hfit.out hbad
      · go_wp2_with fail
        refine (bools_any _ _ _ _ w2 (hown1.vs.non hfr2) hown2.vs (by rw [HLen.out]; omega) (by rw [HLen.out]; omega)).mono ?_
        rintro e w3 ⟨rfl, hfr3⟩
        have hnn : (unp b n.toNat == unp b n.toNat) = true := by simp
        have hf23 := hfr2.trans hfr3
        go_wp2_with fail
        refine (pack_any _ (unp b n.toNat) w3 (hown1.vs.non hf23) (by rw [HLen.out]; omega)).mono ?_
        rintro e w4 ⟨u4, rfl, hown4, hfr4⟩
        rw [HP.out] at hown4
        go_wp2_with fail
        refine (same_any _ _ b b w4 hown4.bs (HV1.out.non (hf23.trans hfr4))).mono ?_
        rintro e w5 ⟨rfl, rfl⟩
        have hbb : (b == b) = true := by simp
        go_wp2_with fail
        refine (blive_any w4).mono ?_
        rintro e w5 ⟨rfl, hfr5⟩
        go_wp2
        go_ret
        exact ⟨rfl, (((hfr1.trans hf23).trans hfr4).trans hfr5).below⟩

set_option maxHeartbeats 2000000 in
theorem bitvCounts_walk (v1 v2 : Value) (a b : List Bool) (w : World) (hv1 : Vs tv w v1 a) (hv2 : Vs tv w v2 b) (hl1 : a.length ≤ 9223372036854775807) (hl2 : b.length ≤ 9223372036854775807) :
    Calls Try.prog 5 #[v1, v2] w fun e w' => e = .returned (.bool true) ∧ Below w.heap.size w w' := by
  have HV1 := Lib.hid hv1
  have HV2 := Lib.hid hv2
  obtain ⟨A1, c1, rfl, _⟩ := hv1
  obtain ⟨A2, c2, rfl, _⟩ := hv2
  have long : 500 < a.length ∨ (¬ 500 < a.length ∧ 500 < b.length) → Calls Try.prog 5 #[.slice A1 a.length c1, .slice A2 b.length c2] w fun e w' => e = .returned (.bool true) ∧ Below w.heap.size w w' := by
    rintro (h | ⟨h, h'⟩)
    all_goals
      go_enter Try.func5, Try.ntmps5
      go_wp2_with fail
      refine (blive_any w).mono ?_
      rintro e w1 ⟨rfl, hf1⟩
      go_wp2
      go_ret
      exact ⟨rfl, hf1.below⟩
  by_cases hb1 : 500 < a.length
  · exact long (.inl hb1)
  · by_cases hb2 : 500 < b.length
    · exact long (.inr ⟨hb1, hb2⟩)
    · clear long
      have HP := Lib.hid (plc_len a)
      have hca := cnt_le a
      have hcb := cnt_le b
      have hco := cnt_le (orB a b)
      rw [orB_length] at hco
      obtain ⟨hor1, hor2⟩ := cnt_or a b
      have HOL := Lib.hid (orB_length a b)
      go_enter Try.func5, Try.ntmps5
      go_wp2_with fail
      refine (places_any _ a w HV1.out (by omega)).mono ?_
      rintro e w1 ⟨u1, rfl, hown1, hfr1⟩
      go_wp2_with fail
      refine (or_any _ _ a b w1 (HV1.out.non hfr1) (HV2.out.non hfr1) (by omega) (by omega)).mono ?_
      rintro e w2 ⟨u2, rfl, hown2, hfr2⟩
      have hf2 := hfr1.trans hfr2
      go_wp2_with fail
      refine (rplaces_any _ a w2 (HV1.out.non hf2) (by omega)).mono ?_
      rintro e w3 ⟨u3, rfl, hown3, hfr3⟩
      have hf3 := hf2.trans hfr3
      obtain ⟨A3, c3, rfl⟩ := hown1.shape
      rw [HP.out] at hown1 ⊢
      go_wp2_with fail
      refine (ints_any _ _ (plc a) (plc a) w3 (by rw [← HP.out] at hown1 ⊢; exact hown1.vs.non (hfr2.trans hfr3)) hown3.vs (by rw [HP.out]; omega) (by rw [HP.out]; omega)).mono ?_
      rintro e w4 ⟨rfl, hfr4⟩
      have hf4 := hf3.trans hfr4
      have hpp : (plc a == plc a) = true := by simp
      go_wp2_with fail
      refine (count_any _ a w4 (HV1.out.non hf4) hl1).mono ?_
      rintro e w5 ⟨rfl, rfl⟩
      have hcc : (((cnt a : Nat) : Int) == (cnt a : Nat)) = true := by simp
      go_wp2_with fail
      refine (ror_any _ _ a b w4 (HV1.out.non hf4) (HV2.out.non hf4) (by omega) (by omega)).mono ?_
      rintro e w5 ⟨u5, rfl, hown5, hfr5⟩
      have hf5 := hf4.trans hfr5
      have hv2 := hown2.vs.non ((hfr3.trans hfr4).trans hfr5)
      go_wp2_with fail
      refine (bools_any _ _ (orB a b) (orB a b) w5 hv2 hown5.vs (by rw [HOL.out]; omega) (by rw [HOL.out]; omega)).mono ?_
      rintro e w6 ⟨rfl, hfr6⟩
      have hf6 := hf5.trans hfr6
      have hoo : (orB a b == orB a b) = true := by simp
      go_wp2_with fail
      refine (count_any _ (orB a b) w6 (hv2.non hfr6) (by rw [HOL.out]; omega)).mono ?_
      rintro e w7 ⟨rfl, rfl⟩
      go_wp2_with fail
      refine (count_any _ a w6 (HV1.out.non hf6) hl1).mono ?_
      rintro e w7 ⟨rfl, rfl⟩
      go_wp2_with fail
      refine (count_any _ b w6 (HV2.out.non hf6) hl2).mono ?_
      rintro e w7 ⟨rfl, rfl⟩
      go_wp2_with fail
      refine (count_any _ (orB a b) w6 (hv2.non hfr6) (by rw [HOL.out]; omega)).mono ?_
      rintro e w7 ⟨rfl, rfl⟩
      go_wp2_with fail
      refine (count_any _ a w6 (HV1.out.non hf6) hl1).mono ?_
      rintro e w7 ⟨rfl, rfl⟩
      go_wp2_with fail
      refine (blive_any w6).mono ?_
      rintro e w7 ⟨rfl, hfr7⟩
      go_wp2
      go_ret
      exact ⟨rfl, (hf6.trans hfr7).below⟩
end Go.Proofs.Ytefcbkjanfbmoaa
