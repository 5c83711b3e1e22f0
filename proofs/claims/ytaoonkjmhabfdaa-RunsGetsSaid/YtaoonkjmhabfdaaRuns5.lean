/-
  Layer 5: the example; the laws RunsPuts, RunsGets, RunsOne, walked.
-/
import Derived.Test.YtaoonkjmhabfdaaRuns4
namespace Go.Proofs.Ytaoonkjmhabfdaa
set_option linter.unusedVariables false
set_option linter.unusedSimpArgs false
open Go.RowKit

theorem putR_ex : putR [7, 7, 7] = [2, 14] := by
  rw [putR_cons, show runN 7 [7, 7] = 2 by decide, show List.drop 2 [(7 : Int), 7] = [] by rfl, putR_nil]
  unfold oneR
  rw [show zig 7 = 14 by rfl, Lib.uvarint_small (by omega), Lib.uvarint_small (by omega)]
  rfl

set_option maxHeartbeats 1000000 in
theorem rnlive_any (w : World) : Calls Try.prog 6 #[] w fun e w' => e = .returned (.bool true) ∧ Fr Non w w' := by
  have h1 := Lib.hid (vs_row (f := iv) w [7, 7, 7] 2 (0, 0))
  have H5 := Lib.hid (fun W : World => bs_row W [2, 14])
  have HE := Lib.hid putR_ex
  go_enter Try.func6, Try.ntmps6
  go_wp2_with fail
  refine (rnput_any _ [7, 7, 7] _ h1.out (by decide) (by unfold I64; decide)).mono ?_
  rintro e w1 ⟨u, rfl, hown, hfr⟩
  go_wp2_with fail
  refine (same_any _ _ (putR [7, 7, 7]) [2, 14] _ (hown.bs.non ((Fr.refl _ _).alloc _)) (H5.out _)).mono ?_
  rintro e w2 ⟨rfl, rfl⟩
  go_wp2
  go_ret
  exact ⟨ret_boolE (by rw [HE.out]; rfl), (((Fr.refl _ _).alloc _).trans hfr).alloc _⟩

set_option maxHeartbeats 1000000 in
theorem runsPuts_walk (v : Value) (l : List Int) (w : World) (hv : Vs iv w v l) (hx : ∀ x ∈ l, I64 x) (hl : l.length ≤ 9223372036854775807) :
    Calls Try.prog 3 #[v] w fun e w' => e = .returned (.bool true) ∧ Below w.heap.size w w' := by
  have HV := Lib.hid hv
  have HX := Lib.hid hx
  clear hx
  obtain ⟨A, c, rfl, _⟩ := hv
  by_cases hbig : 300 < l.length
  · go_enter Try.func3, Try.ntmps3
    go_wp2_with fail
    refine (rnlive_any w).mono ?_
    rintro e w1 ⟨rfl, hf1⟩
    go_wp2
    go_ret
    exact ⟨rfl, hf1.below⟩
  · have hpl := putR_len _ l rfl (by omega) HX.out
    have HG := Lib.hid (gtM_put (show l.length ≤ 4096 by omega) HX.out)
    go_enter Try.func3, Try.ntmps3
    go_wp2_with fail
    refine (rnput_any _ l w HV.out (by omega) HX.out).mono ?_
    rintro e w1 ⟨u1, rfl, hown1, hfr1⟩
    go_wp2_with fail
    refine (rnget_any u1 (putR l) l.length w1 hown1.bs (by omega) (by omega) (by omega)).mono ?_
    rintro e w2 ⟨hu, hfr2⟩
    rw [HG.out] at hu
    rcases hu with ⟨hbad, _⟩ | ⟨l2, u2, he, rfl, hown2⟩
    · cases hbad
    · obtain rfl : l = l2 := by simpa using he
      have hf12 := hfr1.trans hfr2
      clear he
      go_wp2_with fail
      refine (rrnput_any _ l w2 (HV.out.non hf12) (by omega) HX.out).mono ?_
      rintro e w3 ⟨u3, rfl, hown3, hfr3⟩
      go_wp2_with fail
      refine (same_any _ _ (putR l) (putR l) w3 (hown1.bs.non (hfr2.trans hfr3)) hown3.bs).mono ?_
      rintro e w4 ⟨rfl, rfl⟩
      have hbb : (putR l == putR l) = true := by simp
      have hll : (l == l) = true := by simp
      go_wp2_with fail
      refine (i64s_any _ _ l l w3 (hown2.vs.non hfr3) (HV.out.non (hf12.trans hfr3)) hl hl).mono ?_
      rintro e w4 ⟨rfl, hfr4⟩
      go_wp2_with fail
      refine (rnlive_any w4).mono ?_
      rintro e w5 ⟨rfl, hfr5⟩
      go_wp2
      go_ret
      exact ⟨rfl, (((hf12.trans hfr3).trans hfr4).trans hfr5).below⟩

set_option maxHeartbeats 1000000 in
theorem runsGets_walk (v : Value) (b : List UInt8) (n : Int) (w : World) (hv : Bs w v b) (hvl : ∀ k, v.ownBlock = some k → k < w.heap.size) (hl : b.length ≤ 9223372036854775807) (h1 : -9223372036854775808 ≤ n) (h2 : n ≤ 9223372036854775807) :
    Calls Try.prog 4 #[v, .int .i64 n] w fun e w' => e = .returned (.bool true) ∧ Below w.heap.size w w' := by
  have HV := Lib.hid hv
  have HVL := Lib.hid hvl
  clear hvl
  obtain ⟨A, c, rfl, _⟩ := hv
  have long : 400 < b.length ∨ (¬ 400 < b.length ∧ 400 < n) → Calls Try.prog 4 #[.slice A b.length c, .int .i64 n] w fun e w' => e = .returned (.bool true) ∧ Below w.heap.size w w' := by
    rintro (h | ⟨h, h'⟩)
    all_goals
      go_enter Try.func4, Try.ntmps4
      go_wp2_with fail
      refine (rnlive_any w).mono ?_
      rintro e w1 ⟨rfl, hf1⟩
      go_wp2
      go_ret
      exact ⟨rfl, hf1.below⟩
  by_cases hb1 : 400 < b.length
  · exact long (.inl hb1)
  · by_cases hb2 : 400 < n
    · exact long (.inr ⟨hb1, hb2⟩)
    · clear long
      go_enter Try.func4, Try.ntmps4
      go_wp2_with fail
      refine (rnget_any _ b n w HV.out (by omega) h1 h2).mono ?_
      rintro e w1 ⟨hu, hfr1⟩
      have hr := rrnget_any _ b n w1 (HV.out.non hfr1) (fun k hk => Nat.lt_of_lt_of_le (HVL.out k hk) hfr1.size) (by omega) h1 (by omega)
      cases hg : gtM b n with
      | none =>
        rw [hg] at hu hr
        clear hg
        rcases hu with ⟨_, rfl⟩ | ⟨_, _, h, _⟩
        · go_wp2_with fail
          refine hr.mono ?_
          rintro e w2 ⟨hu2, hfr2⟩
          rcases hu2 with ⟨_, rfl⟩ | ⟨_, _, h, _⟩
          · go_wp2_with fail
            refine (i64s_any _ _ [] [] w2 (Vs.nil_ _) (Vs.nil_ _) (by simp) (by simp)).mono ?_
            rintro e w3 ⟨rfl, hfr3⟩
            have hnn : (([] : List Int) == []) = true := rfl
            go_wp2_with fail
            refine (rnlive_any w3).mono ?_
            rintro e w4 ⟨rfl, hfr4⟩
            go_wp2
            go_ret
            exact ⟨rfl, (((hfr1.trans hfr2).trans hfr3).trans hfr4).below⟩
          · cases h
        · cases h
      | some l =>
        have HI := Lib.hid (gtM_is hg)
        have hll2 : l.length ≤ 9223372036854775807 := by have := HI.out.2.1; omega
        rw [hg] at hu hr
        clear hg
        rcases hu with ⟨h, _⟩ | ⟨l1, u1, he1, rfl, hown1⟩
        · cases h
        · obtain rfl : l = l1 := by simpa using he1
          clear he1
          go_wp2_with fail
          refine hr.mono ?_
          rintro e w2 ⟨hu2, hfr2⟩
          rcases hu2 with ⟨h, _⟩ | ⟨l2, u2, he2, rfl, hown2⟩
          · cases h
          · obtain rfl : l = l2 := by simpa using he2
            have hll : (l == l) = true := by simp
            clear he2
            go_wp2_with fail
            refine (i64s_any _ _ l l w2 (hown1.vs.non hfr2) hown2.vs hll2 hll2).mono ?_
            rintro e w3 ⟨rfl, hfr3⟩
            go_wp2_with fail
            refine (rnlive_any w3).mono ?_
            rintro e w4 ⟨rfl, hfr4⟩
            go_wp2
            go_ret
            exact ⟨rfl, (((hfr1.trans hfr2).trans hfr3).trans hfr4).below⟩

set_option maxHeartbeats 1000000 in
theorem runsOne_walk (v : Value) (b : List UInt8) (n m : Int) (w : World) (hv : Bs w v b) (hl : b.length ≤ 9223372036854775807) (h1 : -9223372036854775808 ≤ n) (h2 : n ≤ 9223372036854775807) (h3 : -9223372036854775808 ≤ m) (h4 : m ≤ 9223372036854775807) :
    Calls Try.prog 5 #[v, .int .i64 n, .int .i64 m] w fun e w' => e = .returned (.bool true) ∧ Below w.heap.size w w' := by
  have HV := Lib.hid hv
  obtain ⟨A, c, rfl, _⟩ := hv
  have long : 400 < b.length ∨ (¬ 400 < b.length ∧ 400 < n) ∨ (¬ 400 < b.length ∧ ¬ 400 < n ∧ 400 < m) → Calls Try.prog 5 #[.slice A b.length c, .int .i64 n, .int .i64 m] w fun e w' => e = .returned (.bool true) ∧ Below w.heap.size w w' := by
    rintro (h | ⟨h, h'⟩ | ⟨h, h', h''⟩)
    all_goals
      go_enter Try.func5, Try.ntmps5
      go_wp2_with fail
      refine (rnlive_any w).mono ?_
      rintro e w1 ⟨rfl, hf1⟩
      go_wp2
      go_ret
      exact ⟨rfl, hf1.below⟩
  by_cases hb1 : 400 < b.length
  · exact long (.inl hb1)
  · by_cases hb2 : 400 < n
    · exact long (.inr (.inl ⟨hb1, hb2⟩))
    · by_cases hb3 : 400 < m
      · exact long (.inr (.inr ⟨hb1, hb2, hb3⟩))
      · clear long
        have hr1 := rnget_any _ b n w HV.out (by omega) h1 h2
        have HR2 := Lib.hid (fun W h => rnget_any (.slice A b.length c) b m W h (by omega) h3 h4)
        cases hg : gtM b n with
        | none =>
          rw [hg] at hr1
          go_enter Try.func5, Try.ntmps5
          go_wp2_with fail
          refine hr1.mono ?_
          rintro e w1 ⟨hu, hfr1⟩
          rcases hu with ⟨_, rfl⟩ | ⟨_, _, h, _⟩
          · go_wp2_with fail
            refine (rnlive_any w1).mono ?_
            rintro e w2 ⟨rfl, hfr2⟩
            go_wp2
            go_ret
            exact ⟨rfl, (hfr1.trans hfr2).below⟩
          · cases h
        | some l =>
          have hgi := gtM_is hg
          have HI := Lib.hid hgi.1
          have HX := Lib.hid hgi.2.2.1
          have hln := hgi.2.1
          have HC := Lib.hid (fun l' (h : gtM b m = some l') => gtM_count hg h)
          have hlb : l.length ≤ 1000000 := by omega
          have hbb : (b == b) = true := by simp
          rw [hg] at hr1
          clear hg hgi
          subst hln
          go_enter Try.func5, Try.ntmps5
          go_wp2_with fail
          refine hr1.mono ?_
          rintro e w1 ⟨hu, hfr1⟩
          rcases hu with ⟨h, _⟩ | ⟨l1, u1, he1, rfl, hown1⟩
          · cases h
          · obtain rfl : l = l1 := by simpa using he1
            clear he1
            obtain ⟨A1, c1, rfl⟩ := hown1.shape
            go_wp2_with fail
            refine (HR2.out w1 (HV.out.non hfr1)).mono ?_
            rintro e w2 ⟨hu2, hfr2⟩
            have hput := rnput_any _ l w2 (hown1.vs.non hfr2) hlb HX.out
            rw [HI.out] at hput
            have HP := Lib.hid hput
            clear hput
            cases hg2 : gtM b m with
            | none =>
              rw [hg2] at hu2
              clear hg2
              rcases hu2 with ⟨_, rfl⟩ | ⟨_, _, h, _⟩
              · go_wp2_with fail
                refine HP.out.mono ?_
                rintro e w3 ⟨u3, rfl, hown3, hfr3⟩
                have hf3 := (hfr1.trans hfr2).trans hfr3
                go_wp2_with fail
                refine (same_any _ _ b b w3 hown3.bs (HV.out.non hf3)).mono ?_
                rintro e w4 ⟨rfl, rfl⟩
                go_wp2_with fail
                refine (rnlive_any w3).mono ?_
                rintro e w4 ⟨rfl, hfr4⟩
                go_wp2
                go_ret
                exact ⟨rfl, (hf3.trans hfr4).below⟩
              · cases h
            | some l2 =>
              have hmn := HC.out l2 hg2
              rw [hg2] at hu2
              subst hmn
              clear hg2
              rcases hu2 with ⟨h, _⟩ | ⟨l3, u2, he2, rfl, hown2⟩
              · cases h
              · go_wp2_with fail
                refine HP.out.mono ?_
                rintro e w3 ⟨u3, rfl, hown3, hfr3⟩
                have hf3 := (hfr1.trans hfr2).trans hfr3
                go_wp2_with fail
                refine (same_any _ _ b b w3 hown3.bs (HV.out.non hf3)).mono ?_
                rintro e w4 ⟨rfl, rfl⟩
                go_wp2_with fail
                refine (rnlive_any w3).mono ?_
                rintro e w4 ⟨rfl, hfr4⟩
                go_wp2
                go_ret
                exact ⟨rfl, (hf3.trans hfr4).below⟩
end Go.Proofs.Ytaoonkjmhabfdaa
