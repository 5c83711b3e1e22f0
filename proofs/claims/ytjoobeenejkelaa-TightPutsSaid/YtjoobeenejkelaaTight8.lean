/-
  Layer 7: firkinref07.Same; the example; the laws TightPuts, TightGets, TightOne, walked.
-/
import Derived.Test.YtjoobeenejkelaaTight7
namespace Go.Proofs.Ytjoobeenejkelaa
set_option linter.unusedVariables false
set_option linter.unusedSimpArgs false
open Go.RowKit

set_option maxHeartbeats 1000000 in
theorem i64sT_any (v1 v2 : Value) (l1 l2 : List Int) (w : World) (h1 : Vs iv w v1 l1) (h2 : Vs iv w v2 l2) (hl1 : l1.length ≤ 9223372036854775807) (hl2 : l2.length ≤ 9223372036854775807) :
    Calls Try.prog 11 #[v1, v2] w fun e w' => e = .returned (.bool (l1 == l2)) ∧ Fr Non w w' := by
  obtain ⟨A1, c1, rfl, hc1, hn1, hcell1⟩ := h1
  obtain ⟨A2, c2, rfl, hc2, hn2, hcell2⟩ := h2
  have HN1 := Lib.hid hn1
  have HN2 := Lib.hid hn2
  have HC1 := Lib.hid hcell1
  have HC2 := Lib.hid hcell2
  clear hn1 hn2 hcell1 hcell2
  by_cases hlen : l1.length = l2.length
  · have HL := Lib.hid hlen
    have hb : ((l1.length : Int) != l2.length) = false := by rw [hlen]; simp
    have hle : l1.length ≤ l2.length := by omega
    have hge : l2.length ≤ l1.length := by omega
    clear hlen
    go_enter Try.func11, Try.ntmps11
    go_wp2
    go_loopw [5] (fun i wr => ∃ k : Nat, k ≤ l1.length ∧ i = .int .i64 k ∧ Hid (l1.take k = l2.take k) ∧ ∃ n, wr = w.drewN n) (fun i _ => l1.length - (intOf i).toNat)
    case atStart => exact ⟨0, Nat.zero_le _, rfl, Lib.hid rfl, 0, rfl⟩
    case round =>
      obtain ⟨k, hk, rfl, HT, n, rfl⟩ := hrel
      by_cases hlt : k < l1.length
      · cases A1 with
        | none => have := HN1.out rfl; omega
        | some a1 =>
          cases A2 with
          | none => have := HN2.out rfl; omega
          | some a2 =>
            have g1 : w.cell? (a1.add k) = some (iv l1[k]) := HC1.out a1 rfl k hlt
            have g2 : w.cell? (a2.add k) = some (iv (l2[k]'(by omega))) := HC2.out a2 rfl k (by omega)
            unfold iv at g1 g2
            by_cases he : l1[k] = l2[k]'(by omega)
            · have HE := Lib.hid (take_eqS hlt (by omega) HT.out he)
              rw [← he] at g2
              clear he
              generalize l1[k] = x at *
              have hx : (x != x) = false := by simp
              go_wp2
              go_quiet (fail)
              go_wp2
              go_roundw
              case rel => exact ⟨k + 1, by omega, by go_num, HE, _, rfl⟩
              case measure => simp [intOf]; omega
            · have HE := Lib.hid (take_neS hlt (by omega) he)
              have hx : (l1[k] != l2[k]'(by omega)) = true := by rw [bne_iff_ne]; exact he
              clear he
              generalize l1[k] = x at *
              generalize l2[k]'(by omega) = y at *
              go_wp2
              go_quiet (fail)
              go_wp2
              go_ret
              exact ⟨ret_boolE (beq_eq_false_iff_ne.2 HE.out).symm, ((Fr.refl _ _).drewN _).drewN _⟩
      · have HE : Hid (l1 = l2) := Lib.hid (by
          have := HT.out
          rwa [List.take_of_length_le (by omega), List.take_of_length_le (by omega)] at this)
        go_wp2
        go_ret
        exact ⟨ret_boolE (beq_iff_eq.2 HE.out).symm, (Fr.refl _ _).drewN _⟩
  · have hb : ((l1.length : Int) != l2.length) = true := by rw [bne_iff_ne]; omega
    have HE : Hid (l1 ≠ l2) := Lib.hid (fun e => hlen (by rw [e]))
    clear hlen
    go_enter Try.func11, Try.ntmps11
    go_wp2
    go_ret
    exact ⟨ret_boolE (beq_eq_false_iff_ne.2 HE.out).symm, Fr.refl _ _⟩

theorem putT_ex : putT [5, 6, 8] = [10, 2, 52] := by
  rw [putT_some (by simp), show leastOf [5, 6, 8] = 5 by decide, show width [5, 6, 8] = 2 by decide, show zig 5 = 10 by decide, Lib.uvarint_small (by omega), show packB (allB 2 5 [5, 6, 8]) = [52] by decide]
  rfl
theorem ex_i64 : ∀ x ∈ ([5, 6, 8] : List Int), I64 x := by
  intro x hx
  simp at hx
  unfold I64
  omega
theorem putT_len {l : List Int} (hx : ∀ x ∈ l, I64 x) : (putT l).length ≤ 20 + 8 * l.length := by
  by_cases h : l = []
  · subst h; simp [putT]
  · have hz := least_i64 hx
    have h1 := Lib.uvarint_length64 (zig_lt hz.1 hz.2)
    have h2 := Nat.mul_le_mul_left l.length (width_le hx)
    rw [putT_some h, List.length_append, List.length_cons, packB_length, allB_length]
    unfold need
    omega
theorem getM_small {b : List UInt8} {n : Int} (h : n ≤ 400) : getM b n = getZ b n := by unfold getM; rw [if_pos (by omega)]

set_option maxHeartbeats 1000000 in
theorem tlive_any (w : World) : Calls Try.prog 6 #[] w fun e w' => e = .returned (.bool true) ∧ Fr Non w w' := by
  have h1 := Lib.hid (vs_row (f := iv) w [5, 6, 8] 2 (0, 0))
  have H5 := Lib.hid (fun W : World => bs_row W [10, 2, 52])
  have HE := Lib.hid putT_ex
  go_enter Try.func6, Try.ntmps6
  go_wp2_with fail
  refine (tput_any _ [5, 6, 8] _ h1.out ex_i64 (by decide)).mono ?_
  rintro e w1 ⟨u, rfl, hown, hfr⟩
  go_wp2_with fail
  refine (same_any _ _ (putT [5, 6, 8]) [10, 2, 52] _ (hown.bs.non ((Fr.refl _ _).alloc _)) (H5.out _)).mono ?_
  rintro e w2 ⟨rfl, rfl⟩
  go_wp2
  go_ret
  exact ⟨ret_boolE (by rw [HE.out]; rfl), (((Fr.refl _ _).alloc _).trans hfr).alloc _⟩

set_option maxHeartbeats 1000000 in
theorem tightPuts_walk (v : Value) (l : List Int) (w : World) (hv : Vs iv w v l) (hx : ∀ x ∈ l, I64 x) (hl : l.length ≤ 9223372036854775807) :
    Calls Try.prog 3 #[v] w fun e w' => e = .returned (.bool true) ∧ Below w.heap.size w w' := by
  have HV := Lib.hid hv
  have HX := Lib.hid hx
  clear hx
  obtain ⟨A, c, rfl, _⟩ := hv
  by_cases hbig : 300 < l.length
  · go_enter Try.func3, Try.ntmps3
    go_wp2_with fail
    refine (tlive_any w).mono ?_
    rintro e w1 ⟨rfl, hf1⟩
    go_wp2
    go_ret
    exact ⟨rfl, hf1.below⟩
  · have hpl := putT_len HX.out
    have HG := Lib.hid (getZ_put HX.out)
    go_enter Try.func3, Try.ntmps3
    go_wp2_with fail
    refine (tput_any _ l w HV.out HX.out (by omega)).mono ?_
    rintro e w1 ⟨u1, rfl, hown1, hfr1⟩
    go_wp2_with fail
    refine (tget_any u1 (putT l) l.length w1 hown1.bs (by omega) (by omega) (by omega)).mono ?_
    rintro e w2 ⟨hu, hfr2⟩
    rw [getM_small (by omega), HG.out] at hu
    rcases hu with ⟨hbad, _⟩ | ⟨l2, u2, he, rfl, hown2⟩
    · cases hbad
    · obtain rfl : l = l2 := by simpa using he
      have hf12 := hfr1.trans hfr2
      clear he
      go_wp2_with fail
      refine (rtput_any _ l w2 (HV.out.non hf12) HX.out (by omega)).mono ?_
      rintro e w3 ⟨u3, rfl, hown3, hfr3⟩
      go_wp2_with fail
      refine (same_any _ _ (putT l) (putT l) w3 (hown1.bs.non (hfr2.trans hfr3)) hown3.bs).mono ?_
      rintro e w4 ⟨rfl, rfl⟩
      have hbb : (putT l == putT l) = true := by simp
      have hll : (l == l) = true := by simp
      go_wp2_with fail
      refine (i64sT_any _ _ l l w3 (hown2.vs.non hfr3) (HV.out.non (hf12.trans hfr3)) hl hl).mono ?_
      rintro e w4 ⟨rfl, hfr4⟩
      go_wp2_with fail
      refine (tlive_any w4).mono ?_
      rintro e w5 ⟨rfl, hfr5⟩
      go_wp2
      go_ret
      exact ⟨rfl, (((hf12.trans hfr3).trans hfr4).trans hfr5).below⟩

set_option maxHeartbeats 1000000 in
theorem tightGets_walk (v : Value) (b : List UInt8) (n : Int) (w : World) (hv : Bs w v b) (hvl : ∀ k, v.ownBlock = some k → k < w.heap.size) (hl : b.length ≤ 9223372036854775807) (h1 : -9223372036854775808 ≤ n) (h2 : n ≤ 9223372036854775807) :
    Calls Try.prog 4 #[v, .int .i64 n] w fun e w' => e = .returned (.bool true) ∧ Below w.heap.size w w' := by
  have HV := Lib.hid hv
  have HVL := Lib.hid hvl
  clear hvl
  obtain ⟨A, c, rfl, _⟩ := hv
  have long : 400 < b.length ∨ (¬ 400 < b.length ∧ 400 < n) → Calls Try.prog 4 #[.slice A b.length c, .int .i64 n] w fun e w' => e = .returned (.bool true) ∧ Below w.heap.size w w' := by
    rintro (h | ⟨h, h'⟩)
    all_goals
      go_enter Try.func4, Try.ntmps4
      go_wp2_with fail
      refine (tlive_any w).mono ?_
      rintro e w1 ⟨rfl, hf1⟩
      go_wp2
      go_ret
      exact ⟨rfl, hf1.below⟩
  by_cases hb1 : 400 < b.length
  · exact long (.inl hb1)
  · by_cases hb2 : 400 < n
    · exact long (.inr ⟨hb1, hb2⟩)
    · clear long
      go_enter Try.func4, Try.ntmps4
      go_wp2_with fail
      refine (tget_any _ b n w HV.out (by omega) h1 h2).mono ?_
      rintro e w1 ⟨hu, hfr1⟩
      rw [getM_small (by omega)] at hu
      have hr := rtget_any _ b n w1 (HV.out.non hfr1) (fun k hk => Nat.lt_of_lt_of_le (HVL.out k hk) hfr1.size) (by omega) h1 (by omega)
      cases hg : getZ b n with
      | none =>
        rw [hg] at hu hr
        clear hg
        rcases hu with ⟨_, rfl⟩ | ⟨_, _, h, _⟩
        · go_wp2_with fail
          refine hr.mono ?_
          rintro e w2 ⟨hu2, hfr2⟩
          rcases hu2 with ⟨_, rfl⟩ | ⟨_, _, h, _⟩
          · go_wp2_with fail
            refine (i64sT_any _ _ [] [] w2 (Vs.nil_ _) (Vs.nil_ _) (by simp) (by simp)).mono ?_
            rintro e w3 ⟨rfl, hfr3⟩
            have hnn : (([] : List Int) == []) = true := rfl
            go_wp2_with fail
            refine (tlive_any w3).mono ?_
            rintro e w4 ⟨rfl, hfr4⟩
            go_wp2
            go_ret
            exact ⟨rfl, (((hfr1.trans hfr2).trans hfr3).trans hfr4).below⟩
          · cases h
        · cases h
      | some l =>
        have HI := Lib.hid (getZ_is hg)
        have hll2 : l.length ≤ 9223372036854775807 := by have := HI.out.2.1; omega
        rw [hg] at hu hr
        clear hg
        rcases hu with ⟨h, _⟩ | ⟨l1, u1, he1, rfl, hown1⟩
        · cases h
        · obtain rfl : l = l1 := by simpa using he1
          clear he1
          go_wp2_with fail
          refine hr.mono ?_
          rintro e w2 ⟨hu2, hfr2⟩
          rcases hu2 with ⟨h, _⟩ | ⟨l2, u2, he2, rfl, hown2⟩
          · cases h
          · obtain rfl : l = l2 := by simpa using he2
            have hll : (l == l) = true := by simp
            clear he2
            go_wp2_with fail
            refine (i64sT_any _ _ l l w2 (hown1.vs.non hfr2) hown2.vs hll2 hll2).mono ?_
            rintro e w3 ⟨rfl, hfr3⟩
            go_wp2_with fail
            refine (tlive_any w3).mono ?_
            rintro e w4 ⟨rfl, hfr4⟩
            go_wp2
            go_ret
            exact ⟨rfl, (((hfr1.trans hfr2).trans hfr3).trans hfr4).below⟩

set_option maxHeartbeats 1000000 in
theorem tightOne_walk (v : Value) (b : List UInt8) (n m : Int) (w : World) (hv : Bs w v b) (hl : b.length ≤ 9223372036854775807) (h1 : -9223372036854775808 ≤ n) (h2 : n ≤ 9223372036854775807) (h3 : -9223372036854775808 ≤ m) (h4 : m ≤ 9223372036854775807) :
    Calls Try.prog 5 #[v, .int .i64 n, .int .i64 m] w fun e w' => e = .returned (.bool true) ∧ Below w.heap.size w w' := by
  have HV := Lib.hid hv
  obtain ⟨A, c, rfl, _⟩ := hv
  have long : 400 < b.length ∨ (¬ 400 < b.length ∧ 400 < n) ∨ (¬ 400 < b.length ∧ ¬ 400 < n ∧ 400 < m) → Calls Try.prog 5 #[.slice A b.length c, .int .i64 n, .int .i64 m] w fun e w' => e = .returned (.bool true) ∧ Below w.heap.size w w' := by
    rintro (h | ⟨h, h'⟩ | ⟨h, h', h''⟩)
    all_goals
      go_enter Try.func5, Try.ntmps5
      go_wp2_with fail
      refine (tlive_any w).mono ?_
      rintro e w1 ⟨rfl, hf1⟩
      go_wp2
      go_ret
      exact ⟨rfl, hf1.below⟩
  by_cases hb1 : 400 < b.length
  · exact long (.inl hb1)
  · by_cases hb2 : 400 < n
    · exact long (.inr (.inl ⟨hb1, hb2⟩))
    · by_cases hb3 : 400 < m
      · exact long (.inr (.inr ⟨hb1, hb2, hb3⟩))
      · clear long
        have hr1 := tget_any _ b n w HV.out (by omega) h1 h2
        have HR2 := Lib.hid (fun W h => tget_any (.slice A b.length c) b m W h (by omega) h3 h4)
        rw [getM_small (by omega)] at hr1
        rw [getM_small (show m ≤ 400 by omega)] at HR2
        cases hg : getZ b n with
        | none =>
          rw [hg] at hr1
          go_enter Try.func5, Try.ntmps5
          go_wp2_with fail
          refine hr1.mono ?_
          rintro e w1 ⟨hu, hfr1⟩
          rcases hu with ⟨_, rfl⟩ | ⟨_, _, h, _⟩
          · go_wp2_with fail
            refine (tlive_any w1).mono ?_
            rintro e w2 ⟨rfl, hfr2⟩
            go_wp2
            go_ret
            exact ⟨rfl, (hfr1.trans hfr2).below⟩
          · cases h
        | some l =>
          have hgi := getZ_is hg
          have HI := Lib.hid hgi.1
          have HX := Lib.hid hgi.2.2
          have hln := hgi.2.1
          have hlb : l.length ≤ 1000000 := by omega
          have hbb : (b == b) = true := by simp
          rw [hg] at hr1
          clear hg hgi
          subst hln
          go_enter Try.func5, Try.ntmps5
          go_wp2_with fail
          refine hr1.mono ?_
          rintro e w1 ⟨hu, hfr1⟩
          rcases hu with ⟨h, _⟩ | ⟨l1, u1, he1, rfl, hown1⟩
          · cases h
          · obtain rfl : l = l1 := by simpa using he1
            clear he1
            obtain ⟨A1, c1, rfl⟩ := hown1.shape
            go_wp2_with fail
            refine (HR2.out w1 (HV.out.non hfr1)).mono ?_
            rintro e w2 ⟨hu2, hfr2⟩
            have hput : ∀ W, Fr Non w1 W → Calls Try.prog 7 #[.slice A1 l.length c1] W fun e w' => ∃ u, e = .returned u ∧ Own w' W.heap.size u b ∧ Fr Non W w' := fun W hW => by
              have h := tput_any _ l W (hown1.vs.non hW) HX.out hlb
              rwa [HI.out] at h
            have HP := Lib.hid hput
            clear hput
            cases hg2 : getZ b m with
            | none =>
              rw [hg2] at hu2
              clear hg2
              rcases hu2 with ⟨_, rfl⟩ | ⟨_, _, h, _⟩
              · go_wp2_with fail
                refine (HP.out w2 hfr2).mono ?_
                rintro e w3 ⟨u3, rfl, hown3, hfr3⟩
                have hf3 := (hfr1.trans hfr2).trans hfr3
                go_wp2_with fail
                refine (same_any _ _ b b w3 hown3.bs (HV.out.non hf3)).mono ?_
                rintro e w4 ⟨rfl, rfl⟩
                go_wp2_with fail
                refine (tlive_any w3).mono ?_
                rintro e w4 ⟨rfl, hfr4⟩
                go_wp2
                go_ret
                exact ⟨rfl, (hf3.trans hfr4).below⟩
              · cases h
            | some l2 =>
              have hgi2 := getZ_is hg2
              have HI2 := Lib.hid hgi2.1
              have HX2 := Lib.hid hgi2.2.2
              have hmn := hgi2.2.1
              have hlb2 : l2.length ≤ 1000000 := by omega
              rw [hg2] at hu2
              subst hmn
              clear hg2 hgi2
              rcases hu2 with ⟨h, _⟩ | ⟨l3, u2, he2, rfl, hown2⟩
              · cases h
              · obtain rfl : l2 = l3 := by simpa using he2
                clear he2
                obtain ⟨A2, c2, rfl⟩ := hown2.shape
                have hput2 := tput_any _ l2 w2 hown2.vs HX2.out hlb2
                rw [HI2.out] at hput2
                go_wp2_with fail
                refine hput2.mono ?_
                rintro e w3 ⟨u3, rfl, hown3, hfr3⟩
                have hf3 := (hfr1.trans hfr2).trans hfr3
                go_wp2_with fail
                refine (same_any _ _ b b w3 hown3.bs (HV.out.non hf3)).mono ?_
                rintro e w4 ⟨rfl, rfl⟩
                go_wp2_with fail
                refine (HP.out w3 (hfr2.trans hfr3)).mono ?_
                rintro e w5 ⟨u5, rfl, hown5, hfr5⟩
                have hf5 := hf3.trans hfr5
                go_wp2_with fail
                refine (same_any _ _ b b w5 hown5.bs (HV.out.non hf5)).mono ?_
                rintro e w6 ⟨rfl, rfl⟩
                go_wp2_with fail
                refine (tlive_any w5).mono ?_
                rintro e w6 ⟨rfl, hfr6⟩
                go_wp2
                go_ret
                exact ⟨rfl, (hf5.trans hfr6).below⟩
end Go.Proofs.Ytjoobeenejkelaa
