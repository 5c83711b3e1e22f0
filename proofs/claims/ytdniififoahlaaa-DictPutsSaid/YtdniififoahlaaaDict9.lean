/-
  Layer 8: the example; the walks of the laws.
-/
import Derived.Test.YtdniififoahlaaaDict8
namespace Go.Proofs.Ytdniififoahlaaa
set_option linter.unusedVariables false
set_option linter.unusedSimpArgs false
set_option maxRecDepth 100000
open Go.RowKit

theorem putT_ex8 : putT [1, 0, 1] = [0, 1, 5] := by
  rw [putT_some (by simp), show leastOf [1, 0, 1] = 0 by decide, show width [1, 0, 1] = 1 by decide, show zig 0 = 0 by decide, Lib.uvarint_small (by omega), show packB (allB 1 0 [1, 0, 1]) = [5] by decide]
  rfl
theorem uniq_ex8 : uniq [[98], [97], [98]] = [[97], [98]] := by decide
theorem dictB_ex : dictB [[98], [97], [98]] = [2, 1, 97, 1, 98, 0, 1, 5] := by
  have h2 : placesD [[98], [97], [98]] = [1, 0, 1] := by unfold placesD; rw [uniq_ex8]; decide
  unfold dictB
  rw [h2, putT_ex8, uniq_ex8, Lib.uvarint_small (by decide)]
  have h3 : plainB [[97], [98]] = [1, 97, 1, 98] := by
    unfold plainB textB
    simp only [List.map_cons, List.map_nil, List.length_cons, List.length_nil]
    rw [Lib.uvarint_small (by omega)]
    rfl
  rw [h3]; rfl
theorem plain_ex : (plainB (uniq [[98], [97], [98]])).length < 137438953472 :=
  plainB_uniq (B := 1) (by decide) (by decide) (by omega)

set_option maxHeartbeats 1000000 in
theorem xlive_any (w : World) : Calls Try.prog 7 #[] w fun e w' => e = .returned (.bool true) ∧ Fr Non w w' := by
  have h0 := vs_row (f := sv) w [[98], [97], [98]] 9 (0, 0)
  simp only [sv, List.map_cons, List.map_nil, List.length_cons, List.length_nil] at h0
  have H1 := Lib.hid h0
  have H5 := Lib.hid (fun W : World => bs_row W [2, 1, 97, 1, 98, 0, 1, 5])
  have HE := Lib.hid dictB_ex
  clear h0
  go_enter Try.func7, Try.ntmps7
  go_wp2_with fail
  refine (xput_any _ [[98], [97], [98]] _ H1.out (by decide) (by decide) plain_ex).mono ?_
  rintro e w1 ⟨u, rfl, hown, hfr⟩
  go_wp2_with fail
  refine (same_any _ _ (dictB [[98], [97], [98]]) [2, 1, 97, 1, 98, 0, 1, 5] _ (hown.bs.non ((Fr.refl _ _).alloc _)) (H5.out _)).mono ?_
  rintro e w2 ⟨rfl, rfl⟩
  go_wp2
  go_ret
  exact ⟨ret_boolE (by rw [HE.out]; rfl), (((Fr.refl _ _).alloc _).trans hfr).alloc _⟩

/-- are texts not too many, or too long? -/
def smallD (l : List Tx) : Bool := (l.take 200).all (fun x => decide (x.length ≤ 100)) && decide (l.length ≤ 100)
theorem smallD_is {l : List Tx} (h : smallD l = true) : l.length ≤ 100 ∧ ∀ x ∈ l, x.length ≤ 100 := by
  unfold smallD at h
  simp only [Bool.and_eq_true, decide_eq_true_eq] at h
  refine ⟨h.2, fun x hx => ?_⟩
  rw [List.take_of_length_le (by omega)] at h
  have := List.all_eq_true.1 h.1 x hx
  simpa using this
theorem small_step {l : List Tx} {k : Nat} (hk : k < l.length) (h : (l.take k).all (fun x => decide (x.length ≤ 100)) = true) (hx : l[k].length ≤ 100) : (l.take (k + 1)).all (fun x => decide (x.length ≤ 100)) = true := by
  rw [List.take_succ_eq_append_getElem hk, List.all_append, h]
  simpa using hx
theorem small_no {l : List Tx} {k : Nat} (hk : k < l.length) (h2 : k < 200) (hx : ¬ l[k].length ≤ 100) : smallD l = false := by
  unfold smallD
  rw [Bool.and_eq_false_iff]
  left
  rw [Bool.eq_false_iff]
  intro h
  have h3 := List.all_eq_true.1 h l[k] (by
    rw [List.mem_iff_getElem]
    exact ⟨k, by rw [List.length_take]; omega, by rw [List.getElem_take]⟩)
  exact hx (by simpa using h3)

set_option maxHeartbeats 1000000 in
theorem small_any (v : Value) (l : List Tx) (w : World) (hv : Vs sv w v l) (hl : l.length ≤ 9223372036854775807) :
    Calls Try.prog 6 #[v] w fun e w' => e = .returned (.bool (smallD l)) ∧ w = w' := by
  obtain ⟨A, c, rfl, hlc, hn, hcell⟩ := hv
  have HN := Lib.hid hn
  have HC := Lib.hid hcell
  have HSt := Lib.hid (fun k hk => small_step (l := l) (k := k) hk)
  have HNo := Lib.hid (fun k hk => small_no (l := l) (k := k) hk)
  clear hn hcell
  go_enter Try.func6, Try.ntmps6
  go_wp2
  go_loop [3] (fun i => ∃ k : Nat, k ≤ l.length ∧ k ≤ 200 ∧ i = .int .i64 k ∧ Hid ((l.take k).all (fun x => decide (x.length ≤ 100)) = true)) (fun i => 200 - (intOf i).toNat)
  case atStart => exact ⟨0, Nat.zero_le _, by omega, rfl, Lib.hid (by simp)⟩
  case round =>
    obtain ⟨k, hk, hk2, rfl, HA⟩ := hrel
    by_cases hlt : k < l.length ∧ k < 200
    · obtain ⟨h3, h4⟩ := hlt
      cases A with
      | none => have := HN.out rfl; omega
      | some a =>
        have g0 : w.cell? (a.add k) = some (sv l[k]) := HC.out a rfl k h3
        unfold sv at g0
        have hs : ByteArray.size ⟨(l[k]).toArray⟩ = l[k].length := by simp [ByteArray.size]
        have HS1 := Lib.hid (HSt.out k h3 HA.out)
        have HN1 := Lib.hid (HNo.out k h3 h4)
        by_cases hx : l[k].length ≤ 100
        · have HS2 := Lib.hid (HS1.out hx)
          clear HS1 HN1
          generalize l[k] = x at *
          go_wp2
          go_round
          case rel => exact ⟨k + 1, by omega, by omega, by go_num, HS2⟩
          case measure => simp [intOf]; omega
        · have HN2 := Lib.hid (HN1.out hx)
          clear HS1 HN1
          generalize l[k] = x at *
          go_wp2
          go_ret
          exact ⟨ret_boolE HN2.out.symm, rfl⟩
    · have HF : Hid (smallD l = decide (l.length ≤ 100)) := Lib.hid (by
        unfold smallD
        rcases Nat.lt_or_ge k l.length with h | h
        · have h200 : k = 200 := by omega
          have := HA.out
          rw [h200] at this
          rw [this, Bool.true_and]
        · have h0 : k = l.length := by omega
          have := HA.out
          rw [h0, List.take_length] at this
          rw [List.take_of_length_le (by omega), this, Bool.true_and])
      rcases Nat.lt_or_ge k l.length with h | h
      · have h200 : ¬ (k : Int) < 200 := by omega
        have hle : ¬ l.length ≤ 100 := by omega
        go_wp2
        go_ret
        exact ⟨ret_boolE (by rw [HF.out]; simp; omega), rfl⟩
      · go_wp2
        go_ret
        exact ⟨ret_boolE (by rw [HF.out]; first | (rw [decide_eq_decide]; omega) | (simp; omega)), rfl⟩

set_option maxHeartbeats 2000000 in
theorem dictPuts_walk (v : Value) (l : List Tx) (w : World) (hv : Vs sv w v l) (hl : l.length ≤ 9223372036854775807) :
    Calls Try.prog 3 #[v] w fun e w' => e = .returned (.bool true) ∧ Below w.heap.size w w' := by
  have HV := Lib.hid hv
  have hsm := small_any v l w hv hl
  obtain ⟨A, c, rfl⟩ := hv.shape
  cases hs : smallD l with
  | false =>
    rw [hs] at hsm
    clear hs
    go_enter Try.func3, Try.ntmps3
    go_wp2_with fail
    refine hsm.mono ?_
    rintro e w1 ⟨rfl, rfl⟩
    go_wp2_with fail
    refine (xlive_any w).mono ?_
    rintro e w1 ⟨rfl, hf1⟩
    go_wp2
    go_ret
    exact ⟨rfl, hf1.below⟩
  | true =>
    rw [hs] at hsm
    obtain ⟨hl100, hx100⟩ := smallD_is hs
    have HX := Lib.hid (show ∀ x ∈ l, x.length < 1048576 from fun x hx => by have := hx100 x hx; omega)
    have hpb := plainB_bound (l := l) (B := 100) hx100 (by decide)
    have HPb := Lib.hid (show (plainB l).length < 137438953472 by omega)
    have HPu := Lib.hid (plainB_uniq (l := l) (B := 100) (by omega) hx100 (by omega))
    have HM := Lib.hid (show ∀ x ∈ l, (x.length : Int) ≤ 100 ∧ x.length < two64 from fun x hx => by have := hx100 x hx; unfold two64; omega)
    have HT := Lib.hid (textsM_own (u := l) (m := 100) (by omega) HM.out)
    have HG := Lib.hid (dgetM_own (l := l) (m := 100) (by omega) HM.out)
    have hdl : (dictB l).length ≤ 1000000 := by
      have h1 := uniq_length l
      have h2 := plainB_bound (l := uniq l) (B := 100) (fun x hx => hx100 x ((uniq_mem l x).1 hx)) (by decide)
      have h3 := putT_len (placesD_i64 (l := l) (by omega))
      have h4 := placesD_length l
      have h5 := Lib.uvarint_length64 (x := (uniq l).length) (by omega)
      unfold dictB
      rw [List.length_append, List.length_append]
      omega
    have HDl := Lib.hid hdl
    clear hs hx100 hpb hdl
    go_enter Try.func3, Try.ntmps3
    go_wp2_with fail
    refine hsm.mono ?_
    rintro e w1 ⟨rfl, rfl⟩
    go_wp2_with fail
    refine (plain_any _ l w HV.out (by omega) HX.out HPb.out).mono ?_
    rintro e w1 ⟨v1, rfl, hown1, hf1⟩
    obtain ⟨A1, c1, rfl⟩ := hown1.shape
    go_wp2_with fail
    refine (xput_any _ l w1 (HV.out.non hf1) (by omega) HX.out HPu.out).mono ?_
    rintro e w2 ⟨v2, rfl, hown2, hf2⟩
    obtain ⟨A2, c2, rfl⟩ := hown2.shape
    have hf12 := hf1.trans hf2
    have htx := texts_any _ (plainB l) (l.length : Int) 100 w2 (hown1.bs.non hf2) (by omega) (by omega) (by omega)
    rw [HT.out] at htx
    go_wp2_with fail
    refine htx.mono ?_
    rintro e w3 ⟨hgt, hf3⟩
    rcases hgt with ⟨h, _⟩ | ⟨l3, v3, he, rfl, hown3⟩
    · cases h
    · obtain rfl : l = l3 := by simpa using he
      clear he htx
      obtain ⟨A3, c3, rfl⟩ := hown3.shape
      have hgx := xget_any _ (dictB l) (l.length : Int) 100 w3 (hown2.bs.non hf3) (fun k hk => by have := (hown2.lt k hk).2; have := hf3.size; omega) HDl.out (by omega) (by omega) (by omega)
      rw [HG.out] at hgx
      go_wp2_with fail
      refine hgx.mono ?_
      rintro e w4 ⟨hgt, hf4⟩
      rcases hgt with ⟨h, _⟩ | ⟨l4, v4, he, rfl, hown4⟩
      · cases h
      · obtain rfl : l = l4 := by simpa using he
        clear he hgx
        obtain ⟨A4, c4, rfl⟩ := hown4.shape
        have hf14 := (hf12.trans hf3).trans hf4
        have hf24 := hf3.trans hf4
        have hpp : (plainB l == plainB l) = true := by simp
        have hdd : (dictB l == dictB l) = true := by simp
        have hll : (l == l) = true := by simp
        go_wp2_with fail
        refine (rplain_any _ l w4 (HV.out.non hf14) (by omega) HX.out HPb.out).mono ?_
        rintro e w5 ⟨v5, rfl, hown5, hf5⟩
        go_wp2_with fail
        refine (same_any _ _ (plainB l) (plainB l) w5 ((hown1.bs.non (hf2.trans hf24)).non hf5) hown5.bs).mono ?_
        rintro e w6 ⟨rfl, rfl⟩
        go_wp2_with fail
        refine (rxput_any _ l w5 (HV.out.non (hf14.trans hf5)) (by omega) HX.out HPu.out).mono ?_
        rintro e w6 ⟨v6, rfl, hown6, hf6⟩
        go_wp2_with fail
        refine (same_any _ _ (dictB l) (dictB l) w6 (((hown2.bs.non hf24).non hf5).non hf6) hown6.bs).mono ?_
        rintro e w7 ⟨rfl, rfl⟩
        go_wp2_with fail
        refine (names_any _ _ l l w6 (((hown3.vs.non hf4).non hf5).non hf6) (HV.out.non ((hf14.trans hf5).trans hf6)) hl).mono ?_
        rintro e w7 ⟨rfl, hf7⟩
        go_wp2_with fail
        refine (names_any _ _ l l w7 (((hown4.vs.non hf5).non hf6).non hf7) (HV.out.non (((hf14.trans hf5).trans hf6).trans hf7)) hl).mono ?_
        rintro e w8 ⟨rfl, hf8⟩
        go_wp2_with fail
        refine (xlive_any w8).mono ?_
        rintro e w9 ⟨rfl, hf9⟩
        go_wp2
        go_ret
        exact ⟨rfl, (((((hf14.trans hf5).trans hf6).trans hf7).trans hf8).trans hf9).below⟩

set_option maxHeartbeats 2000000 in
theorem dictGets_walk (v : Value) (b : List UInt8) (n m : Int) (w : World) (hv : Bs w v b) (hvl : ∀ k, v.ownBlock = some k → k < w.heap.size) (hl : b.length ≤ 9223372036854775807) (h1 : -9223372036854775808 ≤ n) (h2 : n ≤ 9223372036854775807) (h4 : m ≤ 9223372036854775807) :
    Calls Try.prog 4 #[v, .int .i64 n, .int .i64 m] w fun e w' => e = .returned (.bool true) ∧ Below w.heap.size w w' := by
  have HV := Lib.hid hv
  have HVl := Lib.hid hvl
  obtain ⟨A, c, rfl⟩ := hv.shape
  clear hvl
  have long : 400 < b.length ∨ (¬ 400 < b.length ∧ 400 < n) → Calls Try.prog 4 #[.slice A b.length c, .int .i64 n, .int .i64 m] w fun e w' => e = .returned (.bool true) ∧ Below w.heap.size w w' := by
    rintro (h | ⟨h, h'⟩)
    all_goals
      go_enter Try.func4, Try.ntmps4
      go_wp2_with fail
      refine (xlive_any w).mono ?_
      rintro e w1 ⟨rfl, hf1⟩
      go_wp2
      go_ret
      exact ⟨rfl, hf1.below⟩
  by_cases hb1 : 400 < b.length
  · exact long (.inl hb1)
  · by_cases hb2 : 400 < n
    · exact long (.inr ⟨hb1, hb2⟩)
    · clear long
      have hr1 := xget_any _ b n m w HV.out HVl.out (by omega) h1 h2 h4
      have HR2 := Lib.hid (fun W (hf : Fr Non w W) => rxget_any (.slice A b.length c) b n m W (HV.out.non hf) (fun k hk => Nat.lt_of_lt_of_le (HVl.out k hk) hf.size) (by omega) h1 (by omega) h4)
      rw [rgetM_is (b := b) (n := n) (m := m) (by omega)] at HR2
      cases hg : dgetM b n m with
      | none =>
        rw [hg] at hr1 HR2
        clear hg
        go_enter Try.func4, Try.ntmps4
        go_wp2_with fail
        refine hr1.mono ?_
        rintro e w1 ⟨hu, hfr1⟩
        rcases hu with ⟨_, rfl⟩ | ⟨_, _, h, _⟩
        · go_wp2_with fail
          refine (HR2.out w1 hfr1).mono ?_
          rintro e w2 ⟨hu, hfr2⟩
          rcases hu with ⟨_, rfl⟩ | ⟨_, _, h, _⟩
          · have hll : (([] : List Tx) == []) = true := rfl
            go_wp2_with fail
            refine (names_any _ _ [] [] w2 (Vs.nil_ _) (Vs.nil_ _) (by decide)).mono ?_
            rintro e w3 ⟨rfl, hfr3⟩
            go_wp2_with fail
            refine (xlive_any w3).mono ?_
            rintro e w4 ⟨rfl, hfr4⟩
            go_wp2
            go_ret
            exact ⟨rfl, (((hfr1.trans hfr2).trans hfr3).trans hfr4).below⟩
          · cases h
        · cases h
      | some l =>
        have hln : l.length ≤ 4096 := by
          unfold dgetM at hg
          split at hg
          · cases hg
          · have := dgetK_is hg; omega
        rw [hg] at hr1 HR2
        clear hg
        go_enter Try.func4, Try.ntmps4
        go_wp2_with fail
        refine hr1.mono ?_
        rintro e w1 ⟨hu, hfr1⟩
        rcases hu with ⟨h, _⟩ | ⟨l1, u1, he1, rfl, hown1⟩
        · cases h
        · obtain rfl : l = l1 := by simpa using he1
          clear he1
          obtain ⟨A1, c1, rfl⟩ := hown1.shape
          go_wp2_with fail
          refine (HR2.out w1 hfr1).mono ?_
          rintro e w2 ⟨hu2, hfr2⟩
          rcases hu2 with ⟨h, _⟩ | ⟨l2, u2, he2, rfl, hown2⟩
          · cases h
          · obtain rfl : l = l2 := by simpa using he2
            have hll : (l == l) = true := by simp
            clear he2
            obtain ⟨A2, c2, rfl⟩ := hown2.shape
            go_wp2_with fail
            refine (names_any _ _ l l w2 (hown1.vs.non hfr2) hown2.vs (by omega)).mono ?_
            rintro e w3 ⟨rfl, hfr3⟩
            go_wp2_with fail
            refine (xlive_any w3).mono ?_
            rintro e w4 ⟨rfl, hfr4⟩
            go_wp2
            go_ret
            exact ⟨rfl, (((hfr1.trans hfr2).trans hfr3).trans hfr4).below⟩

set_option maxHeartbeats 2000000 in
theorem dictTexts_walk (v : Value) (b : List UInt8) (n m : Int) (w : World) (hv : Bs w v b) (hvl : ∀ k, v.ownBlock = some k → k < w.heap.size) (hl : b.length ≤ 9223372036854775807) (h1 : -9223372036854775808 ≤ n) (h2 : n ≤ 9223372036854775807) (h4 : m ≤ 9223372036854775807) :
    Calls Try.prog 5 #[v, .int .i64 n, .int .i64 m] w fun e w' => e = .returned (.bool true) ∧ Below w.heap.size w w' := by
  have HV := Lib.hid hv
  have HVl := Lib.hid hvl
  obtain ⟨A, c, rfl⟩ := hv.shape
  clear hvl
  have long : 400 < b.length ∨ (¬ 400 < b.length ∧ 400 < n) → Calls Try.prog 5 #[.slice A b.length c, .int .i64 n, .int .i64 m] w fun e w' => e = .returned (.bool true) ∧ Below w.heap.size w w' := by
    rintro (h | ⟨h, h'⟩)
    all_goals
      go_enter Try.func5, Try.ntmps5
      go_wp2_with fail
      refine (xlive_any w).mono ?_
      rintro e w1 ⟨rfl, hf1⟩
      go_wp2
      go_ret
      exact ⟨rfl, hf1.below⟩
  by_cases hb1 : 400 < b.length
  · exact long (.inl hb1)
  · by_cases hb2 : 400 < n
    · exact long (.inr ⟨hb1, hb2⟩)
    · clear long
      have hr1 := texts_any _ b n m w HV.out h1 h2 h4
      have HR2 := Lib.hid (fun W (hf : Fr Non w W) => rtexts_any (.slice A b.length c) b n m W (HV.out.non hf) (fun k hk => Nat.lt_of_lt_of_le (HVl.out k hk) hf.size) (by omega) h1 (by omega) h4)
      cases hg : textsM b n m with
      | none =>
        rw [hg] at hr1 HR2
        clear hg
        go_enter Try.func5, Try.ntmps5
        go_wp2_with fail
        refine hr1.mono ?_
        rintro e w1 ⟨hu, hfr1⟩
        rcases hu with ⟨_, rfl⟩ | ⟨_, _, h, _⟩
        · go_wp2_with fail
          refine (HR2.out w1 hfr1).mono ?_
          rintro e w2 ⟨hu, hfr2⟩
          rcases hu with ⟨_, rfl⟩ | ⟨_, _, h, _⟩
          · have hll : (([] : List Tx) == []) = true := rfl
            go_wp2_with fail
            refine (names_any _ _ [] [] w2 (Vs.nil_ _) (Vs.nil_ _) (by decide)).mono ?_
            rintro e w3 ⟨rfl, hfr3⟩
            go_wp2_with fail
            refine (xlive_any w3).mono ?_
            rintro e w4 ⟨rfl, hfr4⟩
            go_wp2
            go_ret
            exact ⟨rfl, (((hfr1.trans hfr2).trans hfr3).trans hfr4).below⟩
          · cases h
        · cases h
      | some l =>
        obtain ⟨hpl, hln, hxl⟩ := textsM_is hg
        have HPl := Lib.hid hpl
        have HXl := Lib.hid (show ∀ x ∈ l, x.length < 1048576 from fun x hx => by have := (hxl x hx).2; omega)
        have hln2 : l.length ≤ 400 := by omega
        rw [hg] at hr1 HR2
        clear hg hpl hxl hln
        have hbb : (b == b) = true := by simp
        go_enter Try.func5, Try.ntmps5
        go_wp2_with fail
        refine hr1.mono ?_
        rintro e w1 ⟨hu, hfr1⟩
        rcases hu with ⟨h, _⟩ | ⟨l1, u1, he1, rfl, hown1⟩
        · cases h
        · obtain rfl : l = l1 := by simpa using he1
          clear he1
          obtain ⟨A1, c1, rfl⟩ := hown1.shape
          go_wp2_with fail
          refine (HR2.out w1 hfr1).mono ?_
          rintro e w2 ⟨hu2, hfr2⟩
          rcases hu2 with ⟨h, _⟩ | ⟨l2, u2, he2, rfl, hown2⟩
          · cases h
          · obtain rfl : l = l2 := by simpa using he2
            have hll : (l == l) = true := by simp
            clear he2
            obtain ⟨A2, c2, rfl⟩ := hown2.shape
            go_wp2_with fail
            refine (names_any _ _ l l w2 (hown1.vs.non hfr2) hown2.vs (by omega)).mono ?_
            rintro e w3 ⟨rfl, hfr3⟩
            have hp := plain_any _ l w3 ((hown1.vs.non hfr2).non hfr3) (by omega) HXl.out (by rw [HPl.out]; omega)
            rw [HPl.out] at hp
            go_wp2_with fail
            refine hp.mono ?_
            rintro e w4 ⟨v4, rfl, hown4, hfr4⟩
            have hf4 := ((hfr1.trans hfr2).trans hfr3).trans hfr4
            go_wp2_with fail
            refine (same_any _ _ b b w4 hown4.bs (HV.out.non hf4)).mono ?_
            rintro e w5 ⟨rfl, rfl⟩
            go_wp2_with fail
            refine (xlive_any w4).mono ?_
            rintro e w5 ⟨rfl, hfr5⟩
            go_wp2
            go_ret
            exact ⟨rfl, (hf4.trans hfr5).below⟩
end Go.Proofs.Ytdniififoahlaaa
