/-
  Layer 4: the walks of bitv.Unpack, firkinref04.Unpack.
-/
import Derived.Test.YtefcbkjanfbmoaaBitv1
import Derived.Deep.QuietTactic
import Derived.BigQuiet
namespace Go.Proofs.Ytefcbkjanfbmoaa
set_option linter.unusedVariables false
set_option linter.unusedSimpArgs false
open Go.RowKit

/-- what unpacking answers: nothing and false, or the truths and true -/
def Unp (w : World) (B : Nat) (b : List UInt8) (n : Int) (e : Ending) (w' : World) : Prop :=
  (¬ (0 ≤ n ∧ Fit b n.toNat) ∧ e = .returned (.tuple #[.slice none 0 0, .bool false])) ∨
  ((0 ≤ n ∧ Fit b n.toNat) ∧ ∃ u, e = .returned (.tuple #[u, .bool true]) ∧ Ow tv 4 w' B u (unp b n.toNat))

theorem testBit_divI (x t : Nat) : (((x / 2 ^ t % 2 : Nat) : Int) == 1) = x.testBit t := by
  rw [← testBit_div]
  generalize x / 2 ^ t % 2 = r
  rw [Bool.eq_iff_iff, beq_iff_eq, beq_iff_eq]
  omega
theorem testBit_tmod (x t : Nat) : (((x : Int) / 2 ^ t).tmod 2 == 1) = x.testBit t := by
  rw [← testBit_divI, show ((x : Int) / 2 ^ t) = ((x / 2 ^ t : Nat) : Int) by push_cast; rfl]
  generalize x / 2 ^ t = q
  rw [Int.tmod_eq_emod_of_nonneg (by omega)]
  rfl
theorem and_one (q : Nat) (h : q < 256) : bits .and .u8 (q : Int) 1 = ((q % 2 : Nat) : Int) := by
  have all : ∀ q : Fin 256, bits .and .u8 (q.1 : Int) 1 = ((q.1 % 2 : Nat) : Int) := by decide +kernel
  exact all ⟨q, h⟩

set_option maxHeartbeats 2000000 in
theorem unpack_any (v : Value) (b : List UInt8) (n : Int) (w : World) (hv : Bs w v b) (hl : b.length ≤ 100000) (h1 : -9223372036854775808 ≤ n) (h2 : n ≤ 9223372036854775807) :
    Calls Try.prog 8 #[v, .int .i64 n] w fun e w' => Unp w w.heap.size b n e w' ∧ Fr Non w w' := by
  have HV := Lib.hid hv.vs
  obtain ⟨A, c, rfl, hlc, hn, hcell⟩ := hv
  have HC := Lib.hid hcell
  have HN := Lib.hid hn
  clear hcell hn
  by_cases hn0 : n < 0
  · have hb : decide (n < 0) = true := by simpa using hn0
    go_enter Try.func8, Try.ntmps8
    go_wp2
    go_ret2
    exact ⟨.inl ⟨by omega, rfl⟩, Fr.refl _ _⟩
  · obtain ⟨m, rfl⟩ := Int.eq_ofNat_of_zero_le (show 0 ≤ n by omega)
    have hb : decide ((m : Int) < 0) = false := by simp
    by_cases hlen : b.length = need m
    · have HB := Lib.hid hlen
      have hne : ((b.length : Int) != (need m : Nat)) = false := by rw [hlen]; simp
      have hm8 : m ≤ 8 * b.length ∧ 8 * b.length < m + 8 := by rw [hlen]; unfold need; omega
      clear hlen hn0
      go_enter Try.func8, Try.ntmps8
      go_wp2_with fail
      refine (need_any m w (by omega)).mono ?_
      rintro e w' ⟨rfl, rfl⟩
      go_wp2_with (at_make; refine wpList_mkG tv el_bool rfl _ _ rfl _ _ _ m rfl rfl rfl (by omega) ?_; intro v1 w1 hown1 hfr1)
      clear hne
      go_loopw [6, 22] (fun x i wr => ∃ j : Nat, j ≤ b.length ∧ i = .int .i64 j ∧ Ow tv 4 wr w.heap.size x (unp b (min m (8 * j))) ∧ Hid (∀ i, i < 8 * j → m ≤ i → bitOf b i = false) ∧ Fr Non w wr) (fun _ i _ => b.length - (intOf i).toNat)
      case atStart => exact ⟨0, Nat.zero_le _, rfl, by rw [Nat.mul_zero, Nat.min_eq_right (Nat.zero_le _)]; exact hown1, Lib.hid (fun i hi => by omega), hfr1⟩
      case round =>
        obtain ⟨j, hj, rfl, hown, HG, hfr⟩ := hrel
        by_cases hlt : j < b.length
        · have h8 : 8 * j < m := by omega
          rw [show min m (8 * j) = 8 * j by omega] at hown
          obtain ⟨A1, c1, rfl⟩ := hown.shape
          rw [unp_length] at hown ⊢
          cases A with
          | none => have := HN.out rfl; omega
          | some a =>
            have hc0 := HC.out a rfl j hlt
            have hc1 : wr.cell? (a.add j) = some (bv b[j]) := (hfr.cell (World.block_lt_of_cell? w _ hc0) (fun e => e)).trans hc0
            have HX := Lib.hid (fun t ht => bit_byte b j t hlt ht)
            have hx := b[j].toNat_lt
            unfold bv at hc1
            clear hc0 hown1 hfr1
            generalize b[j] = xb at *
            have hex : ∃ r, r ≤ 8 ∧ r ≤ m - 8 * j ∧ 0 < r ∧ min 8 (m - 8 * j) ≤ r := ⟨min 8 (m - 8 * j), by omega, by omega, by omega, by omega⟩
            obtain ⟨r, hr8, hrm, hr1, hr⟩ := hex
            by_cases h7 : 8 ≤ m - 8 * j
            all_goals
              go_wp2
              go_loopw [6, 8, 34] (fun x q i wr => ∃ t : Nat, t ≤ r ∧ i = .int .i64 t ∧ q = .int .u8 (xb.toNat / 2 ^ t : Nat) ∧ Ow tv 4 wr w.heap.size x (unp b (8 * j + t)) ∧ Fr Non w wr) (fun _ _ i _ => 8 - (intOf i).toNat)
              case atStart => exact ⟨0, Nat.zero_le _, rfl, by simp, hown, hfr⟩
              case round =>
                obtain ⟨t, ht, rfl, rfl, hown, hfr⟩ := hrel
                have hB := hfr.size
                by_cases htr : t < r
                · obtain ⟨A2, c2, rfl⟩ := hown.shape
                  rw [unp_length] at hown ⊢
                  have hlq : xb.toNat / 2 ^ t < 256 := Nat.lt_of_le_of_lt (Nat.div_le_self _ _) hx
                  have HT := Lib.hid (show (bits .and .u8 ((xb.toNat / 2 ^ t : Nat) : Int) 1 == 1) = bitOf b (8 * j + t) by rw [HX.out t (by omega), and_one _ hlq]; exact testBit_divI _ _)
                  have HQ := Lib.hid (show xb.toNat / 2 ^ (t + 1) = xb.toNat / 2 ^ t / 2 by rw [Nat.pow_succ, Nat.div_div_eq_div_mul])
                  generalize hq : xb.toNat / 2 ^ t = q at *
                  clear hq
                  go_wp2_with (at_builtin; refine wpList_pushG el_bool tv_one rfl (.tmp 36) (.tmp 40) rfl w.heap.size _ (unp b (8 * j + t)) rfl hown _ (bitOf b (8 * j + t)) (congrArg Value.bool HT.out) rfl (by rw [unp_length]; omega) hB ?_; intro v2 w2 hown2 hfr2)
                  go_roundw
                  case rel => exact ⟨t + 1, by omega, by go_num, by rw [HQ.out]; go_num, by rw [show 8 * j + (t + 1) = 8 * j + t + 1 by omega, unp_succ]; exact hown2, hfr.fresh hfr2 fun q hq => (hown.lt q hq).1⟩
                  case measure => simp [intOf]; omega
                · obtain rfl : t = r := by omega
                  have HL : Hid (∀ i, xb.toNat / 2 ^ t = 0 → t ≤ i → xb.toNat.testBit i = false) := Lib.hid (fun i h hi => left_zero _ _ _ h hi)
                  have HS := Lib.hid (left_some xb.toNat t)
                  have hq0 : t = 8 → xb.toNat / 2 ^ t = 0 := fun e => by subst e; simp; omega
                  have hlq : xb.toNat / 2 ^ t < 256 := Nat.lt_of_le_of_lt (Nat.div_le_self _ _) hx
                  generalize xb.toNat / 2 ^ t = q at *
                  by_cases hz : q = 0
                  · have hzz := Lib.hid hz
                    have ht0 : ((q : Int) != 0) = false := by rw [hz]; rfl
                    clear hz hq0
                    go_wp2
                    go_roundw
                    case rel =>
                      refine ⟨j + 1, by omega, by go_num, ?_, Lib.hid ?_, hfr⟩
                      · rw [show min m (8 * (j + 1)) = 8 * j + t by omega]; exact hown
                      · intro i hi hmi
                        by_cases hij : i < 8 * j
                        · exact HG.out i hij hmi
                        · have := HX.out (i - 8 * j) (by omega)
                          rw [show 8 * j + (i - 8 * j) = i by omega] at this
                          rw [this]
                          exact HL.out _ hzz.out (by omega)
                    case measure => simp [intOf]; omega
                  · have ht0 : ((q : Int) != 0) = true := by
                      rw [bne_iff_ne]; exact fun e => hz (by exact_mod_cast e)
                    have Hz := Lib.hid hz
                    have Hq0 := Lib.hid hq0
                    clear hz hq0
                    go_wp2
                    go_ret2
                    refine ⟨.inl ⟨fun h => ?_, rfl⟩, hfr⟩
                    obtain ⟨i, hi, hbi⟩ := HS.out Hz.out
                    have hi8 : i < 8 := by
                      rcases Nat.lt_or_ge i 8 with h | h
                      · exact h
                      · rw [u8_testBit xb h] at hbi; cases hbi
                    have ht8 : t ≠ 8 := fun e => Hz.out (Hq0.out e)
                    have h1 := HX.out i hi8
                    have h2 := h.2.2 (8 * j + i) (by simp; omega)
                    rw [h1, hbi] at h2
                    cases h2
        · obtain rfl : j = b.length := by omega
          rw [show min m (8 * b.length) = m by omega] at hown
          go_wp2
          go_ret2
          refine ⟨.inr ⟨⟨by omega, fit_of (by simpa using HB.out) (by simpa using HG.out)⟩, _, rfl, ?_⟩, hfr⟩
          simpa using hown
    · have hne : ((b.length : Int) != (need m : Nat)) = true := by simp; omega
      go_enter Try.func8, Try.ntmps8
      go_wp2_with fail
      refine (need_any m w (by omega)).mono ?_
      rintro e w' ⟨rfl, rfl⟩
      go_wp2
      go_ret2
      exact ⟨.inl ⟨fun h => hlen h.2.1, rfl⟩, Fr.refl _ _⟩
set_option maxHeartbeats 2000000 in
theorem runpack_any (v : Value) (b : List UInt8) (n : Int) (w : World) (hv : Bs w v b) (hl : b.length ≤ 100000) (h1 : -9223372036854775808 ≤ n) (h2 : n ≤ 9223372036854775807) :
    Calls Try.prog 12 #[v, .int .i64 n] w fun e w' => Unp w w.heap.size b n e w' ∧ Fr Non w w' := by
  have HV := Lib.hid hv.vs
  obtain ⟨A, c, rfl, hlc, hn, hcell⟩ := hv
  have HC := Lib.hid hcell
  have HN := Lib.hid hn
  clear hcell hn
  have hneed : ∀ m : Nat, b.length = need m ↔ m ≤ 8 * b.length ∧ 8 * b.length < m + 8 := by intro m; unfold need; omega
  have HD := Lib.hid hneed
  clear hneed
  by_cases hn0 : n < 0
  · have hb : decide (n < 0) = true := by simpa using hn0
    go_enter Try.func12, Try.ntmps12
    go_wp2
    go_ret2
    exact ⟨.inl ⟨by omega, rfl⟩, Fr.refl _ _⟩
  · obtain ⟨m, rfl⟩ := Int.eq_ofNat_of_zero_le (show 0 ≤ n by omega)
    have hb : decide ((m : Int) < 0) = false := by simp
    by_cases hlen : m ≤ 8 * b.length ∧ 8 * b.length < m + 8
    · have HB := Lib.hid ((HD.out m).2 hlen)
      obtain ⟨hm8, hm7⟩ := hlen
      clear hn0
      go_enter Try.func12, Try.ntmps12
      go_wp2_with (at_make; refine wpList_mkfullG el_bool (f := tv) false rfl rfl _ _ rfl _ _ _ _ m rfl rfl rfl rfl (by omega) ?_; intro w1 hown1 hfr1)
      go_loopw [7] (fun i wr => ∃ p : Nat, p ≤ 8 * b.length ∧ i = .int .i64 p ∧ Ow tv 4 wr w.heap.size (.slice (some ⟨w.heap.size, 0, none⟩) m m) (unpTo b m p) ∧ Hid (∀ i, i < p → m ≤ i → bitOf b i = false) ∧ Fr Non w wr) (fun i _ => 8 * b.length - (intOf i).toNat)
      case atStart => exact ⟨0, Nat.zero_le _, rfl, by rw [unpTo_zero]; exact hown1, Lib.hid (fun i hi => by omega), hfr1⟩
      case round =>
        obtain ⟨p, hp, rfl, hown, HG, hfr⟩ := hrel
        by_cases hlt : p < 8 * b.length
        · cases A with
          | none => have := HN.out rfl; omega
          | some a =>
            have hj : p / 8 < b.length := by omega
            have hc0 := HC.out a rfl (p / 8) hj
            have hc1 : wr.cell? (a.add (p / 8)) = some (bv b[p / 8]) := (hfr.cell (World.block_lt_of_cell? w _ hc0) (fun e => e)).trans hc0
            have hx := b[p / 8].toNat_lt
            have hbit := bit_byte b (p / 8) (p % 8) hj (by omega)
            rw [show 8 * (p / 8) + p % 8 = p by omega] at hbit
            have HX := Lib.hid hbit
            have hfz := hown.frozen (unpTo_length _ _ _).symm p
            have HO := Lib.hid hown
            have HFr := Lib.hid hfr
            unfold bv at hc1
            clear hc0 hown1 hfr1 hbit hown hfr
            generalize b[p / 8] = xb at *
            have hlq : xb.toNat / 2 ^ (p % 8) < 256 := Nat.lt_of_le_of_lt (Nat.div_le_self _ _) hx
            have HT := Lib.hid (show (((xb.toNat : Int) / 2 ^ (p % 8)).tmod 2 == 1) = bitOf b p by rw [HX.out]; exact testBit_tmod _ _)
            by_cases hpm : p < m
            · have hq := HO.out.cell (unpTo_length _ _ _).symm p ((unpTo b m p)[p]'(by rw [unpTo_length]; exact hpm)) (by simp [unpTo_length, hpm])
              unfold tv at hq
              cases hbit : bitOf b p with
              | true =>
                have ht := HT.out
                rw [hbit] at ht
                have HS := Lib.hid (unpTo_step b hpm)
                have Hb := Lib.hid hbit
                clear hbit
                go_wp2
                go_roundw
                case rel =>
                  refine ⟨p + 1, by omega, by go_num, ?_, Lib.hid fun i hi hmi => ?_, HFr.out.setCell (fun h => by simp at h) _⟩
                  · rw [HS.out, Hb.out]
                    exact HO.out.store (unpTo_length _ _ _).symm p true
                  · exact HG.out i (by omega) hmi
                case measure => simp [intOf]; omega
              | false =>
                have ht := HT.out
                rw [hbit] at ht
                have HS := Lib.hid (unpTo_step b hpm)
                have Hb := Lib.hid hbit
                clear hbit
                go_wp2
                go_roundw
                case rel =>
                  refine ⟨p + 1, by omega, by go_num, ?_, Lib.hid fun i hi hmi => ?_, HFr.out.setCell (fun h => by simp at h) _⟩
                  · rw [HS.out, Hb.out]
                    exact HO.out.store (unpTo_length _ _ _).symm p false
                  · exact HG.out i (by omega) hmi
                case measure => simp [intOf]; omega
            · cases hbit : bitOf b p with
              | true =>
                have ht := HT.out
                rw [hbit] at ht
                have Hb := Lib.hid hbit
                clear hbit
                go_wp2
                go_ret2
                refine ⟨.inl ⟨fun h => ?_, rfl⟩, HFr.out⟩
                have := h.2.2 p (by simp; omega)
                rw [Hb.out] at this
                cases this
              | false =>
                have ht := HT.out
                rw [hbit] at ht
                have Hb := Lib.hid hbit
                clear hbit
                go_wp2
                go_roundw
                case rel =>
                  refine ⟨p + 1, by omega, by go_num, ?_, Lib.hid fun i hi hmi => ?_, HFr.out⟩
                  · rw [unpTo_all b (show m ≤ p + 1 by omega), ← unpTo_all b (show m ≤ p by omega)]
                    exact HO.out
                  · rcases Nat.lt_or_ge i p with h | h
                    · exact HG.out i h hmi
                    · rw [show i = p by omega]; exact Hb.out
                case measure => simp [intOf]; omega
        · rw [unpTo_all b (show m ≤ p by omega)] at hown
          have hpe : p = 8 * b.length := by omega
          have HP := Lib.hid hpe
          clear hpe
          go_wp2
          go_ret2
          refine ⟨.inr ⟨⟨by omega, fit_of (by simpa using HB.out) ?_⟩, _, rfl, ?_⟩, hfr⟩
          · intro i hi hmi
            exact HG.out i (by rw [HP.out]; exact hi) (by simpa using hmi)
          · simpa using hown
    · have hcases : (b.length : Int) < (m : Int) / 8 ∨ (¬ (b.length : Int) < (m : Int) / 8 ∧ 8 * (b.length : Int) < m) ∨ (¬ (b.length : Int) < (m : Int) / 8 ∧ ¬ 8 * (b.length : Int) < m ∧ 7 < 8 * (b.length : Int) - m) := by omega
      have HB := Lib.hid (fun h => hlen ((HD.out m).1 h))
      clear hlen
      rcases hcases with h1 | ⟨h1, h2⟩ | ⟨h1, h2, h3⟩
      all_goals
        go_enter Try.func12, Try.ntmps12
        go_wp2
        go_ret2
        exact ⟨.inl ⟨fun h => HB.out h.2.1, rfl⟩, Fr.refl _ _⟩
end Go.Proofs.Ytefcbkjanfbmoaa
