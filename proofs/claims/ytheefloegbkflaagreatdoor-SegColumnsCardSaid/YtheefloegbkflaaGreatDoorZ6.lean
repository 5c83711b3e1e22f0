/-
  Joined: Layer 4: the walks of bitv.Unpack, firkinref04.Unpack. · Layer 4: the walks of bitv.Count, Places, Or, the document's Places, Or, Same, Ints. · Layer 10: chunk.Kind, open. · Layer 10: chunk.Get; chunk.Put of cells that may be. · Layer 9: the order of cells, both programs'. · Layer 11: a zone as a value; which zones there may be, and which cells they have, both programs'. · Layer 11: what a zone of cells is: how many, how many null, the least and the greatest of the others. Nothing of the program. · Layer 10: what is put is got again; nothing of the program. · Layer 2's plain mathematics: the sum of bytes, bit by bit; four bits at once by a table; a difference is carried on and never dies. No program is named here. · Layer 3 in plain numbers and lists: a frame's bytes; what a frame's head says; what is got; what is told of a changed body; all frames one behind the other.
-/
import Derived.Deep.RegionHeld3
import Derived.StillTail
import Derived.Test.YtheefloegbkflaaGreatDoorZ5
import Derived.Deep.QuietTactic
import Derived.BigQuiet
import Derived.OwnWalk
import Derived.Test.YtheefloegbkflaaGreatDoorZ1
import Derived.Laws.Cover1
import Derived.Test.YtheefloegbkflaaGreatDoorZ2

namespace Go.Proofs.YtheefloegbkflaaGreatDoor
set_option linter.unusedVariables false
set_option linter.unusedSimpArgs false
set_option maxRecDepth 100000
open Go.RowKit

/-- what unpacking answers: nothing and false, or the truths and true -/
def Unp (w : World) (B : Nat) (b : List UInt8) (n : Int) (e : Ending) (w' : World) : Prop :=
  (¬ (0 ≤ n ∧ Fit b n.toNat) ∧ e = .returned (.tuple #[.slice none 0 0, .bool false])) ∨
  ((0 ≤ n ∧ Fit b n.toNat) ∧ ∃ u, e = .returned (.tuple #[u, .bool true]) ∧ Ow tv 4 w' B u (unp b n.toNat))

theorem testBit_divI (x t : Nat) : (((x / 2 ^ t % 2 : Nat) : Int) == 1) = x.testBit t := by
  rw [← testBit_div]
  generalize x / 2 ^ t % 2 = r
  rw [Bool.eq_iff_iff, beq_iff_eq, beq_iff_eq]
  omega
theorem testBit_tmod (x t : Nat) : (((x : Int) / 2 ^ t).tmod 2 == 1) = x.testBit t := by
  rw [← testBit_divI, show ((x : Int) / 2 ^ t) = ((x / 2 ^ t : Nat) : Int) by push_cast; rfl]
  generalize x / 2 ^ t = q
  rw [Int.tmod_eq_emod_of_nonneg (by omega)]
  rfl
theorem and_one (q : Nat) (h : q < 256) : bits .and .u8 (q : Int) 1 = ((q % 2 : Nat) : Int) := by
  have all : ∀ q : Fin 256, bits .and .u8 (q.1 : Int) 1 = ((q.1 % 2 : Nat) : Int) := by decide +kernel
  exact all ⟨q, h⟩

set_option maxHeartbeats 2000000 in
theorem unpack_any (v : Value) (b : List UInt8) (n : Int) (w : World) (hv : Bs w v b) (hl : b.length ≤ 100000) (h1 : -9223372036854775808 ≤ n) (h2 : n ≤ 9223372036854775807) :
    Calls Tryz.prog 138 #[v, .int .i64 n] w fun e w' => Unp w w.heap.size b n e w' ∧ Fr Non w w' := by
  have HV := Lib.hid hv.vs
  obtain ⟨A, c, rfl, hlc, hn, hcell⟩ := hv
  have HC := Lib.hid hcell
  have HN := Lib.hid hn
  clear hcell hn
  by_cases hn0 : n < 0
  · have hb : decide (n < 0) = true := by simpa using hn0
    go_enter Tryz.func138, Tryz.ntmps138
    go_wp2
    go_ret2
    exact ⟨.inl ⟨by omega, rfl⟩, Fr.refl _ _⟩
  · obtain ⟨m, rfl⟩ := Int.eq_ofNat_of_zero_le (show 0 ≤ n by omega)
    have hb : decide ((m : Int) < 0) = false := by simp
    by_cases hlen : b.length = need m
    · have HB := Lib.hid hlen
      have hne : ((b.length : Int) != (need m : Nat)) = false := by rw [hlen]; simp
      have hm8 : m ≤ 8 * b.length ∧ 8 * b.length < m + 8 := by rw [hlen]; unfold need; omega
      clear hlen hn0
      go_enter Tryz.func138, Tryz.ntmps138
      go_wp2_with fail
      refine (need_any m w (by omega)).mono ?_
      rintro e w' ⟨rfl, rfl⟩
      go_wp2_with (at_make; refine wpList_mkG tv el_bool rfl _ _ rfl _ _ _ m rfl rfl rfl (by omega) ?_; intro v1 w1 hown1 hfr1)
      clear hne
      go_loopw [6, 22] (fun x i wr => ∃ j : Nat, j ≤ b.length ∧ i = .int .i64 j ∧ Ow tv 4 wr w.heap.size x (unp b (min m (8 * j))) ∧ Hid (∀ i, i < 8 * j → m ≤ i → bitOf b i = false) ∧ Fr Non w wr) (fun _ i _ => b.length - (intOf i).toNat)
      case atStart => exact ⟨0, Nat.zero_le _, rfl, by rw [Nat.mul_zero, Nat.min_eq_right (Nat.zero_le _)]; exact hown1, Lib.hid (fun i hi => by omega), hfr1⟩
      case round =>
        obtain ⟨j, hj, rfl, hown, HG, hfr⟩ := hrel
        by_cases hlt : j < b.length
        · have h8 : 8 * j < m := by omega
          rw [show min m (8 * j) = 8 * j by omega] at hown
          obtain ⟨A1, c1, rfl⟩ := hown.shape
          rw [unp_length] at hown ⊢
          cases A with
          | none => have := HN.out rfl; omega
          | some a =>
            have hc0 := HC.out a rfl j hlt
            have hc1 : wr.cell? (a.add j) = some (bv b[j]) := (hfr.cell (World.block_lt_of_cell? w _ hc0) (fun e => e)).trans hc0
            have HX := Lib.hid (fun t ht => bit_byte b j t hlt ht)
            have hx := b[j].toNat_lt
            unfold bv at hc1
            clear hc0 hown1 hfr1
            generalize b[j] = xb at *
            have hex : ∃ r, r ≤ 8 ∧ r ≤ m - 8 * j ∧ 0 < r ∧ min 8 (m - 8 * j) ≤ r := ⟨min 8 (m - 8 * j), by omega, by omega, by omega, by omega⟩
            obtain ⟨r, hr8, hrm, hr1, hr⟩ := hex
            by_cases h7 : 8 ≤ m - 8 * j
            all_goals
              go_wp2
              go_loopw [6, 8, 34] (fun x q i wr => ∃ t : Nat, t ≤ r ∧ i = .int .i64 t ∧ q = .int .u8 (xb.toNat / 2 ^ t : Nat) ∧ Ow tv 4 wr w.heap.size x (unp b (8 * j + t)) ∧ Fr Non w wr) (fun _ _ i _ => 8 - (intOf i).toNat)
              case atStart => exact ⟨0, Nat.zero_le _, rfl, by simp, hown, hfr⟩
              case round =>
                obtain ⟨t, ht, rfl, rfl, hown, hfr⟩ := hrel
                have hB := hfr.size
                by_cases htr : t < r
                · obtain ⟨A2, c2, rfl⟩ := hown.shape
                  rw [unp_length] at hown ⊢
                  have hlq : xb.toNat / 2 ^ t < 256 := Nat.lt_of_le_of_lt (Nat.div_le_self _ _) hx
                  have HT := Lib.hid (show (bits .and .u8 ((xb.toNat / 2 ^ t : Nat) : Int) 1 == 1) = bitOf b (8 * j + t) by rw [HX.out t (by omega), and_one _ hlq]; exact testBit_divI _ _)
                  have HQ := Lib.hid (show xb.toNat / 2 ^ (t + 1) = xb.toNat / 2 ^ t / 2 by rw [Nat.pow_succ, Nat.div_div_eq_div_mul])
                  generalize hq : xb.toNat / 2 ^ t = q at *
                  clear hq
                  go_wp2_with (at_builtin; refine wpList_pushG el_bool tv_one rfl (.tmp 36) (.tmp 40) rfl w.heap.size _ (unp b (8 * j + t)) rfl hown _ (bitOf b (8 * j + t)) (congrArg Value.bool HT.out) rfl (by rw [unp_length]; omega) hB ?_; intro v2 w2 hown2 hfr2)
                  go_roundw
                  case rel => exact ⟨t + 1, by omega, by go_num, by rw [HQ.out]; go_num, by rw [show 8 * j + (t + 1) = 8 * j + t + 1 by omega, unp_succ]; exact hown2, hfr.fresh hfr2 fun q hq => (hown.lt q hq).1⟩
                  case measure => simp [intOf]; omega
                · obtain rfl : t = r := by omega
                  have HL : Hid (∀ i, xb.toNat / 2 ^ t = 0 → t ≤ i → xb.toNat.testBit i = false) := Lib.hid (fun i h hi => left_zero _ _ _ h hi)
                  have HS := Lib.hid (left_some xb.toNat t)
                  have hq0 : t = 8 → xb.toNat / 2 ^ t = 0 := fun e => by subst e; simp; omega
                  have hlq : xb.toNat / 2 ^ t < 256 := Nat.lt_of_le_of_lt (Nat.div_le_self _ _) hx
                  generalize xb.toNat / 2 ^ t = q at *
                  by_cases hz : q = 0
                  · have hzz := Lib.hid hz
                    have ht0 : ((q : Int) != 0) = false := by rw [hz]; rfl
                    clear hz hq0
                    go_wp2
                    go_roundw
                    case rel =>
                      refine ⟨j + 1, by omega, by go_num, ?_, Lib.hid ?_, hfr⟩
                      · rw [show min m (8 * (j + 1)) = 8 * j + t by omega]; exact hown
                      · intro i hi hmi
                        by_cases hij : i < 8 * j
                        · exact HG.out i hij hmi
                        · have := HX.out (i - 8 * j) (by omega)
                          rw [show 8 * j + (i - 8 * j) = i by omega] at this
                          rw [this]
                          exact HL.out _ hzz.out (by omega)
                    case measure => simp [intOf]; omega
                  · have ht0 : ((q : Int) != 0) = true := by
                      rw [bne_iff_ne]; exact fun e => hz (by exact_mod_cast e)
                    have Hz := Lib.hid hz
                    have Hq0 := Lib.hid hq0
                    clear hz hq0
                    go_wp2
                    go_ret2
                    refine ⟨.inl ⟨fun h => ?_, rfl⟩, hfr⟩
                    obtain ⟨i, hi, hbi⟩ := HS.out Hz.out
                    have hi8 : i < 8 := by
                      rcases Nat.lt_or_ge i 8 with h | h
                      · exact h
                      · rw [u8_testBit xb h] at hbi; cases hbi
                    have ht8 : t ≠ 8 := fun e => Hz.out (Hq0.out e)
                    have h1 := HX.out i hi8
                    have h2 := h.2.2 (8 * j + i) (by simp; omega)
                    rw [h1, hbi] at h2
                    cases h2
        · obtain rfl : j = b.length := by omega
          rw [show min m (8 * b.length) = m by omega] at hown
          go_wp2
          go_ret2
          refine ⟨.inr ⟨⟨by omega, fit_of (by simpa using HB.out) (by simpa using HG.out)⟩, _, rfl, ?_⟩, hfr⟩
          simpa using hown
    · have hne : ((b.length : Int) != (need m : Nat)) = true := by simp; omega
      go_enter Tryz.func138, Tryz.ntmps138
      go_wp2_with fail
      refine (need_any m w (by omega)).mono ?_
      rintro e w' ⟨rfl, rfl⟩
      go_wp2
      go_ret2
      exact ⟨.inl ⟨fun h => hlen h.2.1, rfl⟩, Fr.refl _ _⟩
set_option maxHeartbeats 2000000 in
theorem runpack_any (v : Value) (b : List UInt8) (n : Int) (w : World) (hv : Bs w v b) (hl : b.length ≤ 100000) (h1 : -9223372036854775808 ≤ n) (h2 : n ≤ 9223372036854775807) :
    Calls Tryz.prog 90 #[v, .int .i64 n] w fun e w' => Unp w w.heap.size b n e w' ∧ Fr Non w w' := by
  have HV := Lib.hid hv.vs
  obtain ⟨A, c, rfl, hlc, hn, hcell⟩ := hv
  have HC := Lib.hid hcell
  have HN := Lib.hid hn
  clear hcell hn
  have hneed : ∀ m : Nat, b.length = need m ↔ m ≤ 8 * b.length ∧ 8 * b.length < m + 8 := by intro m; unfold need; omega
  have HD := Lib.hid hneed
  clear hneed
  by_cases hn0 : n < 0
  · have hb : decide (n < 0) = true := by simpa using hn0
    go_enter Tryz.func90, Tryz.ntmps90
    go_wp2
    go_ret2
    exact ⟨.inl ⟨by omega, rfl⟩, Fr.refl _ _⟩
  · obtain ⟨m, rfl⟩ := Int.eq_ofNat_of_zero_le (show 0 ≤ n by omega)
    have hb : decide ((m : Int) < 0) = false := by simp
    by_cases hlen : m ≤ 8 * b.length ∧ 8 * b.length < m + 8
    · have HB := Lib.hid ((HD.out m).2 hlen)
      obtain ⟨hm8, hm7⟩ := hlen
      clear hn0
      go_enter Tryz.func90, Tryz.ntmps90
      go_wp2_with (at_make; refine wpList_mkfullG el_bool (f := tv) false rfl rfl _ _ rfl _ _ _ _ m rfl rfl rfl rfl (by omega) ?_; intro w1 hown1 hfr1)
      go_loopw [7] (fun i wr => ∃ p : Nat, p ≤ 8 * b.length ∧ i = .int .i64 p ∧ Ow tv 4 wr w.heap.size (.slice (some ⟨w.heap.size, 0, none⟩) m m) (unpTo b m p) ∧ Hid (∀ i, i < p → m ≤ i → bitOf b i = false) ∧ Fr Non w wr) (fun i _ => 8 * b.length - (intOf i).toNat)
      case atStart => exact ⟨0, Nat.zero_le _, rfl, by rw [unpTo_zero]; exact hown1, Lib.hid (fun i hi => by omega), hfr1⟩
      case round =>
        obtain ⟨p, hp, rfl, hown, HG, hfr⟩ := hrel
        by_cases hlt : p < 8 * b.length
        · cases A with
          | none => have := HN.out rfl; omega
          | some a =>
            have hj : p / 8 < b.length := by omega
            have hc0 := HC.out a rfl (p / 8) hj
            have hc1 : wr.cell? (a.add (p / 8)) = some (bv b[p / 8]) := (hfr.cell (World.block_lt_of_cell? w _ hc0) (fun e => e)).trans hc0
            have hx := b[p / 8].toNat_lt
            have hbit := bit_byte b (p / 8) (p % 8) hj (by omega)
            rw [show 8 * (p / 8) + p % 8 = p by omega] at hbit
            have HX := Lib.hid hbit
            have hfz := hown.frozen (unpTo_length _ _ _).symm p
            have HO := Lib.hid hown
            have HFr := Lib.hid hfr
            unfold bv at hc1
            clear hc0 hown1 hfr1 hbit hown hfr
            generalize b[p / 8] = xb at *
            have hlq : xb.toNat / 2 ^ (p % 8) < 256 := Nat.lt_of_le_of_lt (Nat.div_le_self _ _) hx
            have HT := Lib.hid (show (((xb.toNat : Int) / 2 ^ (p % 8)).tmod 2 == 1) = bitOf b p by rw [HX.out]; exact testBit_tmod _ _)
            by_cases hpm : p < m
            · have hq := HO.out.cell (unpTo_length _ _ _).symm p ((unpTo b m p)[p]'(by rw [unpTo_length]; exact hpm)) (by simp [unpTo_length, hpm])
              unfold tv at hq
              cases hbit : bitOf b p with
              | true =>
                have ht := HT.out
                rw [hbit] at ht
                have HS := Lib.hid (unpTo_step b hpm)
                have Hb := Lib.hid hbit
                clear hbit
                go_wp2
                go_roundw
                case rel =>
                  refine ⟨p + 1, by omega, by go_num, ?_, Lib.hid fun i hi hmi => ?_, HFr.out.setCell (fun h => by simp at h) _⟩
                  · rw [HS.out, Hb.out]
                    exact HO.out.store (unpTo_length _ _ _).symm p true
                  · exact HG.out i (by omega) hmi
                case measure => simp [intOf]; omega
              | false =>
                have ht := HT.out
                rw [hbit] at ht
                have HS := Lib.hid (unpTo_step b hpm)
                have Hb := Lib.hid hbit
                clear hbit
                go_wp2
                go_roundw
                case rel =>
                  refine ⟨p + 1, by omega, by go_num, ?_, Lib.hid fun i hi hmi => ?_, HFr.out.setCell (fun h => by simp at h) _⟩
                  · rw [HS.out, Hb.out]
                    exact HO.out.store (unpTo_length _ _ _).symm p false
                  · exact HG.out i (by omega) hmi
                case measure => simp [intOf]; omega
            · cases hbit : bitOf b p with
              | true =>
                have ht := HT.out
                rw [hbit] at ht
                have Hb := Lib.hid hbit
                clear hbit
                go_wp2
                go_ret2
                refine ⟨.inl ⟨fun h => ?_, rfl⟩, HFr.out⟩
                have := h.2.2 p (by simp; omega)
                rw [Hb.out] at this
                cases this
              | false =>
                have ht := HT.out
                rw [hbit] at ht
                have Hb := Lib.hid hbit
                clear hbit
                go_wp2
                go_roundw
                case rel =>
                  refine ⟨p + 1, by omega, by go_num, ?_, Lib.hid fun i hi hmi => ?_, HFr.out⟩
                  · rw [unpTo_all b (show m ≤ p + 1 by omega), ← unpTo_all b (show m ≤ p by omega)]
                    exact HO.out
                  · rcases Nat.lt_or_ge i p with h | h
                    · exact HG.out i h hmi
                    · rw [show i = p by omega]; exact Hb.out
                case measure => simp [intOf]; omega
        · rw [unpTo_all b (show m ≤ p by omega)] at hown
          have hpe : p = 8 * b.length := by omega
          have HP := Lib.hid hpe
          clear hpe
          go_wp2
          go_ret2
          refine ⟨.inr ⟨⟨by omega, fit_of (by simpa using HB.out) ?_⟩, _, rfl, ?_⟩, hfr⟩
          · intro i hi hmi
            exact HG.out i (by rw [HP.out]; exact hi) (by simpa using hmi)
          · simpa using hown
    · have hcases : (b.length : Int) < (m : Int) / 8 ∨ (¬ (b.length : Int) < (m : Int) / 8 ∧ 8 * (b.length : Int) < m) ∨ (¬ (b.length : Int) < (m : Int) / 8 ∧ ¬ 8 * (b.length : Int) < m ∧ 7 < 8 * (b.length : Int) - m) := by omega
      have HB := Lib.hid (fun h => hlen ((HD.out m).1 h))
      clear hlen
      rcases hcases with h1 | ⟨h1, h2⟩ | ⟨h1, h2, h3⟩
      all_goals
        go_enter Tryz.func90, Tryz.ntmps90
        go_wp2
        go_ret2
        exact ⟨.inl ⟨fun h => HB.out h.2.1, rfl⟩, Fr.refl _ _⟩
end Go.Proofs.YtheefloegbkflaaGreatDoor


namespace Go.Proofs.YtheefloegbkflaaGreatDoor
set_option linter.unusedVariables false
set_option linter.unusedSimpArgs false
set_option maxRecDepth 100000
open Go.RowKit

theorem ret_bool {a b : Bool} (h : a = b) : Ending.returned (.bool a) = .returned (.bool b) := by rw [h]
theorem take_ne {α : Type} [DecidableEq α] {a b : List α} {k : Nat} (hk : k < a.length) (hk2 : k < b.length) (h : a[k] ≠ b[k]) : a ≠ b := by
  intro e; subst e; exact h rfl
theorem take_eq_succ {α : Type} {a b : List α} {k : Nat} (hk : k < a.length) (hk2 : k < b.length) (h : a.take k = b.take k) (he : a[k] = b[k]) : a.take (k + 1) = b.take (k + 1) := by
  rw [List.take_succ_eq_append_getElem hk, List.take_succ_eq_append_getElem hk2, h, he]

set_option maxHeartbeats 1000000 in
theorem count_any (v : Value) (l : List Bool) (w : World) (hv : Vs tv w v l) (hl : l.length ≤ 9223372036854775807) :
    Calls Tryz.prog 88 #[v] w fun e w' => e = .returned (.int .i64 (cnt l : Nat)) ∧ w = w' := by
  obtain ⟨A, c, rfl, hlc, hn, hcell⟩ := hv
  have HC := Lib.hid hcell
  have HN := Lib.hid hn
  clear hcell hn
  go_enter Tryz.func88, Tryz.ntmps88
  go_wp2
  go_loop [3, 8] (fun n i => ∃ k : Nat, k ≤ l.length ∧ i = .int .i64 k ∧ n = .int .i64 (cnt (l.take k) : Nat)) (fun _ i => l.length - (intOf i).toNat)
  case atStart => exact ⟨0, Nat.zero_le _, rfl, rfl⟩
  case round =>
    obtain ⟨k, hk, rfl, rfl⟩ := hrel
    have hc := cnt_le (l.take k)
    rw [List.length_take] at hc
    by_cases hlt : k < l.length
    · cases A with
      | none => have := HN.out rfl; omega
      | some a =>
        have g1 : w.cell? (a.add k) = some (tv l[k]) := HC.out a rfl k hlt
        have HS := Lib.hid (cnt_snoc l k hlt)
        unfold tv at g1
        generalize l[k] = x at *
        generalize cnt (l.take k) = n at *
        cases x
        all_goals
          go_wp2
          go_round
          case rel => exact ⟨k + 1, by omega, by go_num, by rw [HS.out]; go_num⟩
          case measure => simp [intOf]; omega
    · have HE := Lib.hid (show l.take k = l from List.take_of_length_le (by omega))
      go_wp2
      go_ret
      exact ⟨ret_int (by rw [HE.out]), rfl⟩

set_option maxHeartbeats 1000000 in
theorem rplaces_any (v : Value) (l : List Bool) (w : World) (hv : Vs tv w v l) (hl : l.length ≤ 1000000) :
    Calls Tryz.prog 91 #[v] w fun e w' => ∃ u, e = .returned u ∧ Ow iv 3 w' w.heap.size u (plc l) ∧ Fr Non w w' := by
  obtain ⟨A, c, rfl, hlc, hn, hcell⟩ := hv
  have HC := Lib.hid hcell
  have HN := Lib.hid hn
  clear hcell hn
  go_enter Tryz.func91, Tryz.ntmps91
  go_wp2
  go_loopw [3, 4] (fun x i wr => ∃ k : Nat, k ≤ l.length ∧ i = .int .i64 k ∧ Ow iv 3 wr w.heap.size x (plcTo l k) ∧ Fr Non w wr) (fun _ i _ => l.length - (intOf i).toNat)
  case atStart => exact ⟨0, Nat.zero_le _, rfl, ow_lit0 _ _ _ rfl (Nat.le_refl _), (Fr.refl _ _).alloc _⟩
  case round =>
    obtain ⟨k, hk, rfl, hown, hfr⟩ := hrel
    have hB := hfr.size
    by_cases hlt : k < l.length
    · cases A with
      | none => have := HN.out rfl; omega
      | some a =>
        have hc0 : w.cell? (a.add k) = some (tv l[k]) := HC.out a rfl k hlt
        have g1 : wr.cell? (a.add k) = some (tv l[k]) := (hfr.cell (World.block_lt_of_cell? w _ hc0) (fun e => e)).trans hc0
        have HS := Lib.hid (plcTo_snoc l k hlt)
        have hlen : (plcTo l k).length < 1099511627776 := by
          have h1 := plcTo_len l k hk
          have h2 := cnt_le (l.take k)
          rw [List.length_take] at h2
          omega
        unfold tv at g1
        clear hc0
        generalize l[k] = x at *
        cases x
        · go_wp2
          go_roundw
          case rel => exact ⟨k + 1, by omega, by go_num, by rw [HS.out]; simpa using hown, hfr⟩
          case measure => simp [intOf]; omega
        · go_wp2_with (at_builtin; refine wpList_pushG el_int iv_oneC rfl (.tmp 16) (.tmp 18) rfl w.heap.size _ (plcTo l k) rfl hown _ (k : Int) rfl rfl hlen hB ?_; intro v2 w2 hown2 hfr2)
          go_roundw
          case rel => exact ⟨k + 1, by omega, by go_num, by rw [HS.out]; simpa using hown2, hfr.fresh hfr2 fun q hq => (hown.lt q hq).1⟩
          case measure => simp [intOf]; omega
    · obtain rfl : k = l.length := by omega
      go_wp2
      go_ret
      exact ⟨_, rfl, hown, hfr⟩
end Go.Proofs.YtheefloegbkflaaGreatDoor


namespace Go.Proofs.YtheefloegbkflaaGreatDoor
set_option linter.unusedVariables false
set_option linter.unusedSimpArgs false
set_option maxRecDepth 100000
open Go.RowKit

theorem andNot8 (c : Nat) (h : c < 256) : bits .andNot .u8 (c : Int) 8 = ((c % 8 + 16 * (c / 16) : Nat) : Int) := by
  have all : ∀ q : Fin 256, bits .andNot .u8 (q.1 : Int) 8 = ((q.1 % 8 + 16 * (q.1 / 16) : Nat) : Int) := by decide +kernel
  exact all ⟨c, h⟩
theorem and8 (c : Nat) (h : c < 256) : bits .and .u8 (c : Int) 8 = ((c / 8 % 2 * 8 : Nat) : Int) := by
  have all : ∀ q : Fin 256, bits .and .u8 (q.1 : Int) 8 = ((q.1 / 8 % 2 * 8 : Nat) : Int) := by decide +kernel
  exact all ⟨c, h⟩

theorem add0 (a : Addr) : a.add 0 = a := by
  obtain ⟨B, o, e⟩ := a
  cases e <;> rfl
theorem kind_any (v : Value) (b : List UInt8) (w : World) (hv : Bs w v b) (hl : b.length ≤ 1000000) :
    Calls Tryz.prog 87 #[v] w fun e w' => e = .returned (.int .i64 (kindB b : Nat)) ∧ w = w' := by
  obtain ⟨A, c, rfl, hlc, hn, hcell⟩ := hv
  cases b with
  | nil =>
    clear hlc hn hcell
    go_enter Tryz.func87, Tryz.ntmps87
    go_wp2
    go_ret
    exact ⟨rfl, rfl⟩
  | cons x r =>
    cases A with
    | none => have := hn rfl; simp at hlc; omega
    | some a =>
      have g0 : w.cell? (a.add 0) = some (bv x) := hcell a rfl 0 (by simp)
      have g1 : w.cell? a = some (bv x) := by rw [add0 a] at g0; exact g0
      have hb := andNot8 x.toNat x.toNat_lt
      have hx := x.toNat_lt
      have hk : kindB (x :: r) = kindC x := rfl
      unfold bv at g0 g1
      rw [hk]
      clear hlc hn hcell hk
      unfold kindC
      generalize x.toNat = q at *
      have hbig : ((r.length : Int) + 1 == 0) = false := by rw [beq_eq_false_iff_ne]; omega
      by_cases h1 : q % 8 + 16 * (q / 16) < 1
      · have d1 : decide (((q % 8 + 16 * (q / 16) : Nat) : Int) < 1) = true := by simp only [decide_eq_true_eq]; omega
        rw [if_neg (by omega)]
        have hzb : q % 8 + 16 * (q / 16) < 1000 := by omega
        clear h1 hx
        generalize q % 8 + 16 * (q / 16) = z at *
        go_enter Tryz.func87, Tryz.ntmps87
        go_wp2
        go_ret
        exact ⟨rfl, rfl⟩
      · have d1 : decide (((q % 8 + 16 * (q / 16) : Nat) : Int) < 1) = false := by simp only [decide_eq_false_iff_not]; omega
        by_cases h6 : 6 < q % 8 + 16 * (q / 16)
        · have d6 : decide (6 < ((q % 8 + 16 * (q / 16) : Nat) : Int)) = true := by simp only [decide_eq_true_eq]; omega
          rw [if_neg (by omega)]
          have hzb : q % 8 + 16 * (q / 16) < 1000 := by omega
          clear h1 hx
          generalize q % 8 + 16 * (q / 16) = z at *
          go_enter Tryz.func87, Tryz.ntmps87
          go_wp2
          go_ret
          exact ⟨rfl, rfl⟩
        · have d6 : decide (6 < ((q % 8 + 16 * (q / 16) : Nat) : Int)) = false := by simp only [decide_eq_false_iff_not]; omega
          have hz : q % 8 + 16 * (q / 16) = q % 8 := by omega
          rw [if_pos (by omega)]
          have h8 : q % 8 < 8 := by omega
          have hb2 : bits .andNot .u8 (q : Int) 8 = ((q % 8 : Nat) : Int) := by rw [hb, hz]
          have d12 : decide (((q % 8 : Nat) : Int) < 1) = false := by rw [← hz]; exact d1
          have d62 : decide (6 < ((q % 8 : Nat) : Int)) = false := by rw [← hz]; exact d6
          clear h1 hx hz hb d1 d6 h6
          generalize q % 8 = z at *
          go_enter Tryz.func87, Tryz.ntmps87
          go_wp2
          go_ret
          exact ⟨rfl, rfl⟩

/-- '[]byte(s)': the new bytes lie in a block that is there -/
theorem wpList_strbytesL {w : World} {ops : Array Oper} {rest : List Oper} {o : Oper} {a : Act} {Q : Exit → Act → World → Prop} (hgd : o.guard = none) (x : Operand)
    (ho : o.op = .convert 9 26 x) (m : List UInt8) (hx : a.eval x = .string ⟨m.toArray⟩)
    (h : ∀ v' w', Bs w' v' m → Fr Non w w' → (∀ k, v'.ownBlock = some k → w.heap.size ≤ k ∧ k < w'.heap.size) → wpList Tryz.prog ops Q rest (a.put o.dst v') w') : wpList Tryz.prog ops Q (o :: rest) a w := by
  have hm : ByteArray.size ⟨m.toArray⟩ = m.length := by simp [ByteArray.size]
  have hrun := run_bytes_of_string (P := Tryz.prog) w 9 26 5 ⟨m.toArray⟩ Tryz.underlying9 Tryz.underlying26 Tryz.underlying5
  refine wpList_plain hgd fun K hK => ?_
  unfold Oper.wp
  simp [execOp, ho, hx, hrun, Result.andThen]
  refine hK _ _ (h _ _ ?_ (((Fr.refl _ _).drew).alloc _) ?_)
  · rw [hm]
    refine ⟨_, _, rfl, grownCap_ge _ _ _ _, (fun h => by cases h), fun a ha j hj => ?_⟩
    cases ha
    have hA : (⟨w.heap.size, 0, none⟩ : Addr).add j = ⟨w.drew.heap.size, j, none⟩ := by rw [Addr.add_lit]; simp
    rw [hA, World.cell?_alloc_mark, bytesRow_at _ _ _ (by simpa using hj)]
    simp [bv]
  · intro k hk
    simp [Value.ownBlock] at hk
    subst hk
    exact ⟨Nat.le_refl _, by simp⟩
theorem take_lt (g : Nat) (l : List UInt8) (bad : Bool) (n : Int) (w : World) (h : Src w g l bad) :
    Calls Tryz.prog 137 #[ptr g, .int .i64 n] w fun e w' => ∃ v, e = .returned v ∧ Bs w' v (cutT l n) ∧ (∀ k, v.ownBlock = some k → k < w'.heap.size) ∧ Src w' g (cutR l n) (cutB l bad n) ∧ Fr (One g) w w' := by
  have h0 := cut_any g l bad n w h
  clear h
  go_enter Tryz.func137, Tryz.ntmps137
  go_wp2_with fail
  refine h0.mono ?_
  rintro e w1 ⟨rfl, hs1, hf1⟩
  go_wp2_with (refine wpList_strbytesL rfl _ rfl (cutT l n) rfl ?_; intro v2 w2 hbs2 hfr2 hnew2)
  go_ret
  exact ⟨v2, rfl, hbs2, fun k hk => (hnew2 k hk).2, hs1.fr hfr2 (fun e => e), hf1.then hfr2⟩

/-- 'make([]E, n)' as a run, in every world -/
theorem mk_all {α : Type} {f : α → Value} {E T : TypeId} {z : Value} {by_ : Nat} (hE : El T E z by_) (y : α) (hy : f y = z) (n : Nat) (hn : n ≤ 1099511627776) :
    ∃ F : World → World, ∀ W, (Instr.makeSlice T (.int .i64 (n : Int)) (.int .i64 (n : Int))).run Tryz.prog W = .ok (.slice (some ⟨W.heap.size, 0, none⟩) n n) (F W) ∧ Ow f E (F W) W.heap.size (.slice (some ⟨W.heap.size, 0, none⟩) n n) (List.replicate n y) ∧ Fr Non W (F W) := by
  have h : ∀ W, ∃ w', (Instr.makeSlice T (.int .i64 (n : Int)) (.int .i64 (n : Int))).run Tryz.prog W = .ok (.slice (some ⟨W.heap.size, 0, none⟩) n n) w' ∧ Ow f E w' W.heap.size (.slice (some ⟨W.heap.size, 0, none⟩) n n) (List.replicate n y) ∧ Fr Non W w' := by
    intro W
    obtain ⟨i, hi, hz0, hz1, hz2⟩ := info_parts hE.info
    have hs' := hE.small
    have hbl : by_ * n ≤ 70368744177664 := by
      have := Nat.mul_le_mul hs' hn
      omega
    obtain ⟨w', hrun, h1, h2⟩ := run_make_full (P := Tryz.prog) W W.heap.size T E i z 1 hE.under hi hz0 hz1 .i64 .i64 n (by rw [hz2]; omega) (by unfold maxLen; omega) (Nat.le_refl _)
    refine ⟨w', hrun, ?_, ((Fr.of_grown h2).mono fun k _ e => by cases e)⟩
    unfold Ow
    rw [hE.cells, Nat.mul_one, toList_madeCells_one] at h1
    rw [List.length_replicate, List.map_replicate, hy]
    exact h1
  exact ⟨fun W => Classical.choose (h W), fun W => Classical.choose_spec (h W)⟩

/-- what opening answers -/
def Opn (w : World) (B : Nat) (o : Option (List Bool × List UInt8)) (e : Ending) : Prop :=
  (o = none ∧ ∃ t r, e = .returned (.tuple #[t, r, .bool false])) ∨
  ∃ nulls rest t r, o = some (nulls, rest) ∧ e = .returned (.tuple #[t, r, .bool true]) ∧ Ow tv 4 w B t nulls ∧ Bs w r rest ∧ ∀ q, r.ownBlock = some q → q < w.heap.size
theorem cutT_all (l : List UInt8) : cutT l l.length = l := by unfold cutT cutOk; simp
theorem cutR_all (l : List UInt8) : cutR l l.length = [] := by unfold cutR cutOk; simp
theorem cutB_all (l : List UInt8) (bad : Bool) : cutB l bad l.length = bad := by unfold cutB cutOk; simp
theorem cut1T (x : UInt8) (r : List UInt8) : cutT (x :: r) 1 = [x] := by
  unfold cutT cutOk
  rw [decide_eq_true (by rw [List.length_cons]; omega), if_pos rfl]; rfl
theorem cut1R (x : UInt8) (r : List UInt8) : cutR (x :: r) 1 = r := by
  unfold cutR cutOk
  rw [decide_eq_true (by rw [List.length_cons]; omega), if_pos rfl]; rfl
theorem cut1B (x : UInt8) (r : List UInt8) : cutB (x :: r) false 1 = false := by
  unfold cutB cutOk
  rw [decide_eq_true (by rw [List.length_cons]; omega), if_pos rfl]
theorem openC_nil (n : Nat) : openC [] n = none := rfl
theorem openC_none {c : UInt8} (r : List UInt8) (n : Nat) (h : someN c = false) : openC (c :: r) n = some (List.replicate n false, r) := by
  show (if someN c = false then _ else _) = _
  rw [if_pos h]
theorem openC_yes {c : UInt8} {r : List UInt8} {n : Nat} (h : someN c = true) (hk : need n ≤ r.length) (hf : Fit (r.take (need n)) n) (hc : 0 < cnt (unp (r.take (need n)) n)) : openC (c :: r) n = some (unp (r.take (need n)) n, r.drop (need n)) := by
  show (if someN c = false then _ else if _ then _ else _) = _
  rw [if_neg (by rw [h]; simp), if_pos ⟨hk, fun i _ hi => hf.2 i hi, hc⟩]
theorem openC_no {c : UInt8} {r : List UInt8} {n : Nat} (h : someN c = true) (hn : ¬ (need n ≤ r.length ∧ Fit (r.take (need n)) n ∧ 0 < cnt (unp (r.take (need n)) n))) : openC (c :: r) n = none := by
  show (if someN c = false then _ else if _ then _ else _) = _
  rw [if_neg (by rw [h]; simp), if_neg ?_]
  rintro ⟨h1, h2, h3⟩
  have hlen : (r.take (need n)).length = need n := by rw [List.length_take]; omega
  exact hn ⟨h1, fit_of hlen (fun i hi => by rw [hlen] at hi; exact h2 i hi), h3⟩

set_option maxHeartbeats 4000000 in
theorem open_any (v : Value) (b : List UInt8) (n : Nat) (w : World) (hv : Bs w v b) (hl : b.length ≤ 100000) (hn : n ≤ 4096) :
    Calls Tryz.prog 85 #[v, .int .i64 n] w fun e w' => Opn w' w.heap.size (openC b n) e ∧ Fr Non w w' := by
  have HB := Lib.hid hv
  clear hv
  go_enter Tryz.func85, Tryz.ntmps85
  go_wp2_with fail
  refine (from_any v b w HB.out).mono ?_
  rintro e w1 ⟨rfl, hs1, hf1⟩
  have HF1 := Lib.hid hf1
  generalize hg : w.heap.size = g at *
  have HGz := Lib.hid (Nat.le_of_eq hg)
  clear hg hf1
  go_wp2_with fail
  refine (take_lt g b false 1 w1 hs1).mono ?_
  rintro e w2 ⟨v2, rfl, hb2, hq2, hs2, hf2⟩
  have HF2 := Lib.hid (HF1.out.fresh hf2 (fun q e => by have : q = g := e; have := HGz.out; omega))
  clear hs1 hf2 hq2 HF1 HB
  cases b with
  | nil =>
    have hs := Lib.hid (show Src w2 g [] true from hs2)
    obtain ⟨A2, c2, rfl, _⟩ := hb2
    clear hs2
    go_wp2_with fail
    refine (ok_any g [] true w2 hs.out).mono ?_
    rintro e w3 ⟨rfl, rfl⟩
    go_wp2_with fail
    have hgl : ∀ q, One g q → w.heap.size ≤ q := fun q e => by have : q = g := e; have := HGz.out; omega
    have hcb : cutB ([] : List UInt8) true 0 = true := rfl
    obtain ⟨F, hF⟩ := mk_all el_bool false rfl n (by omega)
    have HF := Lib.hid hF
    have hrun := fun W => (HF.out W).1
    have src := hs.out.drew
    have srcF := fun W (h : Src W g [] true) => h.fr (HF.out W).2.2 (fun e => e)
    clear hF
    go_region_held3 (fun _ => True) (exact trivial) (first
      | (go_at_call 81; refine (left_any _ _ _ _ src).mono ?_; rintro e w4 ⟨rfl, rfl⟩)
      | (go_at_call 81; refine (left_any _ _ _ _ (srcF _ src)).mono ?_; rintro e w4 ⟨rfl, rfl⟩)
      | (go_at_call 137; refine (take_lt _ _ _ _ _ src).mono ?_; rintro e w4 ⟨v4, rfl, hb4, hq4, src4, hf4⟩)
      | (go_at_call 137; refine (take_lt _ _ _ _ _ (srcF _ src)).mono ?_; rintro e w4 ⟨v4, rfl, hb4, hq4, src4, hf4⟩)
      | (go_at_call 80; refine (ok_any _ _ _ _ src4).mono ?_; rintro e w6 ⟨rfl, rfl⟩)
      | (go_at_call 80; refine (ok_any _ _ _ _ (src4.fr (HF.out _).2.2 (fun e => e))).mono ?_; rintro e w6 ⟨rfl, rfl⟩))
    all_goals
      go_wp2
      go_ret3
      first
        | exact ⟨.inl ⟨openC_nil n, _, _, rfl⟩, (HF2.out.drew.trans (HF.out _).2.2).fresh hf4 hgl⟩
        | exact ⟨.inl ⟨openC_nil n, _, _, rfl⟩, (HF2.out.drew.fresh hf4 hgl).trans (HF.out _).2.2⟩
  | cons x r =>
    have hs := Lib.hid (show Src w2 g r false from by rw [cut1R, cut1B] at hs2; exact hs2)
    have hb3 : Bs w2 v2 [x] := by rw [cut1T] at hb2; exact hb2
    clear hs2 hb2
    obtain ⟨A2, c2, rfl, hlc2, hn2, hc2⟩ := hb3
    cases A2 with
    | none => have := hn2 rfl; simp at hlc2; omega
    | some a =>
      have g0 : w2.cell? (a.add 0) = some (bv x) := hc2 a rfl 0 (by simp)
      have g1 : w2.cell? a = some (bv x) := by rw [add0 a] at g0; exact g0
      have h8 := and8 x.toNat x.toNat_lt
      clear hn2 hc2
      unfold bv at g0 g1
      have HSx : someN x = (x.toNat / 8 % 2 == 1) := rfl
      have HY := Lib.hid (fun h1 h2 h3 h4 => openC_yes (c := x) (r := r) (n := n) h1 h2 h3 h4)
      have HNo := Lib.hid (fun h1 h2 => openC_no (c := x) (r := r) (n := n) h1 h2)
      have HNe := Lib.hid (fun h => openC_none (c := x) r n h)
      have hgl : ∀ q, One g q → w.heap.size ≤ q := fun q e => by have : q = g := e; have := HGz.out; omega
      have hgw : g < w2.heap.size := hs.out.1.lt
      have hrl : r.length ≤ 100000 := by simp at hl; omega
      generalize someN x = sx at *
      generalize x.toNat = q at *
      rcases (show q / 8 % 2 = 0 ∨ q / 8 % 2 = 1 by omega) with hq0 | hq0
      · have h80 : bits .and .u8 (q : Int) 8 = 0 := by rw [h8, hq0]; rfl
        have hsx : sx = false := by rw [HSx, hq0]; rfl
        have HOO := Lib.hid (HNe.out hsx)
        clear h8 hq0 HSx hsx HY HNo HNe hl
        go_wp2_with fail
        refine (ok_any g r false w2 hs.out).mono ?_
        rintro e w3 ⟨rfl, rfl⟩
        go_wp2_with fail
        have hcb := cutB_all r false
        have hsz2 : w.heap.size ≤ w2.drew.heap.size := HF2.out.size
        have hgn : ∀ q, (Value.slice (some ⟨w2.drew.heap.size, 0, none⟩) n n).ownBlock = some q → ¬ One g q := fun q hq e => by
          have e2 : q = g := e
          have e3 : w2.heap.size = q := by simpa [Value.ownBlock] using hq
          omega
        obtain ⟨F, hF⟩ := mk_all el_bool false rfl n (by omega)
        have HF := Lib.hid hF
        have hrun := fun W => (HF.out W).1
        have src := hs.out.drew
        have srcF := fun W (h : Src W g r false) => h.fr (HF.out W).2.2 (fun e => e)
        clear hF
        go_region_held3 (fun _ => True) (exact trivial) (first
          | (go_at_call 81; refine (left_any _ _ _ _ src).mono ?_; rintro e w4 ⟨rfl, rfl⟩)
          | (go_at_call 81; refine (left_any _ _ _ _ (srcF _ src)).mono ?_; rintro e w4 ⟨rfl, rfl⟩)
          | (go_at_call 137; refine (take_lt _ _ _ _ _ src).mono ?_; rintro e w4 ⟨v4, rfl, hb4, hq4, src4, hf4⟩)
          | (go_at_call 137; refine (take_lt _ _ _ _ _ (srcF _ src)).mono ?_; rintro e w4 ⟨v4, rfl, hb4, hq4, src4, hf4⟩)
          | (go_at_call 80; refine (ok_any _ _ _ _ src4).mono ?_; rintro e w6 ⟨rfl, rfl⟩)
          | (go_at_call 80; refine (ok_any _ _ _ _ (src4.fr (HF.out _).2.2 (fun e => e))).mono ?_; rintro e w6 ⟨rfl, rfl⟩))
        all_goals
          go_wp2
          go_ret3
          first
            | exact ⟨.inr ⟨_, _, _, _, HOO.out, rfl, ((HF.out w2.drew).2.1.fr hf4 hgn).mono hsz2, by rw [cutT_all] at hb4; exact hb4, hq4⟩, (HF2.out.drew.trans (HF.out _).2.2).fresh hf4 hgl⟩
            | exact ⟨.inr ⟨_, _, _, _, HOO.out, rfl, (HF.out _).2.1.mono ((HF2.out.drew.fresh hf4 hgl).size), by rw [cutT_all] at hb4; exact hb4.non (HF.out _).2.2, fun k hk => Nat.lt_of_lt_of_le (hq4 k hk) (HF.out _).2.2.size⟩, (HF2.out.drew.fresh hf4 hgl).trans (HF.out _).2.2⟩
      · have h81 : bits .and .u8 (q : Int) 8 = 8 := by rw [h8, hq0]; rfl
        have hsx : sx = true := by rw [HSx, hq0]; rfl
        have HSX := Lib.hid hsx
        clear h8 hq0 HSx hsx HNe hl
        go_wp2_with fail
        refine (ok_any g r false w2 hs.out).mono ?_
        rintro e w3 ⟨rfl, rfl⟩
        have hTk : ∀ z : Int, z = (need n : Nat) → Calls Tryz.prog 137 #[ptr g, .int .i64 z] w2 fun e w' => ∃ v, e = .returned v ∧ Bs w' v (cutT r (need n : Nat)) ∧ (∀ k, v.ownBlock = some k → k < w'.heap.size) ∧ Src w' g (cutR r (need n : Nat)) (cutB r false (need n : Nat)) ∧ Fr (One g) w2 w' := fun z hz => by
          subst hz
          exact take_lt g r false _ w2 hs.out
        have HTk := Lib.hid hTk
        clear hTk
        go_wp2_with fail
        refine (HTk.out _ ?_).mono ?_
        · unfold need; first | omega | (push_cast; omega)
        rintro e w4 ⟨v4, rfl, hb4, hq4, src4, hf4⟩
        by_cases hk : need n ≤ r.length
        · have eT : cutT r (need n : Nat) = r.take (need n) := by unfold cutT cutOk; rw [decide_eq_true (by omega), if_pos rfl, Int.toNat_natCast]
          have eR : cutR r (need n : Nat) = r.drop (need n) := by unfold cutR cutOk; rw [decide_eq_true (by omega), if_pos rfl, Int.toNat_natCast]
          have eB : cutB r false (need n : Nat) = false := by unfold cutB cutOk; rw [decide_eq_true (by omega), if_pos rfl]
          rw [eT] at hb4
          rw [eR, eB] at src4
          clear eT eR eB
          have hdl : (r.drop (need n)).length ≤ 100000 := by rw [List.length_drop]; omega
          have htl : (r.take (need n)).length ≤ 100000 := by rw [List.length_take]; omega
          have HYY := Lib.hid (fun h3 h4 => HY.out HSX.out hk h3 h4)
          have HNN := Lib.hid (fun h2 => HNo.out HSX.out h2)
          have HF4 := Lib.hid (HF2.out.fresh hf4 hgl)
          have HS4 := Lib.hid src4
          have hgw4 : g < w4.heap.size := src4.1.lt
          have HUn := Lib.hid (unpack_any v4 _ n w4 hb4 htl (by omega) (by omega))
          have hcle := cnt_le (unp (r.take (need n)) n)
          rw [unp_length] at hcle
          clear hb4 hq4 src4 hf4 HY HNo HSX HTk hk
          generalize hT : r.take (need n) = T at *
          generalize hD : r.drop (need n) = D at *
          go_wp2_with fail
          refine HUn.out.mono ?_
          rintro e w5 ⟨hU, hf5⟩
          have HS5 := Lib.hid (HS4.out.fr hf5 (fun e => e))
          have HF5 := Lib.hid (HF4.out.trans hf5)
          have hgw5 := Lib.hid HS5.out.1.lt
          rcases hU with ⟨hno, rfl⟩ | ⟨⟨_, hfit⟩, u5, rfl, ho5⟩
          · have HOO := Lib.hid (HNN.out fun h => hno ⟨by omega, by simpa using h.2.1⟩)
            clear hno HYY HNN HS4 HUn hf5 hcle
            go_wp2_with fail
            refine (left_any g D false w5 HS5.out).mono ?_
            rintro e w6 ⟨rfl, rfl⟩
            go_wp2_with fail
            refine (take_lt g D false _ w5 HS5.out).mono ?_
            rintro e w6 ⟨v6, rfl, hb6, hq6, src6, hf6⟩
            have HF6 := Lib.hid (HF5.out.fresh hf6 hgl)
            clear hb6 hq6 hf6
            go_wp2_with fail
            go_ret3
            exact ⟨.inl ⟨HOO.out, _, _, rfl⟩, HF6.out⟩
          · rw [Int.toNat_natCast] at hfit ho5
            have HO5 := Lib.hid ho5
            have HYZ := Lib.hid (fun h => HYY.out hfit h)
            have HNZ := Lib.hid (fun (h : ¬ 0 < cnt (unp T n)) => HNN.out fun h' => h h'.2.2)
            have hul : (unp T n).length ≤ 9223372036854775807 := by rw [unp_length]; omega
            clear hfit ho5 HYY HNN HS4 HUn hf5
            generalize unp T n = U at *
            go_wp2_with fail
            refine (left_any g D false w5 HS5.out).mono ?_
            rintro e w6 ⟨rfl, rfl⟩
            go_wp2_with fail
            refine (take_lt g D false _ w5 HS5.out).mono ?_
            rintro e w6 ⟨v6, rfl, hb6, hq6, src6, hf6⟩
            rw [cutT_all] at hb6
            rw [cutR_all, cutB_all] at src6
            have HF6 := Lib.hid (HF5.out.fresh hf6 hgl)
            have HO6 := Lib.hid ((HO5.out.mono (Nat.le_trans HF4.out.size (Nat.le_refl _))).fr hf6 (fun q hq e => by have h7 := (HO5.out.lt q hq).1; have h8 : q = g := e; omega))
            have HB6 := Lib.hid hb6
            have HQ6 := Lib.hid hq6
            clear hb6 hq6 hf6 HO5
            go_wp2_with fail
            refine (ok_any g [] false w6 src6).mono ?_
            rintro e w7 ⟨rfl, rfl⟩
            go_wp2_with fail
            refine (count_any u5 U w6 HO6.out.vs hul).mono ?_
            rintro e w7 ⟨rfl, rfl⟩
            by_cases hc : 0 < cnt U
            · have HOO := Lib.hid (HYZ.out hc)
              have dc : decide (0 < cnt U) = true := by simp only [decide_eq_true_eq]; omega
              clear HYZ HNZ hc
              go_wp2_with fail
              go_ret3
              exact ⟨.inr ⟨_, _, _, _, HOO.out, rfl, HO6.out, HB6.out, HQ6.out⟩, HF6.out⟩
            · have HOO := Lib.hid (HNZ.out hc)
              have dc : decide (0 < cnt U) = false := by simp only [decide_eq_false_iff_not]; omega
              clear HYZ HNZ hc
              go_wp2_with fail
              go_ret3
              exact ⟨.inl ⟨HOO.out, _, _, rfl⟩, HF6.out⟩
        · have eT : cutT r (need n : Nat) = [] := by unfold cutT cutOk; rw [decide_eq_false (by omega)]; rfl
          have eR : cutR r (need n : Nat) = [] := by unfold cutR cutOk; rw [decide_eq_false (by omega)]; rfl
          have eB : cutB r false (need n : Nat) = true := by unfold cutB cutOk; rw [decide_eq_false (by omega)]; rfl
          rw [eT] at hb4
          rw [eR, eB] at src4
          clear eT eR eB
          have HOO := Lib.hid (HNo.out HSX.out fun h => hk h.1)
          have HF4 := Lib.hid (HF2.out.fresh hf4 hgl)
          have HS4 := Lib.hid src4
          have HUn := Lib.hid (unpack_any v4 _ n w4 hb4 (by simp) (by omega) (by omega))
          have hn0 : 0 < need n := by omega
          clear hb4 hq4 src4 hf4 HY HNo HSX HTk hk
          go_wp2_with fail
          refine HUn.out.mono ?_
          rintro e w5 ⟨hU, hf5⟩
          have HS5 := Lib.hid (HS4.out.fr hf5 (fun e => e))
          have HF5 := Lib.hid (HF4.out.trans hf5)
          rcases hU with ⟨hno, rfl⟩ | ⟨⟨_, hfit⟩, u5, rfl, ho5⟩
          · clear hno HS4 HUn hf5
            go_wp2_with fail
            refine (left_any g [] true w5 HS5.out).mono ?_
            rintro e w6 ⟨rfl, rfl⟩
            go_wp2_with fail
            refine (take_lt g [] true _ w5 HS5.out).mono ?_
            rintro e w6 ⟨v6, rfl, hb6, hq6, src6, hf6⟩
            have HF6 := Lib.hid (HF5.out.fresh hf6 hgl)
            clear hb6 hq6 hf6
            go_wp2_with fail
            go_ret3
            exact ⟨.inl ⟨HOO.out, _, _, rfl⟩, HF6.out⟩
          · rw [Int.toNat_natCast] at hfit
            have := hfit.1
            simp at this
            omega
end Go.Proofs.YtheefloegbkflaaGreatDoor


namespace Go.Proofs.YtheefloegbkflaaGreatDoor
set_option linter.unusedVariables false
set_option linter.unusedSimpArgs false
set_option maxRecDepth 100000
open Go.RowKit

/-- what chunk.Get answers -/
def Gec (w : World) (B : Nat) (o : Option (List Cl)) (e : Ending) : Prop :=
  (o = none ∧ e = .returned (.tuple #[.slice none 0 0, .bool false])) ∨ ∃ l u, o = some l ∧ e = .returned (.tuple #[u, .bool true]) ∧ Oc w B u l

set_option maxHeartbeats 4000000 in
theorem get_cl (ty n : Int) (v : Value) (b : List UInt8) (w : World) (hv : Bs w v b) (hl : b.length ≤ 100000) :
    Calls Tryz.prog 49 #[.int .i64 ty, v, .int .i64 n] w fun e w' => Gec w' w.heap.size (getC ty b n) e ∧ Fr Non w w' := by
  have HB := Lib.hid hv
  clear hv
  by_cases h0 : n < 0
  · have HG := Lib.hid (getC_out (ty := ty) (b := b) (.inl h0))
    have d0 : decide (n < 0) = true := by simpa using h0
    clear h0
    go_enter Tryz.func49, Tryz.ntmps49
    go_wp2
    go_ret2
    exact ⟨.inl ⟨HG.out, rfl⟩, Fr.refl _ _⟩
  · have d0 : decide (n < 0) = false := by simpa using h0
    by_cases h4 : 4096 < n
    · have HG := Lib.hid (getC_out (ty := ty) (b := b) (.inr h4))
      have d4 : decide (4096 < n) = true := by simpa using h4
      clear h0 h4
      go_enter Tryz.func49, Tryz.ntmps49
      go_wp2
      go_ret2
      exact ⟨.inl ⟨HG.out, rfl⟩, Fr.refl _ _⟩
    · have d4 : decide (4096 < n) = false := by simpa using h4
      obtain ⟨m, rfl⟩ : ∃ m : Nat, n = (m : Int) := ⟨n.toNat, by omega⟩
      have hm : m ≤ 4096 := by omega
      clear h0 h4
      have HO := Lib.hid (open_any v b m w HB.out hl hm)
      have HSh := Lib.hid (fun h => getC_shut (ty := ty) (b := b) (n := m) h)
      have HOp := Lib.hid (fun nulls r h => getC_open (ty := ty) (b := b) (r := r) (n := m) (nulls := nulls) hm h)
      generalize getC ty b m = G at *
      go_enter Tryz.func49, Tryz.ntmps49
      go_wp2_with fail
      refine HO.out.mono ?_
      rintro e w1 ⟨ho, hf1⟩
      have HF1 := Lib.hid hf1
      clear hf1 HO
      rcases ho with ⟨h0, t, r, rfl⟩ | ⟨nulls, rest, t, r, h0, rfl, hown, hbr, hq⟩
      · have HG := Lib.hid (HSh.out h0)
        clear h0 HSh HOp
        go_wp2_with fail
        go_ret2
        exact ⟨.inl ⟨HG.out, rfl⟩, HF1.out⟩
      · have HG := Lib.hid (HOp.out nulls rest h0)
        have hlen := openC_length h0
        have hL := openC_len h0
        have hrl : rest.length ≤ 100000 := by omega
        have hcn := cnt_le nulls
        have HT := Lib.hid hown
        have HR := Lib.hid hbr
        have HQ := Lib.hid hq
        clear h0 HSh HOp hown hbr hq hL
        have HBk := Lib.hid (kind_any v b w1 (HB.out.non HF1.out) (by omega))
        go_wp2_with fail
        refine HBk.out.mono ?_
        rintro e w2 ⟨rfl, rfl⟩
        clear HBk
        have HCt := Lib.hid (count_any t nulls w1 HT.out.vs (by omega))
        go_wp2_with fail
        refine HCt.out.mono ?_
        rintro e w2 ⟨rfl, rfl⟩
        clear HCt
        have HRd : Hid (∀ z : Int, z = (m : Int) - (cnt nulls : Nat) → Calls Tryz.prog 86 #[.int .i64 ty, .int .i64 (kindB b : Nat), r, .int .i64 z] w1 fun e w' => Gtc w' w1.heap.size (readC ty (kindB b) rest (m - cnt nulls)) e ∧ Fr Non w1 w') := by
          refine Lib.hid fun z hz => ?_
          obtain rfl : z = ((m - cnt nulls : Nat) : Int) := by omega
          exact read_any ty (kindB b) r rest (m - cnt nulls) w1 HR.out HQ.out hrl (by omega)
        have HLn : Hid (∀ o, readC ty (kindB b) rest (m - cnt nulls) = some o → o.length + cnt nulls = nulls.length) := Lib.hid fun o ho => by
          have := (wayG_is (readC_is ho).2.1).2.1
          omega
        generalize readC ty (kindB b) rest (m - cnt nulls) = R at *
        generalize kindB b = kk at *
        generalize hcc : cnt nulls = cc at *
        have hcl : cc ≤ m := by omega
        have hnl : nulls.length ≤ 1000000 := by omega
        have HCC := Lib.hid hcc
        clear hcc hlen hcn
        go_wp2_with fail
        refine (HRd.out _ ?_).mono ?_
        · first | rfl | (push_cast; omega)
        rintro e w2 ⟨hG, hf2⟩
        have HF2 := Lib.hid hf2
        clear hf2 HRd
        rcases hG with ⟨h1, u, l, rfl, h2⟩ | ⟨l, u, h1, rfl, h2⟩
        · have HG2 : Hid (G = none) := Lib.hid (by rw [HG.out, h1]; rfl)
          clear h1 h2
          go_wp2_with fail
          go_ret2
          exact ⟨.inl ⟨HG2.out, rfl⟩, HF1.out.trans HF2.out⟩
        · have HG2 : Hid (G = some (joinC nulls l)) := Lib.hid (by rw [HG.out, h1]; rfl)
          have HJ := Lib.hid (join_cl t u nulls l w2 (HT.out.vs.non HF2.out) h2.cs hnl (by rw [HCC.out]; exact HLn.out l h1))
          clear h1 h2
          go_wp2_with fail
          refine HJ.out.mono ?_
          rintro e w3 ⟨u3, rfl, ho3, hf3⟩
          have HO3 := Lib.hid (ho3.mono (HF1.out.trans HF2.out).size)
          have HF3 := Lib.hid ((HF1.out.trans HF2.out).trans hf3)
          clear ho3 hf3
          go_wp2
          go_ret2
          exact ⟨.inr ⟨_, _, HG2.out, rfl, HO3.out⟩, HF3.out⟩

theorem waysOf_good {ty : Int} (h : isTy ty = true) : waysOf ty ≠ [] := by
  unfold isTy at h
  unfold waysOf
  split
  · simp
  · split
    · simp
    · simp at h; omega
theorem okL_may {ty : Int} {l : List Cl} (h : ∀ c ∈ l, mayC ty true c = true ∧ I64 c.num) : OkL (othersC l) := by
  intro c hc
  have := h c (List.mem_filter.1 hc).1
  refine ⟨this.2, ?_⟩
  have h2 := this.1
  unfold mayC at h2
  simp only [Bool.and_eq_true] at h2
  obtain ⟨_, h2⟩ := h2
  split at h2
  · simp at h2
    rw [h2.2]
    simp
  · split at h2
    · simp at h2
      omega
    · simp at h2
      rw [h2.1]
      simp

theorem shortC_in (l : List Cl) : ∀ (ks : List Nat) (n : Nat) (b : List UInt8), (shortC l ks (n, b)).1 ∈ n :: ks
  | [], n, b => by simp [shortC]
  | k :: ks, n, b => by
    rw [shortC]
    split
    · exact List.mem_cons_of_mem n (shortC_in l ks k (wayB k l))
    · have := shortC_in l ks n b
      rcases List.mem_cons.1 this with h | h
      · rw [h]; simp
      · simp [h]
theorem bs_byteZ (w2 : World) {k : Nat} (hk : k ≤ 64) {z : Int} (hz : z = (k : Int)) : Bs (w2.alloc (.cells #[.int .u8 z] 5)) (.slice (some ⟨w2.heap.size, 0, none⟩) 1 1) [k.toUInt8] := by
  have := bs_row w2 [k.toUInt8]
  simp only [List.map_cons, List.map_nil, bv, small64 hk] at this
  rw [hz]
  exact this
theorem parts_byte2 {w2 : World} {B : Nat} {x : Value} {t : TypeId} {n : List UInt8} {k : Nat} (hk : k ≤ 64) {z : Int} (hz : z = (k : Int)) (hx : Own w2 B x n) :
    Parts ((w2.alloc (.cells #[.int .u8 z] 5)).alloc (.cells #[.slice (some ⟨w2.heap.size, 0, none⟩) 1 1, x] t)) (w2.heap.size + 1) [.slice (some ⟨w2.heap.size, 0, none⟩) 1 1, x] [[k.toUInt8], n] := by
  have hf : Fr Non w2 (w2.alloc (.cells #[.int .u8 z] 5)) := (Fr.refl _ _).alloc _
  have h := Parts.two (t := t) (bs_byteZ w2 hk hz) (hx.bs.non hf)
  rwa [show (w2.alloc (.cells #[.int .u8 z] 5)).heap.size = w2.heap.size + 1 by simp] at h
theorem byte_fl2 (x : UInt8) (m : List UInt8) : [[x], m].flatten = x :: m := by simp
theorem byte_fl3 (x : UInt8) (m n : List UInt8) : [[x], m, n].flatten = x :: (m ++ n) := by simp

set_option maxHeartbeats 4000000 in
theorem put_cl (ty : Int) (v : Value) (l : List Cl) (w : World) (hv : Cs w v l) (hm : ∀ c ∈ l, mayC ty true c = true ∧ I64 c.num) (hl : l.length ≤ 4096) (hb : (putC ty l).length ≤ 1000000) (hpos : 0 < (putC ty l).length) :
    Calls Tryz.prog 29 #[.int .i64 ty, v] w fun e w' => ∃ u, e = .returned u ∧ Own w' w.heap.size u (putC ty l) ∧ Fr Non w w' := by
  have HV := Lib.hid hv
  have HO := Lib.hid (okL_may hm)
  have HAll : Hid (l.all (mayC ty true) = true) := Lib.hid (List.all_eq_true.2 fun c hc => (hm c hc).1)
  have hof : (othersC l).length ≤ l.length := List.length_filter_le _ _
  have hwp := waysOf_pos ty
  have hwl := waysOf_len ty
  have HMay := Lib.hid (mayL_any ty true v l w hv (by omega))
  rw [HAll.out] at HMay
  have d4 : decide (4096 < (l.length : Int)) = false := by simp; omega
  obtain ⟨A, c, rfl⟩ : ∃ A c, v = .slice A l.length c := by obtain ⟨A, c, h, _⟩ := hv; exact ⟨A, c, h⟩
  have HPart := Lib.hid (fun W (h : Cs W (.slice A l.length c) l) => part_any (.slice A l.length c) l W h (by omega))
  have HSh := Lib.hid (fun W v3 o (h1 : Ws W v3 (waysOf ty)) (h2 : Cs W o (othersC l)) => shortest_any v3 o (waysOf ty) (othersC l) W h1 h2 (by omega) (fun k hk => by have := hwp k hk; omega) (by omega) HO.out)
  have HWays := Lib.hid (fun W => ways_any ty W)
  have hP : putC ty l = if (shortC (othersC l) (waysOf ty) (0, [])).1 = 0 then []
      else if (othersC l).length = l.length then (shortC (othersC l) (waysOf ty) (0, [])).1.toUInt8 :: (shortC (othersC l) (waysOf ty) (0, [])).2
      else ((shortC (othersC l) (waysOf ty) (0, [])).1 + 8).toUInt8 :: (packB (nullsC l) ++ (shortC (othersC l) (waysOf ty) (0, [])).2) := rfl
  have hk6 : (shortC (othersC l) (waysOf ty) (0, [])).1 ≤ 6 := by
    rcases List.mem_cons.1 (shortC_in (othersC l) (waysOf ty) 0 []) with h | h
    · omega
    · exact (hwp _ h).2
  have hnl : (nullsC l).length ≤ 1000000 := by unfold nullsC; rw [List.length_map]; omega
  generalize putC ty l = P at *
  generalize shortC (othersC l) (waysOf ty) (0, []) = sh at *
  obtain ⟨k, y⟩ := sh
  dsimp only at hP hk6 HSh
  generalize waysOf ty = ks at *
  generalize othersC l = os at *
  generalize nullsC l = nl at *
  have hk0 : k ≠ 0 := by
    intro h
    rw [if_pos h] at hP
    subst hP
    simp at hpos
  rw [if_neg hk0] at hP
  have hk64 : k ≤ 64 := by omega
  have e0 : ((k : Int) == 0) = false := by rw [beq_eq_false_iff_ne]; omega
  have HP := Lib.hid hP
  clear hv hm HAll hP hwp hwl HO hpos hk0
  go_enter Tryz.func29, Tryz.ntmps29
  go_wp2_with fail
  refine HMay.out.mono ?_
  rintro e w1 ⟨rfl, hf1⟩
  have HF1 := Lib.hid hf1
  clear hf1 HMay
  go_wp2_with fail
  refine (HPart.out w1 (HV.out.non HF1.out)).mono ?_
  rintro e w2 ⟨t, o, rfl, ht, ho, hf2⟩
  have HT := Lib.hid ht
  have HOo := Lib.hid ho
  have HF2 := Lib.hid (HF1.out.trans hf2)
  clear ht ho hf2 HPart
  go_wp2_with fail
  refine (HWays.out w2).mono ?_
  rintro e w3 ⟨v3, rfl, hw3, hf3⟩
  have HW3 := Lib.hid hw3
  have HF3 := Lib.hid hf3
  clear hw3 hf3
  go_wp2_with fail
  refine (HSh.out w3 v3 o HW3.out (HOo.out.cs.non HF3.out)).mono ?_
  rintro e w4 ⟨u4, rfl, ho4, hf4⟩
  obtain ⟨A4, c4, rfl⟩ := ho4.bs.shape
  have HO4 := Lib.hid ho4
  have HT4 := Lib.hid ((HT.out.non HF3.out).non hf4)
  have HF4 := Lib.hid ((HF2.out.trans HF3.out).trans hf4)
  obtain ⟨Ao, co, rfl⟩ : ∃ A c, o = .slice A os.length c := by obtain ⟨A, c, h, _⟩ := HOo.out.cs; exact ⟨A, c, h⟩
  clear ho4 hf4 HSh HWays HV HW3 HOo HT
  by_cases hs : os.length = l.length
  · have hP := HP.out
    rw [if_pos hs] at hP
    have es : ((os.length : Int) == l.length) = true := by rw [hs]; simp
    have hcl : [[k.toUInt8], y].flatten.length < 1099511627776 := by rw [byte_fl2, ← hP]; omega
    have HP2 := Lib.hid hP
    have HCl := Lib.hid hcl
    clear HP hP hcl hs hb
    go_wp2_with fail
    refine (concat_any (w4.heap.size + 1) 2 2 _ [[k.toUInt8], y] _ rfl (by omega) (parts_byte2 hk64 rfl HO4.out) HCl.out).mono ?_
    rintro e w5 ⟨u5, rfl, ho5, hf5⟩
    go_wp2
    go_ret
    refine ⟨u5, rfl, ?_, ?_⟩
    · rw [byte_fl2, ← HP2.out] at ho5
      exact ho5.mono ((HF4.out.alloc _).alloc _).size
    · exact ((HF4.out.alloc _).alloc _).trans hf5
  · have hP := HP.out
    rw [if_neg hs] at hP
    have es : ((os.length : Int) == l.length) = false := by rw [beq_eq_false_iff_ne]; omega
    have hcl : [[(k + 8).toUInt8], packB nl, y].flatten.length < 1099511627776 := by rw [byte_fl3, ← hP]; omega
    have HP2 := Lib.hid hP
    have HCl := Lib.hid hcl
    clear HP hP hcl hs hb
    go_wp2_with fail
    refine (pack_any t nl _ (HT4.out.vs.non ((Fr.refl _ _).alloc _)) hnl).mono ?_
    rintro e w5 ⟨u5, rfl, ho5, hf5⟩
    have hb5 := bs_byteZ w4 (k := k + 8) (by omega) (z := (k : Int) + 8) (by push_cast; rfl)
    have HF5 := Lib.hid (((Fr.refl Non w4).alloc (.cells #[.int .u8 ((k : Int) + 8)] 5)).trans hf5)
    have HB5 := Lib.hid (hb5.non hf5)
    have HY5 := Lib.hid (HO4.out.bs.non HF5.out)
    have HO5 := Lib.hid ho5
    obtain ⟨A5, c5, rfl⟩ := ho5.bs.shape
    clear hb5 hf5 ho5
    go_wp2_with fail
    refine (concat_any w5.heap.size 3 3 _ [[(k + 8).toUInt8], packB nl, y] _ rfl (by omega) (Parts.three HB5.out HO5.out.bs HY5.out) HCl.out).mono ?_
    rintro e w6 ⟨u6, rfl, ho6, hf6⟩
    go_wp2
    go_ret
    have hF := ((HF4.out.trans HF5.out).alloc _).trans hf6
    refine ⟨u6, rfl, ?_, hF⟩
    rw [byte_fl3, ← HP2.out] at ho6
    exact ho6.mono (((HF4.out.trans HF5.out).alloc _).size)
end Go.Proofs.YtheefloegbkflaaGreatDoor


namespace Go.Proofs.YtheefloegbkflaaGreatDoor
set_option linter.unusedVariables false
set_option linter.unusedSimpArgs false
set_option maxRecDepth 100000
open Go.RowKit

theorem nani_any (x : Int) (w : World) : Calls Tryz.prog 185 #[.int .i64 x] w fun e w' => e = .returned (.bool false) ∧ w = w' := by
  have h : (x != x) = false := by simp
  go_enter Tryz.func185, Tryz.ntmps185
  go_wp2
  go_ret
  exact ⟨ret_boolE (by simp), rfl⟩
theorem nant_any (x : Tx) (w : World) : Calls Tryz.prog 186 #[.string ⟨x.toArray⟩] w fun e w' => e = .returned (.bool false) ∧ w = w' := by
  go_enter Tryz.func186, Tryz.ntmps186
  go_wp2
  go_ret
  exact ⟨ret_boolE (by simp), rfl⟩

theorem cmpi_any (x y : Int) (w : World) : Calls Tryz.prog 165 #[.int .i64 x, .int .i64 y] w fun e w' => e = .returned (.int .i64 (cmpI x y)) ∧ w = w' := by
  go_enter Tryz.func165, Tryz.ntmps165
  go_wp2_with fail
  refine (nani_any x w).mono ?_
  rintro e w1 ⟨rfl, rfl⟩
  go_wp2_with fail
  refine (nani_any y w).mono ?_
  rintro e w1 ⟨rfl, rfl⟩
  go_wp2
  all_goals
    go_ret
    exact ⟨ret_int (by unfold cmpI; first | (rw [if_pos (by omega)]; done) | (rw [if_neg (by omega), if_pos (by omega)]; done) | (rw [if_neg (by omega), if_neg (by omega)]; done)), rfl⟩

/-- Go's '<' both ways, decided -/
theorem less_lt {x y : Tx} (h : x < y) : Op.bytesLess x y = true := by rw [bless]; simpa using h
theorem less_gt {x y : Tx} (h : y < x) : Op.bytesLess x y = false ∧ (x == y) = false := by
  refine ⟨by rw [bless]; simpa using fun e => List.lt_irrefl x (List.lt_trans e h), beq_eq_false_iff_ne.2 fun e => ?_⟩
  subst e; exact List.lt_irrefl x h
theorem less_self (x : Tx) : Op.bytesLess x x = false := by rw [bless]; simp

theorem cmpt_any (x y : Tx) (w : World) : Calls Tryz.prog 166 #[.string ⟨x.toArray⟩, .string ⟨y.toArray⟩] w fun e w' => e = .returned (.int .i64 (cmpT x y)) ∧ w = w' := by
  rcases tx_tri x y with hl | hl | hl
  · have h1 := less_lt hl
    have H := Lib.hid (cmpT_lt hl)
    clear hl
    go_enter Tryz.func166, Tryz.ntmps166
    go_wp2_with fail
    refine (nant_any x w).mono ?_
    rintro e w1 ⟨rfl, rfl⟩
    go_wp2_with fail
    refine (nant_any y w).mono ?_
    rintro e w1 ⟨rfl, rfl⟩
    go_wp2
    go_ret
    exact ⟨ret_int (by rw [H.out]), rfl⟩
  · subst hl
    have h1 := less_self x
    have H := Lib.hid (cmpT_self x)
    go_enter Tryz.func166, Tryz.ntmps166
    go_wp2_with fail
    refine (nant_any x w).mono ?_
    rintro e w1 ⟨rfl, rfl⟩
    go_wp2_with fail
    refine (nant_any x w).mono ?_
    rintro e w1 ⟨rfl, rfl⟩
    go_wp2
    go_ret
    exact ⟨ret_int (by rw [H.out]), rfl⟩
  · obtain ⟨h1, h2⟩ := less_gt hl
    have H := Lib.hid (cmpT_gt hl)
    clear hl
    go_enter Tryz.func166, Tryz.ntmps166
    go_wp2_with fail
    refine (nant_any x w).mono ?_
    rintro e w1 ⟨rfl, rfl⟩
    go_wp2_with fail
    refine (nant_any y w).mono ?_
    rintro e w1 ⟨rfl, rfl⟩
    go_wp2
    go_ret
    exact ⟨ret_int (by rw [H.out]), rfl⟩

/-! ### The order -/
def ordC (a b : Cl) : Int := if a.null && !b.null then -1 else if b.null && !a.null then 1 else if a.num = b.num then cmpT a.txt b.txt else cmpI a.num b.num
theorem cmpI_lt {x y : Int} (h : x < y) : cmpI x y = -1 := by unfold cmpI; rw [if_pos h]
theorem cmpI_gt {x y : Int} (h : y < x) : cmpI x y = 1 := by unfold cmpI; rw [if_neg (by omega), if_pos h]
theorem ordC_null {a b : Cl} (h : a.null = b.null) : ordC a b = if a.num = b.num then cmpT a.txt b.txt else cmpI a.num b.num := by
  unfold ordC
  cases ha : a.null <;> rw [ha] at h <;> simp [← h]
theorem ordC_mk (n : Bool) (i j : Int) (s t : Tx) : ordC ⟨n, i, s⟩ ⟨n, j, t⟩ = if i = j then cmpT s t else cmpI i j := ordC_null (a := ⟨n, i, s⟩) (b := ⟨n, j, t⟩) rfl
theorem ordC_tf {a b : Cl} (h : a.null = true) (h' : b.null = false) : ordC a b = -1 := by unfold ordC; rw [h, h']; rfl
theorem ordC_ft {a b : Cl} (h : a.null = false) (h' : b.null = true) : ordC a b = 1 := by unfold ordC; rw [h, h']; rfl
theorem ordC_neg (a b : Cl) : ordC b a = -ordC a b := by
  cases ha : a.null <;> cases hb : b.null
  · rw [ordC_null (ha.trans hb.symm), ordC_null (hb.trans ha.symm)]
    by_cases h : a.num = b.num
    · rw [if_pos h, if_pos h.symm, cmpT_neg]
    · rw [if_neg h, if_neg (fun e => h e.symm)]
      unfold cmpI
      split <;> split <;> first | rfl | omega | (split <;> first | rfl | omega)
  · rw [ordC_ft ha hb, ordC_tf hb ha]
  · rw [ordC_tf ha hb, ordC_ft hb ha]; rfl
  · rw [ordC_null (ha.trans hb.symm), ordC_null (hb.trans ha.symm)]
    by_cases h : a.num = b.num
    · rw [if_pos h, if_pos h.symm, cmpT_neg]
    · rw [if_neg h, if_neg (fun e => h e.symm)]
      unfold cmpI
      split <;> split <;> first | rfl | omega | (split <;> first | rfl | omega)
theorem cmpI_zero {x y : Int} (h : cmpI x y = 0) : x = y := by
  unfold cmpI at h
  split at h
  · omega
  · split at h <;> omega
theorem ordC_zero (a b : Cl) : (ordC a b == 0) = ceq a b := by
  rw [Bool.eq_iff_iff, beq_iff_eq]
  obtain ⟨an, ai, at_⟩ := a
  obtain ⟨bn, bi, bt⟩ := b
  simp only [ceq, decide_eq_true_eq, Cl.mk.injEq]
  cases an <;> cases bn
  · rw [ordC_mk]
    by_cases h : ai = bi
    · simp only [h, if_true]; rw [cmpT_zero]; simp
    · simp only [h, if_false]
      exact ⟨fun e => absurd (cmpI_zero e) h, fun e => absurd e.2.1 (by simp)⟩
  · rw [ordC_ft rfl rfl]; simp
  · rw [ordC_tf rfl rfl]; simp
  · rw [ordC_mk]
    by_cases h : ai = bi
    · simp only [h, if_true]; rw [cmpT_zero]; simp
    · simp only [h, if_false]
      exact ⟨fun e => absurd (cmpI_zero e) h, fun e => absurd e.2.1 (by simp)⟩
theorem cmpI_le {x y : Int} : cmpI x y ≤ 0 ↔ x ≤ y := by
  unfold cmpI
  split
  · omega
  · split <;> omega
theorem ordC_trans {a b c : Cl} (h1 : ordC a b ≤ 0) (h2 : ordC b c ≤ 0) : ordC a c ≤ 0 := by
  have step : ∀ {a b c : Cl}, a.null = b.null → b.null = c.null → ordC a b ≤ 0 → ordC b c ≤ 0 → ordC a c ≤ 0 := by
    intro a b c hab hbc h1 h2
    rw [ordC_null hab] at h1
    rw [ordC_null hbc] at h2
    rw [ordC_null (hab.trans hbc)]
    by_cases e1 : a.num = b.num <;> by_cases e2 : b.num = c.num
    · rw [if_pos e1] at h1; rw [if_pos e2] at h2; rw [if_pos (e1.trans e2)]; exact cmpT_trans h1 h2
    · rw [if_neg e2] at h2
      rw [if_neg (fun e => e2 (e1 ▸ e)), e1]; exact h2
    · rw [if_neg e1] at h1
      rw [if_neg (fun e => e1 (e.trans e2.symm)), ← e2]; exact h1
    · rw [if_neg e1, cmpI_le] at h1
      rw [if_neg e2, cmpI_le] at h2
      rw [if_neg (by omega), cmpI_le]; omega
  cases ha : a.null <;> cases hb : b.null <;> cases hc : c.null
  · exact step (ha.trans hb.symm) (hb.trans hc.symm) h1 h2
  · rw [ordC_ft hb hc] at h2; omega
  · rw [ordC_ft ha hb] at h1; omega
  · rw [ordC_ft ha hb] at h1; omega
  · rw [ordC_tf ha hc]; omega
  · rw [ordC_ft hb hc] at h2; omega
  · rw [ordC_tf ha hc]; omega
  · exact step (ha.trans hb.symm) (hb.trans hc.symm) h1 h2
set_option maxHeartbeats 1000000 in
theorem order_any (a b : Cl) (w : World) : Calls Tryz.prog 114 #[clV a, clV b] w fun e w' => e = .returned (.int .i64 (ordC a b)) ∧ Fr Non w w' := by
  obtain ⟨an, ai, at_⟩ := a
  obtain ⟨bn, bi, bt⟩ := b
  unfold clV clC
  cases an <;> cases bn
  case false.true =>
    go_enter Tryz.func114, Tryz.ntmps114
    go_wp2
    go_ret
    exact ⟨rfl, ((Fr.refl _ _).alloc _).alloc _⟩
  case true.false =>
    go_enter Tryz.func114, Tryz.ntmps114
    go_wp2
    go_ret
    exact ⟨rfl, ((Fr.refl _ _).alloc _).alloc _⟩
  all_goals
    by_cases h : ai = bi
    · have HI := Lib.hid h
      have hb : (ai != bi) = false := by rw [h]; simp
      clear h
      go_enter Tryz.func114, Tryz.ntmps114
      go_wp2_with fail
      refine (cmpt_any at_ bt _).mono ?_
      rintro e w1 ⟨rfl, rfl⟩
      go_wp2
      go_ret
      exact ⟨ret_int (by rw [ordC_mk]; exact (if_pos HI.out).symm), ((Fr.refl _ _).alloc _).alloc _⟩
    · have HI := Lib.hid h
      have hb : (ai != bi) = true := by simpa using h
      clear h
      go_enter Tryz.func114, Tryz.ntmps114
      go_wp2_with fail
      refine (cmpi_any ai bi _).mono ?_
      rintro e w1 ⟨rfl, rfl⟩
      go_wp2
      go_ret
      exact ⟨ret_int (by rw [ordC_mk]; exact (if_neg HI.out).symm), ((Fr.refl _ _).alloc _).alloc _⟩

theorem ordC_of_lt {n : Bool} {i j : Int} {s t : Tx} (h : i < j) : ordC ⟨n, i, s⟩ ⟨n, j, t⟩ = -1 := by
  rw [ordC_mk]; simp only [show ¬ i = j by omega, if_false]; exact cmpI_lt h
theorem ordC_of_gt {n : Bool} {i j : Int} {s t : Tx} (h : j < i) : ordC ⟨n, i, s⟩ ⟨n, j, t⟩ = 1 := by
  rw [ordC_mk]; simp only [show ¬ i = j by omega, if_false]; exact cmpI_gt h
theorem ordC_of_eq {n : Bool} {i : Int} {s t : Tx} : ordC ⟨n, i, s⟩ ⟨n, i, t⟩ = cmpT s t := by rw [ordC_mk]; simp

set_option maxHeartbeats 1000000 in
theorem rorder_any (a b : Cl) (w : World) : Calls Tryz.prog 71 #[clV a, clV b] w fun e w' => e = .returned (.int .i64 (ordC a b)) ∧ Fr Non w w' := by
  obtain ⟨an, ai, at_⟩ := a
  obtain ⟨bn, bi, bt⟩ := b
  unfold clV clC
  cases an <;> cases bn
  case false.true =>
    go_enter Tryz.func71, Tryz.ntmps71
    go_wp2
    go_ret
    exact ⟨rfl, ((Fr.refl _ _).alloc _).alloc _⟩
  case true.false =>
    go_enter Tryz.func71, Tryz.ntmps71
    go_wp2
    go_ret
    exact ⟨rfl, ((Fr.refl _ _).alloc _).alloc _⟩
  all_goals
    rcases Int.lt_trichotomy ai bi with h | h | h
    · go_enter Tryz.func71, Tryz.ntmps71
      go_wp2
      go_ret
      exact ⟨ret_int (ordC_of_lt h).symm, ((Fr.refl _ _).alloc _).alloc _⟩
    · subst h
      rcases tx_tri at_ bt with hl | hl | hl
      · have h1 := less_lt hl
        have H := Lib.hid (cmpT_lt hl)
        clear hl
        go_enter Tryz.func71, Tryz.ntmps71
        go_wp2
        go_ret
        exact ⟨ret_int (by rw [ordC_of_eq, H.out]), ((Fr.refl _ _).alloc _).alloc _⟩
      · subst hl
        have h1 := less_self at_
        have H := Lib.hid (cmpT_self at_)
        go_enter Tryz.func71, Tryz.ntmps71
        go_wp2
        go_ret
        exact ⟨ret_int (by rw [ordC_of_eq, H.out]), ((Fr.refl _ _).alloc _).alloc _⟩
      · obtain ⟨h1, h2⟩ := less_gt hl
        have H := Lib.hid (cmpT_gt hl)
        clear hl
        go_enter Tryz.func71, Tryz.ntmps71
        go_wp2
        go_ret
        exact ⟨ret_int (by rw [ordC_of_eq, H.out]), ((Fr.refl _ _).alloc _).alloc _⟩
    · go_enter Tryz.func71, Tryz.ntmps71
      go_wp2
      go_ret
      exact ⟨ret_int (ordC_of_gt h).symm, ((Fr.refl _ _).alloc _).alloc _⟩
end Go.Proofs.YtheefloegbkflaaGreatDoor


namespace Go.Proofs.YtheefloegbkflaaGreatDoor
set_option linter.unusedVariables false
set_option linter.unusedSimpArgs false
set_option maxRecDepth 100000
open Go.RowKit

/-- a zone: how many cells, how many of them null, the least and the greatest of the others -/
structure Zn where
  rows : Int
  nulls : Int
  low : Cl
  high : Cl
  deriving DecidableEq
/-- its cells, and its value -/
def znC (z : Zn) : Array Value := #[.int .i64 z.rows, .int .i64 z.nulls, .bool z.low.null, .int .i64 z.low.num, .string ⟨z.low.txt.toArray⟩, .bool z.high.null, .int .i64 z.high.num, .string ⟨z.high.txt.toArray⟩]
def znV (z : Zn) : Value := .agg (znC z)
def noCl : Cl := ⟨false, 0, []⟩
def noZn : Zn := ⟨0, 0, noCl, noCl⟩
def zeq (a b : Zn) : Bool := decide (a = b)
theorem zeq_self (a : Zn) : zeq a a = true := by simp [zeq]
theorem zeq_parts (a b : Zn) : zeq a b = (a.rows == b.rows && (a.nulls == b.nulls && (a.low.null == b.low.null && (a.low.num == b.low.num && (a.low.txt == b.low.txt && (a.high.null == b.high.null && (a.high.num == b.high.num && a.high.txt == b.high.txt))))))) := by
  obtain ⟨ar, an, ⟨aln, ali, alt⟩, ⟨ahn, ahi, aht⟩⟩ := a
  obtain ⟨br, bn, ⟨bln, bli, blt⟩, ⟨bhn, bhi, bht⟩⟩ := b
  unfold zeq
  rw [Bool.eq_iff_iff]
  simp [and_assoc]

/-- the zone z lies in block g -/
abbrev ZnB (w : World) (g : Nat) (z : Zn) : Prop := Blk w g 56 (znC z)
/-- what a walk asks of it -/
def ZCells (w : World) (g : Nat) (z : Zn) : Prop :=
  w.cell? ⟨g, 0, none⟩ = some (.int .i64 z.rows) ∧ w.cell? ⟨g, 1, none⟩ = some (.int .i64 z.nulls) ∧
  w.cell? ⟨g, 2, none⟩ = some (.bool z.low.null) ∧ w.cell? ⟨g, 3, none⟩ = some (.int .i64 z.low.num) ∧ w.cell? ⟨g, 4, none⟩ = some (.string ⟨z.low.txt.toArray⟩) ∧
  w.cell? ⟨g, 5, none⟩ = some (.bool z.high.null) ∧ w.cell? ⟨g, 6, none⟩ = some (.int .i64 z.high.num) ∧ w.cell? ⟨g, 7, none⟩ = some (.string ⟨z.high.txt.toArray⟩)
def ZFroz (w : World) (g : Nat) : Prop :=
  w.frozen? ⟨g, 0, none⟩ = false ∧ w.frozen? ⟨g, 1, none⟩ = false ∧ w.frozen? ⟨g, 2, none⟩ = false ∧ w.frozen? ⟨g, 3, none⟩ = false ∧
  w.frozen? ⟨g, 4, none⟩ = false ∧ w.frozen? ⟨g, 5, none⟩ = false ∧ w.frozen? ⟨g, 6, none⟩ = false ∧ w.frozen? ⟨g, 7, none⟩ = false
theorem znB_cells {w : World} {g : Nat} {z : Zn} (h : ZnB w g z) : ZCells w g z :=
  ⟨h.cell 0, h.cell 1, h.cell 2, h.cell 3, h.cell 4, h.cell 5, h.cell 6, h.cell 7⟩
theorem znB_froz {w : World} {g : Nat} {z : Zn} (h : ZnB w g z) : ZFroz w g :=
  ⟨h.frozen 0, h.frozen 1, h.frozen 2, h.frozen 3, h.frozen 4, h.frozen 5, h.frozen 6, h.frozen 7⟩
/-- a zone, and behind it a cell -/
structure ZnCl (w : World) (g : Nat) (z : Zn) (c : Cl) : Prop where
  one : ZnB w g z
  two : ClB w (g + 1) c
theorem ZnCl.non {w w' : World} {g : Nat} {z : Zn} {c : Cl} (h : ZnCl w g z c) (hf : Fr Non w w') : ZnCl w' g z c := ⟨h.one.fr hf (fun e => e), h.two.fr hf (fun e => e)⟩
/-! ### Which zones there may be -/
/-- is there a least and a greatest? -/
def bndZ (z : Zn) : Bool := decide (z.nulls < z.rows)
def cntZ (z : Zn) : Bool := decide (0 ≤ z.nulls ∧ z.nulls ≤ z.rows ∧ z.rows ≤ 4096)
def mayZ (ty : Int) (z : Zn) : Bool :=
  cntZ z && isTy ty && (if bndZ z then mayC ty false z.low && mayC ty false z.high && decide (ordC z.low z.high ≤ 0) else ceq z.low noCl && ceq z.high noCl)
theorem bnd_any (z : Zn) (w : World) : Calls Tryz.prog 60 #[znV z] w fun e w' => e = .returned (.bool (bndZ z)) ∧ Fr Non w w' := by
  unfold znV znC
  go_enter Tryz.func60, Tryz.ntmps60
  go_wp2
  go_ret
  exact ⟨rfl, (Fr.refl _ _).alloc _⟩

theorem cnt_zn (z : Zn) (w : World) : Calls Tryz.prog 111 #[znV z] w fun e w' => e = .returned (.bool (cntZ z)) ∧ Fr Non w w' := by
  unfold znV znC
  go_enter Tryz.func111, Tryz.ntmps111
  go_wp2
  all_goals
    go_ret
    exact ⟨ret_boolE (by unfold cntZ; first | (simp_all; done) | (simp_all; omega) | (simp; omega)), (Fr.refl _ _).alloc _⟩

theorem ist_zn (ty : Int) (w : World) : Calls Tryz.prog 112 #[.int .i64 ty] w fun e w' => e = .returned (.bool (isTy ty)) ∧ Fr Non w w' := by
  have HM := Lib.hid (may_any ty true ⟨true, 0, []⟩ w)
  have e1 : mayC ty true ⟨true, 0, []⟩ = isTy ty := by simp [mayC]
  rw [e1] at HM
  clear e1
  go_enter Tryz.func112, Tryz.ntmps112
  go_wp2_with fail
  refine HM.out.mono ?_
  rintro e w1 ⟨rfl, f1⟩
  go_wp2
  go_ret
  exact ⟨rfl, f1⟩
end Go.Proofs.YtheefloegbkflaaGreatDoor


namespace Go.Proofs.YtheefloegbkflaaGreatDoor
set_option linter.unusedVariables false
set_option linter.unusedSimpArgs false
set_option maxRecDepth 100000
open Go.RowKit

def liveC (l : List Cl) : List Cl := l.filter (fun c => !c.null)
def nulC (l : List Cl) : Nat := (l.filter (fun c => c.null)).length
theorem nulC_rest (l : List Cl) : nulC l + (liveC l).length = l.length := by
  unfold nulC liveC
  induction l with
  | nil => rfl
  | cons c l ih => cases h : c.null <;> simp [h] <;> omega
theorem liveC_app (l m : List Cl) : liveC (l ++ m) = liveC l ++ liveC m := by simp [liveC]
theorem nulC_app (l m : List Cl) : nulC (l ++ m) = nulC l + nulC m := by simp [nulC]
theorem liveC_null {c : Cl} (h : c.null = true) : liveC [c] = [] := by simp [liveC, h]
theorem liveC_one {c : Cl} (h : c.null = false) : liveC [c] = [c] := by simp [liveC, h]
theorem nulC_null {c : Cl} (h : c.null = true) : nulC [c] = 1 := by simp [nulC, h]
theorem nulC_one {c : Cl} (h : c.null = false) : nulC [c] = 0 := by simp [nulC, h]
theorem mem_liveC {l : List Cl} {c : Cl} : c ∈ liveC l ↔ c ∈ l ∧ c.null = false := by simp [liveC]

/-- lo and hi are the least and the greatest of l -/
def Bnds (l : List Cl) (lo hi : Cl) : Prop := (l = [] ∧ lo = noCl ∧ hi = noCl) ∨ (lo ∈ l ∧ hi ∈ l ∧ ∀ c ∈ l, ordC lo c ≤ 0 ∧ ordC c hi ≤ 0)
theorem ordC_self (a : Cl) : ordC a a = 0 := by
  have := ordC_zero a a
  rw [ceq_self] at this; simpa using this
theorem ordC_asym {a b : Cl} (h1 : ordC a b ≤ 0) (h2 : ordC b a ≤ 0) : a = b := by
  rw [ordC_neg a b] at h2
  have := ordC_zero a b
  rw [show ordC a b = 0 by omega] at this
  exact ceq_is this.symm
theorem bnds_uniq {l : List Cl} {lo hi lo' hi' : Cl} (h : Bnds l lo hi) (h' : Bnds l lo' hi') : lo = lo' ∧ hi = hi' := by
  rcases h with ⟨e, h1, h2⟩ | ⟨h1, h2, h3⟩
  · rcases h' with ⟨_, h1', h2'⟩ | ⟨h1', _, _⟩
    · exact ⟨h1.trans h1'.symm, h2.trans h2'.symm⟩
    · rw [e] at h1'; cases h1'
  · rcases h' with ⟨e, _, _⟩ | ⟨h1', h2', h3'⟩
    · rw [e] at h1; cases h1
    · exact ⟨ordC_asym (h3 _ h1').1 (h3' _ h1).1, ordC_asym (h3' _ h2).2 (h3 _ h2').2⟩
theorem bnds_step {l : List Cl} {lo hi : Cl} (h : Bnds l lo hi) (c : Cl) :
    Bnds (l ++ [c]) (if (l.isEmpty || decide (ordC c lo < 0)) = true then c else lo) (if (l.isEmpty || decide (0 < ordC c hi)) = true then c else hi) := by
  rcases h with ⟨rfl, _, _⟩ | ⟨h1, h2, h3⟩
  · right
    simp [ordC_self]
  · right
    have he : l.isEmpty = false := by cases l with
      | nil => cases h1
      | cons _ _ => rfl
    rw [he]
    simp only [Bool.false_or, decide_eq_true_eq]
    refine ⟨?_, ?_, ?_⟩
    · split <;> simp [h1]
    · split <;> simp [h2]
    · intro d hd
      rw [List.mem_append, List.mem_singleton] at hd
      have n1 := ordC_neg c lo
      have n2 := ordC_neg c hi
      rcases hd with hd | rfl
      · obtain ⟨q1, q2⟩ := h3 d hd
        constructor
        · split
          · exact ordC_trans (by omega) q1
          · exact q1
        · split
          · exact ordC_trans q2 (by omega)
          · exact q2
      · constructor
        · split
          · exact Int.le_of_eq (ordC_self _)
          · omega
        · split
          · exact Int.le_of_eq (ordC_self _)
          · omega

/-- a zone with one cell more noted -/
def noteZ (first : Bool) (z : Zn) (c : Cl) : Zn :=
  ⟨z.rows, z.nulls, if (first || decide (ordC c z.low < 0)) = true then c else z.low, if (first || decide (0 < ordC c z.high)) = true then c else z.high⟩
/-- z bounds l, which is empty if first is so -/
structure JInv (r n : Int) (l : List Cl) (z : Zn) (first : Bool) : Prop where
  rows : z.rows = r
  nulls : z.nulls = n
  first : first = l.isEmpty
  bnds : Bnds l z.low z.high
theorem jinv_start (r n : Int) : JInv r n [] ⟨r, n, noCl, noCl⟩ true := ⟨rfl, rfl, rfl, .inl ⟨rfl, rfl, rfl⟩⟩
theorem jinv_note {r n : Int} {l : List Cl} {z : Zn} {first : Bool} (h : JInv r n l z first) (c : Cl) : JInv r n (l ++ [c]) (noteZ first z c) false := by
  obtain ⟨h1, h2, rfl, h4⟩ := h
  exact ⟨h1, h2, by simp, bnds_step h4 c⟩
theorem jinv_null {r n m : Int} {l : List Cl} {z : Zn} {first : Bool} (h : JInv r n l z first) (hm : m = n + 1) : JInv r m l ⟨z.rows, z.nulls + 1, z.low, z.high⟩ first :=
  ⟨h.rows, by rw [hm, ← h.nulls], h.first, h.bnds⟩

/-- z is the zone of l -/
structure IsOf (l : List Cl) (z : Zn) : Prop where
  rows : z.rows = l.length
  nulls : z.nulls = nulC l
  bnds : Bnds (liveC l) z.low z.high
theorem isOf_uniq {l : List Cl} {z y : Zn} (h : IsOf l z) (h' : IsOf l y) : z = y := by
  obtain ⟨e1, e2⟩ := bnds_uniq h.bnds h'.bnds
  have e3 := h.rows.trans h'.rows.symm
  have e4 := h.nulls.trans h'.nulls.symm
  obtain ⟨r, n, lo, hi⟩ := z
  obtain ⟨r', n', lo', hi'⟩ := y
  dsimp only at *
  rw [e1, e2, e3, e4]
theorem jinv_end {l : List Cl} {z : Zn} {first : Bool} (h : JInv l.length (nulC l) (liveC l) z first) : IsOf l z := ⟨h.rows, h.nulls, h.bnds⟩
theorem jinv_yes {n : Int} {l : List Cl} {z : Zn} {first : Bool} {k : Nat} (hk : k < l.length) (h : JInv n (nulC (l.take k)) (liveC (l.take k)) z first) (hn : l[k].null = true) :
    JInv n (nulC (l.take (k + 1))) (liveC (l.take (k + 1))) ⟨z.rows, z.nulls + 1, z.low, z.high⟩ first := by
  rw [List.take_succ_eq_append_getElem hk, liveC_app, nulC_app, liveC_null hn, nulC_null hn, List.append_nil]
  exact jinv_null h (by simp)
theorem jinv_no {n : Int} {l : List Cl} {z : Zn} {first : Bool} {k : Nat} (hk : k < l.length) (h : JInv n (nulC (l.take k)) (liveC (l.take k)) z first) (hn : l[k].null = false) :
    JInv n (nulC (l.take (k + 1))) (liveC (l.take (k + 1))) (noteZ first z l[k]) false := by
  rw [List.take_succ_eq_append_getElem hk, liveC_app, nulC_app, liveC_one hn, nulC_one hn]
  exact jinv_note h _
theorem jinv_le {n : Int} {l : List Cl} {z : Zn} {first : Bool} {k : Nat} (hk : k ≤ l.length) (h : JInv n (nulC (l.take k)) (liveC (l.take k)) z first) : 0 ≤ z.nulls ∧ z.nulls ≤ k := by
  have e := nulC_rest (l.take k)
  rw [List.length_take, Nat.min_eq_left hk] at e
  rw [h.nulls]
  omega

/-! ### What follows -/
theorem isOf_bnd {l : List Cl} {z : Zn} (h : IsOf l z) : bndZ z = !(liveC l).isEmpty := by
  have e := nulC_rest l
  unfold bndZ
  rw [h.rows, h.nulls]
  cases hr : liveC l with
  | nil => rw [hr] at e; simp at e; simp; omega
  | cons a m => rw [hr] at e; simp at e; simp; omega
theorem mayC_false {ty : Int} {c : Cl} (h : mayC ty true c = true) (hn : c.null = false) : mayC ty false c = true := by
  unfold mayC at *
  rw [hn] at h ⊢
  exact h
theorem isOf_may {ty : Int} {l : List Cl} {z : Zn} (h : IsOf l z) (ht : isTy ty = true) (hm : ∀ c ∈ l, mayC ty true c = true) (hl : l.length ≤ 4096) : mayZ ty z = true := by
  have e := nulC_rest l
  have hc : cntZ z = true := decide_eq_true (by rw [h.rows, h.nulls]; omega)
  unfold mayZ
  rw [hc, ht, isOf_bnd h]
  rcases h.bnds with ⟨q, q1, q2⟩ | ⟨h1, h2, h3⟩
  · rw [q, q1, q2]; simp [ceq_self]
  · have he : (liveC l).isEmpty = false := by cases hx : liveC l with
      | nil => rw [hx] at h1; cases h1
      | cons _ _ => rfl
    rw [he]
    obtain ⟨m1, n1⟩ := mem_liveC.1 h1
    obtain ⟨m2, n2⟩ := mem_liveC.1 h2
    simp [mayC_false (hm _ m1) n1, mayC_false (hm _ m2) n2, (h3 _ h2).1]
end Go.Proofs.YtheefloegbkflaaGreatDoor


namespace Go.Proofs.YtheefloegbkflaaGreatDoor
set_option linter.unusedVariables false
set_option linter.unusedSimpArgs false
set_option maxRecDepth 100000
open Go.RowKit

theorem gOnes_put : ∀ (l : List Int), (∀ x ∈ l, I64 x) → gOnes l.length (onesN l) = some l
  | [], _ => gOnes_nil
  | x :: l, h => by
    have hx := h x (by simp)
    rw [onesN_cons, List.length_cons, gOnes_some (rd_own (zig_lt hx.1 hx.2) _), unzig_zig, gOnes_put l (fun y hy => h y (by simp [hy]))]
    rfl
theorem numG_put {k : Nat} {l : List Int} (hl : l.length ≤ 4096) (hx : ∀ x ∈ l, I64 x) : numG k (numW k l) l.length = some l := by
  unfold numG numW
  by_cases h1 : k = 1
  · simp only [if_pos h1]; exact gOnes_put l hx
  · simp only [if_neg h1]
    by_cases h2 : k = 2
    · simp only [if_pos h2]; exact gtM_put hl hx
    · simp only [if_neg h2]
      by_cases h3 : k = 3
      · simp only [if_pos h3]; exact gdz_put hx
      · simp only [if_neg h3]; exact getM_put hl hx
theorem txtG_put {k : Nat} {l : List Tx} (hl : l.length ≤ 4096) (hx : ∀ x ∈ l, x.length ≤ 40) : txtG k (txtW k l) l.length = some l := by
  have hu : ∀ x ∈ l, (x.length : Int) ≤ 40 ∧ x.length < two64 := fun x h => by have := hx x h; unfold two64; omega
  unfold txtG txtW
  by_cases h1 : k = 5
  · simp only [if_pos h1]; exact textsM_own hl hu
  · simp only [if_neg h1]; exact dgetM_own hl hu
/-- what cells that are not null are, by type -/
theorem mayC_parts {ty : Int} {c : Cl} (h : mayC ty false c = true) : c.null = false ∧ (ty = 1 ∨ ty = 2 ∨ ty = 3) ∧ (ty ≠ 3 → c = numC c.num) ∧ (ty = 3 → c = txtC c.txt ∧ c.txt.length ≤ 40) := by
  obtain ⟨n, i, t⟩ := c
  unfold mayC isTy at h
  cases n with
  | true => simp at h
  | false =>
    simp only [Bool.and_eq_true, Bool.or_eq_true, beq_iff_eq, Bool.false_eq_true, if_false] at h
    obtain ⟨h1, h2⟩ := h
    refine ⟨rfl, by omega, fun h3 => ?_, fun h3 => ?_⟩
    · rw [if_neg h3] at h2
      simp at h2
      unfold numC
      rw [h2.1]
    · rw [if_pos h3] at h2
      simp at h2
      unfold txtC
      exact ⟨by rw [h2.1], h2.2⟩
theorem wayG_put {ty : Int} {k : Nat} {l : List Cl} (hk : k ∈ waysOf ty) (hl : l.length ≤ 4096) (hm : ∀ c ∈ l, mayC ty false c = true ∧ I64 c.num) : wayG k (wayB k l) l.length = some l := by
  unfold wayG wayB
  have hty : (ty = 3 ∧ 5 ≤ k) ∨ (ty ≠ 3 ∧ k ≤ 4) := by
    unfold waysOf at hk
    split at hk
    · simp at hk; omega
    · split at hk
      · simp at hk; omega
      · simp at hk
  rcases hty with ⟨h3, h5⟩ | ⟨h3, h4⟩
  · rw [if_neg (by omega), if_neg (by omega)]
    have e : l.map (fun c => txtC c.txt) = l := by
      have : ∀ c ∈ l, (fun c : Cl => txtC c.txt) c = id c := fun c hc => ((mayC_parts (hm c hc).1).2.2.2 h3).1.symm
      rw [List.map_congr_left this, List.map_id]
    have := txtG_put (k := k) (l := l.map Cl.txt) (by rw [List.length_map]; exact hl) (fun x hx => by
      obtain ⟨c, hc, rfl⟩ := List.mem_map.1 hx
      exact ((mayC_parts (hm c hc).1).2.2.2 h3).2)
    rw [List.length_map] at this
    rw [this, Option.map_some, List.map_map]
    exact congrArg some e
  · rw [if_pos h4, if_pos h4]
    have e : l.map (fun c => numC c.num) = l := by
      have : ∀ c ∈ l, (fun c : Cl => numC c.num) c = id c := fun c hc => ((mayC_parts (hm c hc).1).2.2.1 h3).symm
      rw [List.map_congr_left this, List.map_id]
    have := numG_put (k := k) (l := l.map Cl.num) (by rw [List.length_map]; exact hl) (fun x hx => by
      obtain ⟨c, hc, rfl⟩ := List.mem_map.1 hx
      exact (hm c hc).2)
    rw [List.length_map] at this
    rw [this, Option.map_some, List.map_map]
    exact congrArg some e
/-- which way is taken -/
theorem shortC_way (l : List Cl) : ∀ (ks : List Nat) (n : Nat) (b : List UInt8), shortC l ks (n, b) = (n, b) ∨ ∃ k ∈ ks, shortC l ks (n, b) = (k, wayB k l)
  | [], n, b => .inl rfl
  | k :: ks, n, b => by
    rw [shortC]
    split
    · rcases shortC_way l ks k (wayB k l) with h | ⟨j, hj, h⟩
      · exact .inr ⟨k, by simp, h⟩
      · exact .inr ⟨j, by simp [hj], h⟩
    · rcases shortC_way l ks n b with h | ⟨j, hj, h⟩
      · exact .inl h
      · exact .inr ⟨j, by simp [hj], h⟩
theorem shortC_some (l : List Cl) {ks : List Nat} (h : ks ≠ []) (h0 : ∀ k ∈ ks, k ≠ 0) : ∃ k ∈ ks, shortC l ks (0, []) = (k, wayB k l) := by
  rcases shortC_way l ks 0 [] with h1 | h1
  · obtain ⟨k, hk⟩ := List.exists_mem_of_ne_nil ks h
    have := ((shortC_le l ks 0 [] h0).2 k hk).2
    rw [h1] at this
    exact absurd rfl this
  · exact h1
theorem cnt_others : ∀ l : List Cl, (othersC l).length + cnt (nullsC l) = l.length
  | [] => rfl
  | c :: l => by
    have ih := cnt_others l
    unfold othersC nullsC at *
    rw [List.map_cons, cnt_cons, List.filter_cons]
    cases hn : c.null <;> simp <;> omega
theorem joinC_own {ty : Int} : ∀ l : List Cl, (∀ c ∈ l, mayC ty true c = true) → joinC (nullsC l) (othersC l) = l
  | [], _ => rfl
  | c :: l, h => by
    have ih := joinC_own l fun x hx => h x (by simp [hx])
    have hc := h c (by simp)
    obtain ⟨n, i, t⟩ := c
    unfold nullsC othersC at *
    cases n with
    | true =>
      unfold mayC at hc
      simp at hc
      obtain ⟨_, rfl, rfl⟩ := hc
      rw [List.map_cons, List.filter_cons]
      simp only [Bool.not_true, Bool.false_eq_true, if_false]
      unfold joinC
      rw [ih]
    | false =>
      rw [List.map_cons, List.filter_cons]
      simp only [Bool.not_false, if_true]
      unfold joinC
      simp only [List.headD_cons, List.tail_cons]
      rw [ih]
theorem nullsC_none {l : List Cl} (h : (othersC l).length = l.length) : nullsC l = List.replicate l.length false := by
  have h0 := cnt_others l
  have hz : cnt (nullsC l) = 0 := by omega
  refine List.eq_replicate_iff.2 ⟨by simp [nullsC], fun b hb => ?_⟩
  unfold cnt at hz
  have := List.filter_eq_nil_iff.1 (List.eq_nil_of_length_eq_zero hz) b hb
  simpa using this
theorem u8_small {k : Nat} (h : k < 256) : k.toUInt8.toNat = k := small8 h
/-- what is put is got -/
theorem getC_put {ty : Int} {l : List Cl} (ht : isTy ty = true) (hl : l.length ≤ 4096) (hm : ∀ c ∈ l, mayC ty true c = true ∧ I64 c.num) : getC ty (putC ty l) l.length = some l := by
  have hw := waysOf_good ht
  obtain ⟨k, hk, hsh⟩ := shortC_some (othersC l) hw (fun k hk => by have := waysOf_pos ty k hk; omega)
  obtain ⟨k1, k6⟩ := waysOf_pos ty k hk
  have ho : ∀ c ∈ othersC l, mayC ty false c = true ∧ I64 c.num := by
    intro c hc
    obtain ⟨h1, h2⟩ := List.mem_filter.1 hc
    exact ⟨mayC_false (hm c h1).1 (by simpa using h2), (hm c h1).2⟩
  have hol : (othersC l).length ≤ l.length := List.length_filter_le _ _
  have hg := wayG_put hk (l := othersC l) (by omega) ho
  have hr := readC_yes hk hg (List.all_eq_true.2 fun c hc => (ho c hc).1)
  have hj := joinC_own l fun c hc => (hm c hc).1
  have hcn := cnt_others l
  unfold putC
  rw [hsh]
  dsimp only
  rw [if_neg (by omega)]
  by_cases hs : (othersC l).length = l.length
  · rw [if_pos hs]
    have hx : k.toUInt8.toNat = k := u8_small (by omega)
    have hn := openC_none (c := k.toUInt8) (wayB k (othersC l)) l.length (by unfold someN; rw [hx, beq_eq_false_iff_ne]; omega)
    have hkd : kindB (k.toUInt8 :: wayB k (othersC l)) = k := by
      show kindC k.toUInt8 = k
      unfold kindC; rw [hx, if_pos (by omega)]; omega
    rw [getC_open hl hn, hkd, ← nullsC_none hs, show l.length - cnt (nullsC l) = (othersC l).length by omega, hr, Option.map_some, hj]
  · rw [if_neg hs]
    have hx : (k + 8).toUInt8.toNat = k + 8 := u8_small (by omega)
    have hpl : (packB (nullsC l)).length = need l.length := by rw [packB_length]; unfold nullsC; rw [List.length_map]
    have hnl : (nullsC l).length = l.length := by simp [nullsC]
    have htk : (packB (nullsC l) ++ wayB k (othersC l)).take (need l.length) = packB (nullsC l) := by rw [← hpl, List.take_left]
    have hdr : (packB (nullsC l) ++ wayB k (othersC l)).drop (need l.length) = wayB k (othersC l) := by rw [← hpl, List.drop_left]
    have hun : unp (packB (nullsC l)) l.length = nullsC l := by rw [← hnl]; exact unp_pack _
    have hn := openC_yes (c := (k + 8).toUInt8) (r := packB (nullsC l) ++ wayB k (othersC l)) (n := l.length) (by unfold someN; rw [hx, beq_iff_eq]; omega) (by rw [List.length_append]; omega)
      (by rw [htk, ← hnl]; exact pack_fit _) (by rw [htk, hun]; omega)
    rw [htk, hdr, hun] at hn
    have hkd : kindB ((k + 8).toUInt8 :: (packB (nullsC l) ++ wayB k (othersC l))) = k := by
      show kindC (k + 8).toUInt8 = k
      unfold kindC; rw [hx, if_pos (by omega)]; omega
    rw [getC_open hl hn, hkd, show l.length - cnt (nullsC l) = (othersC l).length by omega, hr, Option.map_some, hj]
theorem putC_pos {ty : Int} {l : List Cl} (ht : isTy ty = true) : 0 < (putC ty l).length := by
  obtain ⟨k, hk, hsh⟩ := shortC_some (othersC l) (waysOf_good ht) (fun k hk => by have := waysOf_pos ty k hk; omega)
  have := waysOf_pos ty k hk
  unfold putC
  rw [hsh]
  dsimp only
  rw [if_neg (by omega)]
  split <;> simp
/-- how many bytes it has at most -/
theorem putC_len {ty : Int} {l : List Cl} (ht : isTy ty = true) (hm : ∀ c ∈ l, mayC ty true c = true ∧ I64 c.num) : (putC ty l).length ≤ 2 + 51 * l.length := by
  have ho : ∀ c ∈ othersC l, mayC ty false c = true ∧ I64 c.num := by
    intro c hc
    obtain ⟨h1, h2⟩ := List.mem_filter.1 hc
    exact ⟨mayC_false (hm c h1).1 (by simpa using h2), (hm c h1).2⟩
  have hol : (othersC l).length ≤ l.length := List.length_filter_le _ _
  have hle := (shortC_le (othersC l) (waysOf ty) 0 [] (fun k hk => by have := waysOf_pos ty k hk; omega)).2
  have hb : (shortC (othersC l) (waysOf ty) (0, [])).2.length ≤ 50 * l.length := by
    by_cases h3 : ty = 3
    · have h := (hle 5 (by rw [h3, waysOf_txt]; simp)).1
      have h2 := plainB_bound (l := (othersC l).map Cl.txt) (B := 40) (fun x hx => by
        obtain ⟨c, hc, rfl⟩ := List.mem_map.1 hx
        exact ((mayC_parts (ho c hc).1).2.2.2 h3).2) (by unfold two64; omega)
      rw [List.length_map] at h2
      have e : wayB 5 (othersC l) = plainB ((othersC l).map Cl.txt) := rfl
      rw [e] at h
      omega
    · have h12 : ty = 1 ∨ ty = 2 := by simp [isTy] at ht; omega
      have h := (hle 1 (by rw [waysOf_num h12]; simp)).1
      have h2 := onesN_len ((othersC l).map Cl.num) (fun x hx => by
        obtain ⟨c, hc, rfl⟩ := List.mem_map.1 hx
        exact (ho c hc).2)
      rw [List.length_map] at h2
      have e : wayB 1 (othersC l) = onesN ((othersC l).map Cl.num) := rfl
      rw [e] at h
      omega
  have hpl : (packB (nullsC l)).length = need l.length := by rw [packB_length]; unfold nullsC; rw [List.length_map]
  have hnd : need l.length ≤ l.length + 1 := by unfold need; omega
  unfold putC
  generalize shortC (othersC l) (waysOf ty) (0, []) = sh at *
  split
  · simp
  · split
    · rw [List.length_cons]; omega
    · rw [List.length_cons, List.length_append]; omega

end Go.Proofs.YtheefloegbkflaaGreatDoor


namespace Go.Proofs.YtheefloegbkflaaGreatDoor
set_option linter.unusedVariables false
set_option linter.unusedSimpArgs false
set_option maxRecDepth 100000

/-- one bit goes out -/
def st (s : Nat) : Nat := if s % 2 = 1 then s / 2 ^^^ 2197175160 else s / 2
def st8 (s : Nat) : Nat := st (st (st (st (st (st (st (st s)))))))
/-- a byte goes in -/
def by1 (s : Nat) (b : UInt8) : Nat := st8 (s ^^^ b.toNat)
def run (s : Nat) (l : List UInt8) : Nat := l.foldl by1 s
/-- the sum that goes on from a sum -/
def sumOf (s : Nat) (l : List UInt8) : Nat := run (s ^^^ 4294967295) l ^^^ 4294967295

def halfTab : List Int := [0, 274646895, 549293790, 820201905, 1098587580, 1361435347, 1640403810, 1905808397, 2197175160, 2460548119, 2722870694, 2987750089, 3280807620, 3553878443, 3811616794, 4084100981]
def half (i : Nat) : Nat := (halfTab.getD i 0).toNat

theorem xor_mod2 (a b : Nat) : (a ^^^ b) % 2 = if a % 2 = b % 2 then 0 else 1 := by
  have h := Nat.xor_mod_two_eq_one (a := a) (b := b)
  have ha : a % 2 < 2 := Nat.mod_lt _ (by decide)
  have hb : b % 2 < 2 := Nat.mod_lt _ (by decide)
  have hc : (a ^^^ b) % 2 < 2 := Nat.mod_lt _ (by decide)
  by_cases e : a % 2 = b % 2
  · rw [if_pos e]
    by_cases h1 : (a ^^^ b) % 2 = 1
    · have := h.1 h1; omega
    · omega
  · rw [if_neg e]
    apply h.2
    omega
theorem xor_div2 (a b : Nat) : (a ^^^ b) / 2 = a / 2 ^^^ b / 2 := by
  have := Nat.shiftRight_xor_distrib (a := a) (b := b) (i := 1)
  simpa [Nat.shiftRight_eq_div_pow] using this
theorem xor_xor (a b : Nat) : a ^^^ b ^^^ b = a := by rw [Nat.xor_assoc, Nat.xor_self, Nat.xor_zero]

theorem st_xor (a b : Nat) : st (a ^^^ b) = st a ^^^ st b := by
  unfold st
  rw [xor_mod2, xor_div2]
  rcases Nat.mod_two_eq_zero_or_one a with h1 | h1 <;> rcases Nat.mod_two_eq_zero_or_one b with h2 | h2 <;> rw [h1, h2]
  · simp
  · simp [Nat.xor_assoc]
  · simp [Nat.xor_assoc, Nat.xor_comm (b / 2)]
  · simp only [if_true, if_neg (show ¬ (0 : Nat) = 1 by decide)]
    rw [Nat.xor_assoc (a / 2), Nat.xor_comm 2197175160, Nat.xor_assoc (b / 2), Nat.xor_self, Nat.xor_zero]
theorem st8_xor (a b : Nat) : st8 (a ^^^ b) = st8 a ^^^ st8 b := by unfold st8; simp only [st_xor]
theorem st_lt {s : Nat} (h : s < 4294967296) : st s < 4294967296 := by
  unfold st; split
  · exact Nat.xor_lt_two_pow (n := 32) (by omega) (by omega)
  · omega
theorem st8_lt {s : Nat} (h : s < 4294967296) : st8 s < 4294967296 := st_lt (st_lt (st_lt (st_lt (st_lt (st_lt (st_lt (st_lt h)))))))
theorem u8_lt (b : UInt8) : b.toNat < 256 := b.toNat_lt
theorem xor8_lt {s : Nat} (h : s < 4294967296) (b : UInt8) : s ^^^ b.toNat < 4294967296 := Nat.xor_lt_two_pow (n := 32) h (by have := u8_lt b; omega)
theorem by1_lt {s : Nat} (h : s < 4294967296) (b : UInt8) : by1 s b < 4294967296 := st8_lt (xor8_lt h b)
theorem run_lt : ∀ (l : List UInt8) {s : Nat}, s < 4294967296 → run s l < 4294967296
  | [], _, h => h
  | b :: l, _, h => run_lt l (by1_lt h b)
theorem turn_lt {s : Nat} (h : s < 4294967296) : s ^^^ 4294967295 < 4294967296 := Nat.xor_lt_two_pow (n := 32) h (by omega)
theorem sumOf_lt (l : List UInt8) {s : Nat} (h : s < 4294967296) : sumOf s l < 4294967296 := turn_lt (run_lt l (turn_lt h))
theorem run_app (s : Nat) (l m : List UInt8) : run s (l ++ m) = run (run s l) m := List.foldl_append ..
theorem run_snoc (s : Nat) (l : List UInt8) (b : UInt8) : run s (l ++ [b]) = by1 (run s l) b := by rw [run_app]; rfl
theorem sumOf_app (s : Nat) (l m : List UInt8) : sumOf s (l ++ m) = sumOf (sumOf s l) m := by
  unfold sumOf; rw [run_app, xor_xor]
theorem sumOf_nil (s : Nat) : sumOf s [] = s := xor_xor _ _

/-! ### Four bits at once -/
theorem st_two (q : Nat) : st (2 * q) = q := by
  unfold st; rw [if_neg (by omega)]; omega
theorem half_st (r : Nat) (h : r < 16) : st (st (st (st r))) = half r ∧ half r < 4294967296 := by
  have all : ∀ r : Fin 16, st (st (st (st r.1))) = half r.1 ∧ half r.1 < 4294967296 := by decide
  exact all ⟨r, h⟩
theorem part16 (s : Nat) : s = 2 * (2 * (2 * (2 * (s / 16)))) ^^^ s % 16 := by
  have h : 2 * (2 * (2 * (2 * (s / 16)))) = (s / 16) <<< 4 := by rw [Nat.shiftLeft_eq]; omega
  rw [h]
  apply Nat.eq_of_testBit_eq
  intro i
  rw [Nat.testBit_xor, Nat.testBit_shiftLeft, show (16 : Nat) = 2 ^ 4 from rfl, Nat.testBit_div_two_pow, Nat.testBit_mod_two_pow]
  by_cases hi : 4 ≤ i
  · simp [hi, Nat.not_lt.2 hi]
  · simp [hi, Nat.lt_of_not_le hi]
theorem st4_half (s : Nat) : st (st (st (st s))) = s / 16 ^^^ half (s % 16) := by
  conv => lhs; rw [part16 s]
  simp only [st_xor, st_two]
  rw [(half_st _ (Nat.mod_lt _ (by decide))).1]

/-! ### Differences -/
theorem st_ne {s : Nat} (h : s < 4294967296) (hz : s ≠ 0) : st s ≠ 0 := by
  unfold st; split
  · intro e
    have : s / 2 = 2197175160 := by
      have := congrArg (· ^^^ 2197175160) e
      simpa [xor_xor] using this
    omega
  · omega
theorem st8_ne {s : Nat} (h : s < 4294967296) (hz : s ≠ 0) : st8 s ≠ 0 := by
  have h1 := st_lt h; have h2 := st_lt h1; have h3 := st_lt h2; have h4 := st_lt h3; have h5 := st_lt h4; have h6 := st_lt h5; have h7 := st_lt h6
  exact st_ne h7 (st_ne h6 (st_ne h5 (st_ne h4 (st_ne h3 (st_ne h2 (st_ne h1 (st_ne h hz)))))))
/-- what is behind carries a difference on -/
theorem run_diff : ∀ (l : List UInt8) (s d : Nat), run (s ^^^ d) l = run s l ^^^ (l.foldl (fun d _ => st8 d) d)
  | [], _, _ => rfl
  | b :: l, s, d => by
    show run (st8 (s ^^^ d ^^^ b.toNat)) l = run (st8 (s ^^^ b.toNat)) l ^^^ _
    rw [Nat.xor_assoc, Nat.xor_comm d, ← Nat.xor_assoc, st8_xor]
    exact run_diff l _ _
theorem carry_ne : ∀ (l : List UInt8) {d : Nat}, d < 4294967296 → d ≠ 0 → l.foldl (fun d _ => st8 d) d ≠ 0
  | [], _, _, h => h
  | _ :: l, _, hd, h => carry_ne l (st8_lt hd) (st8_ne hd h)
theorem carry_zero : ∀ (l : List UInt8), l.foldl (fun d _ => st8 d) 0 = 0
  | [] => rfl
  | _ :: l => by show l.foldl (fun d _ => st8 d) (st8 0) = 0; rw [show st8 0 = 0 from by decide]; exact carry_zero l

/-- the bytes that turn, as one number -/
def numOf : List UInt8 → Nat
  | [] => 0
  | x :: xs => x.toNat ^^^ 256 * numOf xs
def stN : Nat → Nat → Nat
  | 0, d => d
  | n + 1, d => stN n (st8 d)
theorem st8_256 (q : Nat) : st8 (256 * q) = q := by
  have : 256 * q = 2 * (2 * (2 * (2 * (2 * (2 * (2 * (2 * q))))))) := by omega
  unfold st8; rw [this]; simp only [st_two]
def xors (l xs : List UInt8) : List UInt8 := List.zipWith (· ^^^ ·) l xs
theorem run_xors : ∀ (l xs : List UInt8) (s d : Nat), l.length = xs.length → run (s ^^^ d) (xors l xs) = run s l ^^^ stN l.length (d ^^^ numOf xs)
  | [], [], _, _, _ => by simp [run, xors, stN, numOf]
  | b :: l, x :: xs, s, d, h => by
    show run (st8 (s ^^^ d ^^^ (b ^^^ x).toNat)) (xors l xs) = run (st8 (s ^^^ b.toNat)) l ^^^ stN l.length (st8 (d ^^^ (x.toNat ^^^ 256 * numOf xs)))
    have e : s ^^^ d ^^^ (b ^^^ x).toNat = (s ^^^ b.toNat) ^^^ (d ^^^ x.toNat) := by
      rw [UInt8.toNat_xor]; ac_rfl
    rw [e, st8_xor, run_xors l xs _ _ (by simpa using h), ← Nat.xor_assoc, st8_xor (d ^^^ x.toNat), st8_256]
theorem stN_ne : ∀ (n : Nat) {d : Nat}, d < 4294967296 → d ≠ 0 → stN n d ≠ 0
  | 0, _, _, h => h
  | n + 1, _, hd, h => stN_ne n (st8_lt hd) (st8_ne hd h)
theorem stN_lt : ∀ (n : Nat) {d : Nat}, d < 4294967296 → stN n d < 4294967296
  | 0, _, h => h
  | n + 1, _, h => stN_lt n (st8_lt h)
theorem stN_zero : ∀ (n : Nat), stN n 0 = 0
  | 0 => rfl
  | n + 1 => by show stN n (st8 0) = 0; rw [show st8 0 = 0 from by decide]; exact stN_zero n
theorem xor_add256 (x : UInt8) (q : Nat) : x.toNat ^^^ 256 * q = x.toNat + 256 * q := by
  have hx := u8_lt x
  have h := Nat.shiftLeft_add_eq_or_of_lt (a := q) (b := x.toNat) (i := 8) (by omega)
  apply Nat.eq_of_testBit_eq
  intro i
  rw [Nat.add_comm, show 256 * q = q <<< 8 by rw [Nat.shiftLeft_eq]; omega, h, Nat.testBit_xor, Nat.testBit_or]
  by_cases hi : 8 ≤ i
  · have : Nat.testBit x.toNat i = false := Nat.testBit_lt_two_pow (Nat.lt_of_lt_of_le hx (show 2 ^ 8 ≤ 2 ^ i from Nat.pow_le_pow_right (by decide) hi))
    simp [this]
  · have : Nat.testBit (q <<< 8) i = false := by rw [Nat.testBit_shiftLeft]; simp [hi]
    simp [this]
theorem numOf_lt : ∀ (xs : List UInt8), numOf xs < 256 ^ xs.length
  | [] => by decide
  | x :: xs => by
    have := numOf_lt xs
    have hx := u8_lt x
    show x.toNat ^^^ 256 * numOf xs < 256 ^ (xs.length + 1)
    rw [xor_add256, Nat.pow_succ]; omega
theorem numOf_zero : ∀ (xs : List UInt8), numOf xs = 0 ↔ ∀ x ∈ xs, x = 0
  | [] => by simp [numOf]
  | x :: xs => by
    have ih := numOf_zero xs
    show x.toNat ^^^ 256 * numOf xs = 0 ↔ _
    rw [xor_add256, List.forall_mem_cons, ← ih, ← UInt8.toNat_inj]
    simp; omega

/-- up to four neighbours are turned: another sum -/
theorem tells (p l xs r : List UInt8) (h : l.length = xs.length) (h4 : xs.length ≤ 4) (s : Nat) :
    sumOf s (p ++ (l ++ r)) = sumOf s (p ++ (xors l xs ++ r)) ↔ ∀ x ∈ xs, x = 0 := by
  have hN : numOf xs < 4294967296 := Nat.lt_of_lt_of_le (numOf_lt xs) (Nat.le_trans (Nat.pow_le_pow_right (by decide) h4) (by decide))
  rw [← numOf_zero]
  unfold sumOf
  rw [run_app, run_app, run_app, run_app]
  generalize run (s ^^^ 4294967295) p = A
  have e := run_xors l xs A 0 h
  rw [Nat.xor_zero, Nat.zero_xor] at e
  rw [e, run_diff r]
  generalize run (run A l) r = B
  constructor
  · intro e
    apply Decidable.byContradiction
    intro hz
    have h1 := carry_ne r (stN_lt l.length hN) (stN_ne l.length hN hz)
    apply h1
    have := congrArg (· ^^^ 4294967295) e
    simp only [xor_xor] at this
    have h2 := congrArg (B ^^^ ·) this
    simp only [Nat.xor_self, ← Nat.xor_assoc, Nat.zero_xor] at h2
    exact h2.symm
  · intro e
    rw [e, stN_zero, carry_zero, Nat.xor_zero]

/-! ### The bytes as the law turns them, one by one -/
def mk (b xs : List UInt8) (a k : Nat) : List UInt8 := b.take a ++ (xors ((b.drop a).take k) (xs.take k) ++ b.drop (a + k))
theorem xors_length (l xs : List UInt8) : (xors l xs).length = min l.length xs.length := by simp [xors]
theorem mk_length (b xs : List UInt8) (a k : Nat) (h1 : a + k ≤ b.length) (h2 : k ≤ xs.length) : (mk b xs a k).length = b.length := by
  unfold mk; simp [xors_length]; omega
theorem mk_tells (b xs : List UInt8) (a k : Nat) (h1 : a + k ≤ b.length) (h2 : k ≤ xs.length) (h4 : k ≤ 4) (s : Nat) : sumOf s b = sumOf s (mk b xs a k) ↔ ∀ x ∈ xs.take k, x = 0 := by
  have e : b = b.take a ++ ((b.drop a).take k ++ b.drop (a + k)) := by
    rw [← List.drop_drop, List.take_append_drop, List.take_append_drop]
  have := tells (b.take a) ((b.drop a).take k) (xs.take k) (b.drop (a + k)) (by simp; omega) (by simp; omega) s
  rw [← e] at this
  exact this

end Go.Proofs.YtheefloegbkflaaGreatDoor


namespace Go.Proofs.YtheefloegbkflaaGreatDoor
set_option linter.unusedVariables false
set_option linter.unusedSimpArgs false
set_option maxRecDepth 100000

/-- a sum as four bytes, the lowest first -/
def sum4 (n : Nat) : List UInt8 := [(n % 256).toUInt8, (n / 256 % 256).toUInt8, (n / 65536 % 256).toUInt8, (n / 16777216 % 256).toUInt8]
theorem sum4_length (n : Nat) : (sum4 n).length = 4 := rfl
theorem u8_eq_of {a b : Nat} (ha : a < 256) (hb : b < 256) (h : a.toUInt8 = b.toUInt8) : a = b := by
  have := congrArg UInt8.toNat h
  rwa [toNat_small ha, toNat_small hb] at this
theorem sum4_inj {a b : Nat} (ha : a < 4294967296) (hb : b < 4294967296) (h : sum4 a = sum4 b) : a = b := by
  unfold sum4 at h
  simp only [List.cons.injEq, and_true] at h
  obtain ⟨h0, h1, h2, h3⟩ := h
  have e0 := u8_eq_of (by omega) (by omega) h0
  have e1 := u8_eq_of (by omega) (by omega) h1
  have e2 := u8_eq_of (by omega) (by omega) h2
  have e3 := u8_eq_of (by omega) (by omega) h3
  omega
/-- four bytes as a number -/
def num4 (a b c d : UInt8) : Nat := a.toNat + 256 * b.toNat + 65536 * c.toNat + 16777216 * d.toNat
theorem num4_lt (a b c d : UInt8) : num4 a b c d < 4294967296 := by
  have := a.toNat_lt; have := b.toNat_lt; have := c.toNat_lt; have := d.toNat_lt
  unfold num4; omega
theorem sum4_num4 (a b c d : UInt8) : sum4 (num4 a b c d) = [a, b, c, d] := by
  have ha := a.toNat_lt; have hb := b.toNat_lt; have hc := c.toNat_lt; have hd := d.toNat_lt
  have e : ∀ (n : Nat) (x : UInt8), n = x.toNat → n.toUInt8 = x := by intro n x h; subst h; simp
  unfold sum4 num4
  rw [e _ a (by omega), e _ b (by omega), e _ c (by omega), e _ d (by omega)]
theorem num4_is (a b c d : UInt8) (n : Nat) (hn : n < 4294967296) : (num4 a b c d = n) ↔ ([a, b, c, d] = sum4 n) := by
  constructor
  · intro h; rw [← h, sum4_num4]
  · intro h
    rw [← sum4_num4] at h
    exact sum4_inj (num4_lt _ _ _ _) hn h

/-- a frame's bytes -/
def frameB (l : List UInt8) : List UInt8 := Lib.uvarint l.length ++ (sum4 (sumOf 0 l) ++ l)
/-- the number that a frame's head says, and how many bytes it has: 0, if there is none -/
def hN (l : List UInt8) : Nat := match rd 0 0 l with | none => 0 | some (n, _) => if n ≤ 1048576 then n else 0
def hS (l : List UInt8) : Nat := match rd 0 0 l with | none => 0 | some (n, r) => if n ≤ 1048576 then l.length - r.length else 0
def fits (l : List UInt8) : Bool := decide (hS l ≠ 0 ∧ hS l + 4 + hN l ≤ l.length)
def bodyF (l : List UInt8) : List UInt8 := (l.drop (hS l + 4)).take (hN l)
def sumOk (l : List UInt8) : Bool := (l.drop (hS l)).take 4 == sum4 (sumOf 0 (bodyF l))
def gE (l : List UInt8) : Nat := if fits l then (if sumOk l then 0 else 13) else 2
def gB (l : List UInt8) : List UInt8 := if fits l && sumOk l then bodyF l else []
def gN (l : List UInt8) : Nat := if fits l && sumOk l then hS l + 4 + hN l else 0

theorem uv_len3 {n : Nat} (h : n < 2097152) : (Lib.uvarint n).length ≤ 3 := by
  by_cases h1 : n < 128
  · rw [Lib.uvarint_small h1]; simp
  · rw [Lib.uvarint_big (by omega)]
    by_cases h2 : n / 128 < 128
    · rw [Lib.uvarint_small h2]; simp
    · rw [Lib.uvarint_big (by omega)]
      rw [Lib.uvarint_small (by omega)]; simp
theorem uv_pos (n : Nat) : 1 ≤ (Lib.uvarint n).length := by
  by_cases h1 : n < 128
  · rw [Lib.uvarint_small h1]; simp
  · rw [Lib.uvarint_big (by omega)]; simp
theorem uv_big20 : (Lib.uvarint 1048576).length = 3 := by decide +kernel

theorem hS_le (l : List UInt8) : hS l ≤ l.length := by
  unfold hS; split
  · omega
  · split <;> omega
theorem hN_le (l : List UInt8) : hN l ≤ 1048576 := by
  unfold hN; split
  · omega
  · split <;> omega
theorem head_some {l : List UInt8} {n : Nat} {r : List UInt8} (h : rd 0 0 l = some (n, r)) (hn : n ≤ 1048576) : hN l = n ∧ hS l = l.length - r.length := by
  unfold hN hS; rw [h]; simp [hn]
theorem head_big {l : List UInt8} {n : Nat} {r : List UInt8} (h : rd 0 0 l = some (n, r)) (hn : ¬ n ≤ 1048576) : hN l = 0 ∧ hS l = 0 := by
  unfold hN hS; rw [h]; simp [hn]
theorem head_none {l : List UInt8} (h : rd 0 0 l = none) : hN l = 0 ∧ hS l = 0 := by
  unfold hN hS; rw [h]; exact ⟨rfl, rfl⟩
theorem head_own {n : Nat} (hn : n ≤ 1048576) (r : List UInt8) : hN (Lib.uvarint n ++ r) = n ∧ hS (Lib.uvarint n ++ r) = (Lib.uvarint n).length := by
  have h := rd_own (n := n) (by unfold two64; omega) r
  have h2 := head_some h hn
  refine ⟨h2.1, ?_⟩
  rw [h2.2, List.length_append]; omega

/-- three bytes are enough to tell a head -/
theorem head3 (l : List UInt8) : (mostB (l.take 3) 1048576 = true ∧ hN l = 0 ∧ hS l = 0) ∨
    (mostB (l.take 3) 1048576 = false ∧ mostV (l.take 3) 1048576 = hN l ∧ (l.take 3).length = hS l + (mostR (l.take 3) 1048576).length ∧ 1 ≤ hS l) := by
  cases h3 : rd 0 0 (l.take 3) with
  | none =>
    left
    obtain ⟨h31, h32, h33, h34⟩ := rest_none h3
    refine ⟨?_, ?_⟩
    · unfold mostB; split
      · exact h32
      · rfl
    · cases h : rd 0 0 l with
      | none => exact head_none h
      | some p =>
        obtain ⟨n, r⟩ := p
        by_cases hn : n ≤ 1048576
        · exfalso
          have hl := rd_is h
          have h1 := uv_len3 (n := n) (by omega)
          have ht : l.take 3 = Lib.uvarint n ++ r.take (3 - (Lib.uvarint n).length) := by
            rw [hl, List.take_append, List.take_of_length_le h1]
          rw [ht, rd_own (by unfold two64; omega)] at h3
          cases h3
        · exact head_big h hn
  | some p =>
    obtain ⟨n, r⟩ := p
    obtain ⟨h31, h32, h33, h34⟩ := rest_some h3
    have hlt := rd_lt h3
    have ht := rd_is h3
    have hl : l = Lib.uvarint n ++ (r ++ l.drop 3) := by
      rw [← List.append_assoc, ← ht, List.take_append_drop]
    have h : rd 0 0 l = some (n, r ++ l.drop 3) := by
      conv => lhs; rw [hl]
      exact rd_own hlt _
    by_cases hn : n ≤ 1048576
    · right
      have hok : mostOk (l.take 3) 1048576 = true := by unfold mostOk; rw [decide_eq_true]; rw [h33]; omega
      have hh := head_some h hn
      have hlen : (l.take 3).length = (Lib.uvarint n).length + r.length := by rw [ht, List.length_append]
      have hlen2 : l.length = (Lib.uvarint n).length + (r.length + (l.drop 3).length) := by
        conv => lhs; rw [hl]
        simp only [List.length_append]
      have hp := uv_pos n
      refine ⟨?_, ?_, ?_, ?_⟩
      · unfold mostB; rw [if_pos hok]; exact h32
      · unfold mostV; rw [if_pos hok, h33, hh.1]
      · unfold mostR; rw [if_pos hok, h31, hh.2, List.length_append]; omega
      · rw [hh.2, List.length_append]; omega
    · left
      have hok : mostOk (l.take 3) 1048576 = false := by unfold mostOk; rw [decide_eq_false]; rw [h33]; omega
      refine ⟨?_, head_big h hn⟩
      unfold mostB; rw [hok]; rfl

/-- what the document's source tells of a frame -/
theorem ref_bad (l : List UInt8) : cutB (cutR (mostR l 1048576) 4) (cutB (mostR l 1048576) (mostB l 1048576) 4) (mostV l 1048576) = !fits l := by
  cases h : rd 0 0 l with
  | none =>
    obtain ⟨h1, h2, h3, h4⟩ := rest_none h
    have hh := head_none h
    have : mostB l 1048576 = true := by
      unfold mostB; split
      · exact h2
      · rfl
    unfold fits; rw [this, hh.2]; unfold cutB; simp
  | some p =>
    obtain ⟨n, r⟩ := p
    obtain ⟨h1, h2, h3, h4⟩ := rest_some h
    by_cases hn : n ≤ 1048576
    · have hh := head_some h hn
      have hl := rd_is h
      have hok : mostOk l 1048576 = true := by unfold mostOk; rw [decide_eq_true]; rw [h3]; omega
      have hlen : l.length = (Lib.uvarint n).length + r.length := by rw [← List.length_append, ← hl]
      have hp := uv_pos n
      have hf : fits l = decide (4 + n ≤ r.length) := by
        unfold fits; rw [hh.1, hh.2]
        rw [show l.length - r.length = (Lib.uvarint n).length by omega]
        exact decide_eq_decide.2 ⟨fun h => by omega, fun h => by omega⟩
      unfold mostR mostB mostV; rw [hok, if_pos rfl, if_pos rfl, if_pos rfl, h1, h2, h3, hf]
      clear hf hlen hh hl h h1 h2 h3 h4 hok
      by_cases h4 : 4 ≤ r.length
      · have hc4 : cutOk r 4 = true := by unfold cutOk; rw [decide_eq_true]; omega
        have e4 : cutR r 4 = r.drop 4 := by unfold cutR; rw [hc4]; rfl
        have e5 : cutB r false 4 = false := by unfold cutB; rw [hc4]; rfl
        rw [e4, e5]
        unfold cutB cutOk
        rw [List.length_drop]
        by_cases h5 : 4 + n ≤ r.length
        · rw [decide_eq_true (by omega), decide_eq_true h5]; rfl
        · rw [decide_eq_false (by omega), decide_eq_false h5]; rfl
      · have hc4 : cutOk r 4 = false := by unfold cutOk; rw [decide_eq_false]; omega
        have e5 : cutB r false 4 = true := by unfold cutB; rw [hc4]; rfl
        rw [e5, decide_eq_false (by omega)]
        unfold cutB; simp
    · have hh := head_big h hn
      have hok : mostOk l 1048576 = false := by unfold mostOk; rw [decide_eq_false]; rw [h3]; omega
      unfold mostR mostB mostV fits; rw [hok, hh.2]; unfold cutB; simp

theorem ref_fit {l : List UInt8} (h : fits l = true) : cutT (mostR l 1048576) 4 = (l.drop (hS l)).take 4 ∧ ((l.drop (hS l)).take 4).length = 4 ∧ mostV l 1048576 = hN l ∧
    cutT (cutR (mostR l 1048576) 4) (mostV l 1048576) = bodyF l ∧ cutR (cutR (mostR l 1048576) 4) (mostV l 1048576) = l.drop (hS l + 4 + hN l) ∧ mostB l 1048576 = false := by
  unfold fits at h
  have h0 := of_decide_eq_true h
  cases hr : rd 0 0 l with
  | none => rw [(head_none hr).2] at h0; omega
  | some p =>
    obtain ⟨n, r⟩ := p
    obtain ⟨h1, h2, h3, h4⟩ := rest_some hr
    by_cases hn : n ≤ 1048576
    · have hh := head_some hr hn
      have hl := rd_is hr
      have hok : mostOk l 1048576 = true := by unfold mostOk; rw [decide_eq_true]; rw [h3]; omega
      have hlen : l.length = (Lib.uvarint n).length + r.length := by rw [← List.length_append, ← hl]
      have hs : hS l = (Lib.uvarint n).length := by rw [hh.2]; omega
      have hd : l.drop (hS l) = r := by rw [hs]; conv => lhs; rw [hl]
                                        simp
      have hd4 : l.drop (hS l + 4) = r.drop 4 := by rw [← hd, List.drop_drop]
      have hd5 : l.drop (hS l + 4 + hN l) = (r.drop 4).drop n := by rw [← hd4, List.drop_drop, hh.1]
      have hb : bodyF l = (r.drop 4).take n := by unfold bodyF; rw [hd4, hh.1]
      rw [hd, hd5, hb]
      rw [hs, hh.1] at h0
      have hc4 : cutOk r 4 = true := by unfold cutOk; rw [decide_eq_true]; omega
      have hcn : cutOk (r.drop 4) n = true := by unfold cutOk; rw [decide_eq_true]; rw [List.length_drop]; omega
      unfold mostR mostB mostV
      rw [hok, if_pos rfl, if_pos rfl, if_pos rfl, h1, h2, h3, hh.1]
      have e4 : cutR r 4 = r.drop 4 := by unfold cutR; rw [hc4]; rfl
      refine ⟨?_, ?_, rfl, ?_, ?_, rfl⟩
      · unfold cutT; rw [hc4]; rfl
      · rw [List.length_take]; omega
      · rw [e4]; unfold cutT; rw [hcn]; rfl
      · rw [e4]; unfold cutR; rw [hcn]; rfl
    · rw [(head_big hr hn).2] at h0; omega

/-! ### What is put is got -/
theorem parts_of {n : Nat} (hn : n ≤ 1048576) (q c more : List UInt8) (hq : q.length = 4) (hc : c.length = n) :
    hN (Lib.uvarint n ++ (q ++ (c ++ more))) = n ∧ hS (Lib.uvarint n ++ (q ++ (c ++ more))) = (Lib.uvarint n).length ∧ fits (Lib.uvarint n ++ (q ++ (c ++ more))) = true ∧ bodyF (Lib.uvarint n ++ (q ++ (c ++ more))) = c ∧
      sumOk (Lib.uvarint n ++ (q ++ (c ++ more))) = (q == sum4 (sumOf 0 c)) := by
  obtain ⟨h1, h2⟩ := head_own hn (q ++ (c ++ more))
  have hp := uv_pos n
  have hb : bodyF (Lib.uvarint n ++ (q ++ (c ++ more))) = c := by
    unfold bodyF
    rw [h1, h2, ← List.drop_drop, List.drop_left, ← hq, List.drop_left, ← hc, List.take_left]
  refine ⟨h1, h2, ?_, hb, ?_⟩
  · unfold fits; rw [h1, h2, decide_eq_true]; simp only [List.length_append]; omega
  · unfold sumOk
    rw [hb, h2, List.drop_left, ← hq, List.take_left]
theorem frame_length (l : List UInt8) : (frameB l).length = (Lib.uvarint l.length).length + 4 + l.length := by
  unfold frameB; simp only [List.length_append, sum4_length]; omega
theorem got_own {l : List UInt8} (hl : l.length ≤ 1048576) (more : List UInt8) : gE (frameB l ++ more) = 0 ∧ gB (frameB l ++ more) = l ∧ gN (frameB l ++ more) = (frameB l).length := by
  have e : frameB l ++ more = Lib.uvarint l.length ++ (sum4 (sumOf 0 l) ++ (l ++ more)) := by unfold frameB; simp only [List.append_assoc]
  obtain ⟨h1, h2, h3, h4, h5⟩ := parts_of hl (sum4 (sumOf 0 l)) l more rfl rfl
  have h6 : sumOk (frameB l ++ more) = true := by rw [e, h5, beq_self_eq_true]
  rw [← e] at h1 h2 h3 h4
  unfold gE gB gN
  rw [h3, h6]
  refine ⟨rfl, h4, ?_⟩
  rw [frame_length]
  simp [h1, h2]

/-! ### What is told of a changed body -/
theorem mk_behind (p b xs : List UInt8) (a k : Nat) : mk (p ++ b) xs (p.length + a) k = p ++ mk b xs a k := by
  unfold mk
  have e1 : (p ++ b).take (p.length + a) = p ++ b.take a := by rw [List.take_append, List.take_of_length_le (by omega)]; simp
  have e2 : (p ++ b).drop (p.length + a) = b.drop a := by rw [List.drop_append, List.drop_of_length_le (by omega)]; simp
  have e3 : (p ++ b).drop (p.length + a + k) = b.drop (a + k) := by rw [Nat.add_assoc, List.drop_append, List.drop_of_length_le (by omega)]; simp
  rw [e1, e2, e3, List.append_assoc]
theorem told {l xs : List UInt8} (hl : l.length ≤ 1048576) (a k : Nat) (h1 : a + k ≤ l.length) (h2 : k ≤ xs.length) (h4 : k ≤ 4) (hk : 0 < k) (hx : ∀ h : 0 < xs.length, xs[0] ≠ 0) :
    gE (mk (frameB l) xs ((frameB l).length - l.length + a) k) = 13 := by
  have hlen := frame_length l
  have e0 : frameB l = (Lib.uvarint l.length ++ sum4 (sumOf 0 l)) ++ l := by unfold frameB; rw [List.append_assoc]
  have el : (frameB l).length - l.length = (Lib.uvarint l.length ++ sum4 (sumOf 0 l)).length := by rw [List.length_append, sum4_length]; omega
  have e : mk (frameB l) xs ((frameB l).length - l.length + a) k = Lib.uvarint l.length ++ (sum4 (sumOf 0 l) ++ (mk l xs a k ++ [])) := by
    rw [el, e0, mk_behind, List.append_nil, List.append_assoc]
  obtain ⟨h1', h2', h3', h4', h5'⟩ := parts_of hl (sum4 (sumOf 0 l)) (mk l xs a k) [] rfl (mk_length l xs a k h1 h2)
  have hne : sum4 (sumOf 0 l) ≠ sum4 (sumOf 0 (mk l xs a k)) := by
    intro h
    have h := sum4_inj (sumOf_lt _ (by decide)) (sumOf_lt _ (by decide)) h
    have := (mk_tells l xs a k h1 h2 h4 0).1 h
    have h0 : 0 < xs.length := by omega
    exact hx h0 (this xs[0] (by
      rw [List.mem_take_iff_getElem]
      exact ⟨0, by omega, rfl⟩))
  rw [e]
  unfold gE
  rw [h3', h5', beq_eq_false_iff_ne.2 hne]
  rfl
/-! ### Frames one behind the other -/
def allF : Nat → List UInt8 → List (List UInt8)
  | 0, _ => []
  | f + 1, l => if gE l = 0 then gB l :: allF f (l.drop (gN l)) else []
def allN : Nat → List UInt8 → Nat
  | 0, _ => 0
  | f + 1, l => if gE l = 0 then gN l + allN f (l.drop (gN l)) else 0

theorem gE_zero {l : List UInt8} (h : gE l = 0) : 5 ≤ gN l ∧ gN l ≤ l.length := by
  unfold gE at h
  unfold gN
  cases hf : fits l
  · rw [hf] at h; simp at h
  · cases hs : sumOk l
    · rw [hf, hs] at h; simp at h
    · simp
      have := of_decide_eq_true (show decide (hS l ≠ 0 ∧ hS l + 4 + hN l ≤ l.length) = true from hf)
      omega
theorem all_step {f : Nat} {l : List UInt8} (h : gE l = 0) (hf : l.length ≤ f) : ∃ f', allF f l = gB l :: allF f' (l.drop (gN l)) ∧ allN f l = gN l + allN f' (l.drop (gN l)) ∧ (l.drop (gN l)).length ≤ f' ∧ f = f' + 1 := by
  have h2 := gE_zero h
  cases f with
  | zero => omega
  | succ f =>
    refine ⟨f, ?_, ?_, by rw [List.length_drop]; omega, rfl⟩
    · rw [allF, if_pos h]
    · rw [allN, if_pos h]
/-- where the frames of l have come so far: pre has been told, and what follows begins at pos -/
def Sofar (l : List UInt8) (pre : List (List UInt8)) (pos : Nat) : Prop :=
  pos ≤ l.length ∧ ∃ f, allF l.length l = pre ++ allF f (l.drop pos) ∧ allN l.length l = pos + allN f (l.drop pos) ∧ (l.drop pos).length ≤ f
theorem Sofar.step {l : List UInt8} {pre : List (List UInt8)} {pos : Nat} (h : Sofar l pre pos) (hg : gE (l.drop pos) = 0) : Sofar l (pre ++ [gB (l.drop pos)]) (pos + gN (l.drop pos)) := by
  obtain ⟨h0, f, h1, h2, h3⟩ := h
  obtain ⟨f', e1, e2, e3, _⟩ := all_step hg h3
  have hz := gE_zero hg
  rw [List.length_drop] at hz
  rw [List.drop_drop] at e1 e2 e3
  exact ⟨by omega, f', by rw [h1, e1]; simp, by rw [h2, e2]; omega, e3⟩
end Go.Proofs.YtheefloegbkflaaGreatDoor
