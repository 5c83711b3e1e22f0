/-
  Layer 4: the walks of bitv.need, bitv.Pack, firkinref04.Pack.
-/
import Derived.Test.YtefcbkjanfbmoaaSlc
import Derived.Test.YtefcbkjanfbmoaaMathBits
import Derived.Test.YtefcbkjanfbmoaaVint1
import Derived.Deep.RegionWith
import Derived.Deep.RegionHeld3
namespace Go.Proofs.Ytefcbkjanfbmoaa
set_option linter.unusedVariables false
set_option linter.unusedSimpArgs false
open Go.RowKit

theorem need_any (n : Nat) (w : World) (hn : n ≤ 9223372036854775807) :
    Calls Try.prog 19 #[.int .i64 n] w fun e w' => e = .returned (.int .i64 (need n : Nat)) ∧ w = w' := by
  by_cases h : n % 8 = 0
  · have HN := Lib.hid (show need n = n / 8 by unfold need; omega)
    have h' : decide (0 < (n : Int) % 8) = false := by simp; omega
    clear h
    go_enter Try.func19, Try.ntmps19
    go_wp2
    go_ret
    exact ⟨ret_int (by rw [HN.out]; omega), rfl⟩
  · have HN := Lib.hid (show need n = n / 8 + 1 by unfold need; omega)
    have h' : decide (0 < (n : Int) % 8) = true := by simp; omega
    clear h
    go_enter Try.func19, Try.ntmps19
    go_wp2
    go_ret
    exact ⟨ret_int (by rw [HN.out]; omega), rfl⟩

theorem or_low (q t : Nat) (ht : t < 8) (hq : q < 2 ^ t) : bits .or .u8 (q : Int) (2 ^ t % 256) = ((q + 2 ^ t : Nat) : Int) := by
  have all : ∀ t : Fin 8, ∀ q : Fin 128, q.1 < 2 ^ t.1 → bits .or .u8 (q.1 : Int) (2 ^ t.1 % 256) = ((q.1 + 2 ^ t.1 : Nat) : Int) := by decide +kernel
  have := pow8 ht
  exact all ⟨t, ht⟩ ⟨q, by omega⟩ hq
theorem add_low (q t : Nat) (ht : t < 8) (hq : q < 2 ^ t) : ((q : Int) + 2 ^ t) % 256 = ((q + 2 ^ t : Nat) : Int) := by
  have all : ∀ t : Fin 8, ∀ q : Fin 128, q.1 < 2 ^ t.1 → ((q.1 : Int) + 2 ^ t.1) % 256 = ((q.1 + 2 ^ t.1 : Nat) : Int) := by decide +kernel
  have := pow8 ht
  exact all ⟨t, ht⟩ ⟨q, by omega⟩ hq
theorem or_lt8 (q t : Nat) (ht : t < 8) (hq : q < 2 ^ t) : q + 2 ^ t < 256 := by have := pow8 ht; omega

set_option maxHeartbeats 1000000 in
theorem pack_any (v : Value) (l : List Bool) (w : World) (hv : Vs tv w v l) (hl : l.length ≤ 1000000) :
    Calls Try.prog 7 #[v] w fun e w' => ∃ u, e = .returned u ∧ Own w' w.heap.size u (packB l) ∧ Fr Non w w' := by
  have HV := Lib.hid hv
  obtain ⟨A, c, rfl, hlc, hn, hcell⟩ := hv
  have HC := Lib.hid hcell
  have HN := Lib.hid hn
  have hnb : need l.length ≤ l.length := by unfold need; omega
  clear hcell hn
  go_enter Try.func7, Try.ntmps7
  go_wp2_with fail
  refine (need_any l.length w (by omega)).mono ?_
  rintro e w' ⟨rfl, rfl⟩
  go_wp2_with (at_make; refine wpList_mkfullG el_u8 (f := bv) (0 : UInt8) rfl rfl _ _ rfl _ _ _ _ (need l.length) rfl rfl rfl rfl (by omega) ?_; intro w1 hown1 hfr1)
  go_loopw [13] (fun i wr => ∃ j : Nat, j ≤ need l.length ∧ i = .int .i64 j ∧ Ow bv 5 wr w.heap.size (.slice (some ⟨w.heap.size, 0, none⟩) (need l.length) (need l.length)) (pk l (8 * j)) ∧ Fr Non w wr) (fun i _ => need l.length - (intOf i).toNat)
  case atStart => exact ⟨0, Nat.zero_le _, rfl, by rw [Nat.mul_zero, pk_zero]; exact hown1, hfr1⟩
  case round =>
    obtain ⟨j, hj, rfl, hown, hfr⟩ := hrel
    by_cases hlt : j < need l.length
    · have h8 : 8 * j < l.length := by unfold need at hlt; omega
      obtain ⟨A', c', hrun, hbs, hob⟩ := slice_loG el_bool A l.length c (8 * j) .i64 ((j : Int) * 8) (by push_cast; omega) (by omega) hlc
      have HV' := Lib.hid (hbs tv w l rfl HV.out)
      clear hbs
      have HF := Lib.hid hfr
      have key : ∀ t, t < 8 → t < l.length - 8 * j → ∃ a, A' = some a ∧ w.cell? (a.add t) = some (tv (l.getD (8 * j + t) false)) := by
        intro t _ ht
        obtain ⟨a, rfl, _, _, hc⟩ := HV'.out.addr (by omega)
        refine ⟨a, rfl, ?_⟩
        rw [hc t (by simp; omega)]
        simp [List.getD_eq_getElem?_getD, show 8 * j + t < l.length by omega]
      have HK := Lib.hid key
      clear key
      obtain ⟨m, hm8, hml, hm1, hm⟩ : ∃ m, m ≤ 8 ∧ m ≤ l.length - 8 * j ∧ 0 < m ∧ (m = 8 ∨ m = l.length - 8 * j) := by
        by_cases h7 : 8 ≤ l.length - 8 * j
        · exact ⟨8, by omega, by omega, by omega, .inl rfl⟩
        · exact ⟨l.length - 8 * j, by omega, by omega, by omega, .inr rfl⟩
      have hnext : pk l (8 * j + m) = pk l (8 * (j + 1)) := by
        rcases hm with rfl | rfl
        · rw [show 8 * (j + 1) = 8 * j + 8 by omega]
        · by_cases h : l.length = 8 * (j + 1)
          · congr 1; omega
          · rw [pk_all l (show l.length ≤ 8 * j + (l.length - 8 * j) by omega)]
            by_cases h2 : l.length ≤ 8 * (j + 1)
            · rw [pk_all l h2]
            · omega
      have HX := Lib.hid hnext
      clear hnext
      have hmi : min 8 (l.length - 8 * j) ≤ m := by omega
      have hme := Lib.hid hm
      clear hm
      by_cases h7 : 8 ≤ l.length - 8 * j
      all_goals
        go_wp2
        go_loopw [23] (fun i wr => ∃ t : Nat, t ≤ m ∧ i = .int .i64 t ∧ Ow bv 5 wr w.heap.size (.slice (some ⟨w.heap.size, 0, none⟩) (need l.length) (need l.length)) (pk l (8 * j + t)) ∧ Fr Non w wr) (fun i _ => 8 - (intOf i).toNat)
        case atStart => exact ⟨0, Nat.zero_le _, rfl, hown, hfr⟩
        case round =>
          obtain ⟨t, ht, rfl, hown, hfr⟩ := hrel
          have hmf := hme.out
          by_cases hlt : t < m
          · have h8 : 8 * j + t < l.length := by omega
            obtain ⟨a, rfl, hc0⟩ := HK.out t (by omega) (by omega)
            have hq := hown.cell (pk_length _ _).symm j _ (by have := pk_at l h8; rwa [show (8 * j + t) / 8 = j by omega] at this)
            have hfz := hown.frozen (pk_length _ _).symm j
            have hql := pkn_lt l h8
            rw [show (8 * j + t) / 8 = j by omega, show (8 * j + t) % 8 = t by omega] at hql
            have hor := or_low _ t (by omega) hql
            have hys := pk_yes l h8
            have hno := pk_no l h8
            rw [show (8 * j + t) / 8 = j by omega, show (8 * j + t) % 8 = t by omega] at hys
            unfold bv at hq
            rw [small8 (pkn_lt8 _ _ _)] at hq
            have hc1 : wr.cell? (a.add t) = some (tv (l.getD (8 * j + t) false)) := (hfr.cell (World.block_lt_of_cell? w _ hc0) (fun e => e)).trans hc0
            have hge : l.getD (8 * j + t) false = l[8 * j + t] := by simp [List.getD_eq_getElem?_getD, h8]
            rw [hge] at hc1
            have HO := Lib.hid hown
            have HFr := Lib.hid hfr
            have hq9 := pkn_lt8 l (8 * j + t) j
            clear hown hfr hmf hown1 hfr1 HF hge hc0
            cases hb : l[8 * j + t] with
            | false =>
              rw [hb] at hc1
              unfold tv at hc1
              have HB := Lib.hid (hno hb)
              clear hb hno hys hor
              go_wp2
              go_roundw
              case rel => exact ⟨t + 1, by omega, by go_num, by rw [show 8 * j + (t + 1) = 8 * j + t + 1 by omega, HB.out]; exact HO.out, HFr.out⟩
              case measure => simp [intOf]; omega
            | true =>
              rw [hb] at hc1
              unfold tv at hc1
              have HB := Lib.hid (hys hb)
              have HR := Lib.hid hor
              clear hb hno hys hor
              generalize hQ : pkn l (8 * j + t) j = q at *
              have HQ := Lib.hid hQ
              clear hQ
              go_wp2
              go_region
              go_wp2
              go_roundw
              case rel =>
                refine ⟨t + 1, by omega, by go_num, ?_, (HFr.out.setCell (fun h => by simp at h) _).drew⟩
                rw [show 8 * j + (t + 1) = 8 * j + t + 1 by omega, HB.out, HR.out]
                have hs := (HO.out.store (pk_length _ _).symm j (q + 2 ^ t).toUInt8).drew
                unfold bv at hs
                rwa [small8 (or_lt8 q t (by omega) hql)] at hs
              case measure => simp [intOf]; omega
          · obtain rfl : t = m := by omega
            rw [HX.out] at hown
            clear hmf
            go_wp2
            go_roundw
            case rel => exact ⟨j + 1, by omega, by go_num, hown, hfr⟩
            case measure => simp [intOf]; omega
    · obtain rfl : j = need l.length := by omega
      rw [pk_all l (by unfold need; omega)] at hown
      go_wp2
      go_ret
      exact ⟨_, rfl, hown.own, hfr⟩

set_option maxHeartbeats 1000000 in
theorem rpack_any (v : Value) (l : List Bool) (w : World) (hv : Vs tv w v l) (hl : l.length ≤ 1000000) :
    Calls Try.prog 10 #[v] w fun e w' => ∃ u, e = .returned u ∧ Own w' w.heap.size u (packB l) ∧ Fr Non w w' := by
  have HV := Lib.hid hv
  obtain ⟨A, c, rfl, hlc, hn, hcell⟩ := hv
  have HC := Lib.hid hcell
  have HN := Lib.hid hn
  have hnb : need l.length ≤ l.length := by unfold need; omega
  have h8 : 8 * need l.length < l.length + 8 ∧ l.length ≤ 8 * need l.length := by unfold need; omega
  clear hcell hn
  go_enter Try.func10, Try.ntmps10
  go_wp2
  go_loopw [3] (fun x wr => ∃ k : Nat, k ≤ need l.length ∧ Ow bv 5 wr w.heap.size x (List.replicate k 0) ∧ Fr Non w wr) (fun x _ => need l.length - slLen x)
  case atStart => exact ⟨0, Nat.zero_le _, ow_lit0 _ _ _ rfl (Nat.le_refl _), (Fr.refl _ _).alloc _⟩
  case round =>
    obtain ⟨k, hk, hown, hfr⟩ := hrel
    have hB := hfr.size
    by_cases hlt : k < need l.length
    · obtain ⟨A1, c1, rfl⟩ := hown.shape
      rw [List.length_replicate] at hown ⊢
      have h1 : 8 * k < l.length := by omega
      go_wp2_with (at_builtin; refine wpList_pushG el_u8 bv_oneC rfl (.tmp 12) (.tmp 13) rfl w.heap.size _ (List.replicate k 0) rfl hown _ (0 : UInt8) rfl rfl (by simp; omega) hB ?_; intro v2 w2 hown2 hfr2)
      go_roundw
      case rel => exact ⟨k + 1, by omega, by rw [List.replicate_succ']; exact hown2, hfr.fresh hfr2 fun q hq => (hown.lt q hq).1⟩
      case measure => rw [slLen_vs hown2.vs]; simp [slLen]; omega
    · obtain rfl : k = need l.length := by omega
      by_cases h0 : 0 < l.length
      · have hpos : 0 < (List.replicate (need l.length) (0 : UInt8)).length := by simp; omega
        obtain ⟨g, c1, rfl, hg1, hg2, hc1, _⟩ := hown.row hpos
        rw [List.length_replicate] at hown hc1 ⊢
        rw [← pk_zero] at hown
        clear hpos
        go_wp2
        go_loopw [4] (fun i wr => ∃ p : Nat, p ≤ l.length ∧ i = .int .i64 p ∧ Ow bv 5 wr w.heap.size (.slice (some ⟨g, 0, none⟩) (need l.length) c1) (pk l p) ∧ Fr Non w wr) (fun i _ => l.length - (intOf i).toNat)
        case atStart => exact ⟨0, Nat.zero_le _, rfl, hown, hfr⟩
        case round =>
          obtain ⟨p, hp, rfl, hown', hfr'⟩ := hrel
          have HO := Lib.hid hown'
          have HF := Lib.hid hfr'
          by_cases hlt : p < l.length
          · cases A with
            | none => have := HN.out rfl; omega
            | some a =>
              have hc0 := HC.out a rfl p hlt
              have hcl : wr.cell? (a.add p) = some (tv l[p]) := (hfr'.cell (World.block_lt_of_cell? w _ hc0) (fun e => e)).trans hc0
              have hq := hown'.cell (pk_length _ _).symm (p / 8) _ (pk_at l hlt)
              have hfz := hown'.frozen (pk_length _ _).symm (p / 8)
              have hql := pkn_lt l hlt
              have hys := pk_yes l hlt
              have hno := pk_no l hlt
              unfold bv at hq
              rw [small8 (pkn_lt8 _ _ _)] at hq
              clear hown' hfr' hown hfr hc0
              cases hb : l[p] with
              | false =>
                rw [hb] at hcl
                unfold tv at hcl
                have HB := Lib.hid (hno hb)
                clear hb hno hys
                go_wp2
                go_roundw
                case rel => exact ⟨p + 1, by omega, by go_num, by rw [HB.out]; exact HO.out, HF.out⟩
                case measure => simp [intOf]; omega
              | true =>
                rw [hb] at hcl
                unfold tv at hcl
                have HB := Lib.hid (hys hb)
                clear hb hno hys
                generalize hQ : pkn l p (p / 8) = q at *
                have HQ := Lib.hid hQ
                clear hQ
                have hp8 : p / 8 < need l.length := by unfold need; omega
                go_wp2
                go_region
                go_wp2
                go_roundw
                case rel =>
                  refine ⟨p + 1, by omega, by go_num, ?_, (HF.out.setCell (fun h => by simp at h; omega) _).drew⟩
                  rw [HB.out, add_low q (p % 8) (by omega) hql]
                  have hs := (HO.out.store (pk_length _ _).symm (p / 8) (q + 2 ^ (p % 8)).toUInt8).drew
                  unfold bv at hs
                  rwa [small8 (or_lt8 q (p % 8) (by omega) hql)] at hs
                case measure => simp [intOf]; omega
          · rw [pk_all l (by omega)] at hown'
            go_wp2
            go_ret
            exact ⟨_, rfl, hown'.own, hfr'⟩
      · obtain ⟨A1, c1, rfl⟩ := hown.shape
        rw [List.length_replicate] at hown ⊢
        rw [← pk_zero, pk_all l (show l.length ≤ 0 by omega)] at hown
        have HO := Lib.hid hown
        have hl0 : l.length ≤ 0 := by omega
        have hn0 : need l.length ≤ 0 := by omega
        clear hown
        go_wp2
        go_loop [4] (fun i => i = .int .i64 0) (fun _ => 0)
        case atStart => rfl
        case round =>
          subst hrel
          go_wp2
          go_ret
          exact ⟨_, rfl, HO.out.own, hfr⟩
end Go.Proofs.Ytefcbkjanfbmoaa
