/-
  Layer 7: the walk of firkinref07.Get.
-/
import Derived.Test.YtdniififoahlaaaTight6
namespace Go.Proofs.Ytdniififoahlaaa
set_option linter.unusedVariables false
set_option linter.unusedSimpArgs false
set_option maxRecDepth 100000
open Go.RowKit

/-- the blocks from B on -/
def GeT (B : Nat) : Nat → Prop := fun k => B ≤ k

theorem bit_num (r : List UInt8) (p t : Nat) (c : UInt8) (hc : r[(p + t) / 8]? = some c) : numT r p (t + 1) = numT r p t + c.toNat / 2 ^ ((p + t) % 8) % 2 * 2 ^ t := by
  rw [numT_succ]
  unfold bitOf
  rw [List.getD_eq_getElem?_getD, hc, Option.getD_some, Nat.toNat_testBit]

theorem sum_bit (U c s t : Nat) (hU : U < 2 ^ t) (ht : t < 64) (hc : c < 256) :
    IntKind.u64.wrap ((U : Int) + IntKind.u64.wrap (IntKind.u64.wrap (((c : Int) / 2 ^ s).tmod 2) * 2 ^ t)) = ((U + c / 2 ^ s % 2 * 2 ^ t : Nat) : Int) := by
  have hd : (c : Int) / 2 ^ s = ((c / 2 ^ s : Nat) : Int) := by push_cast; rfl
  rw [hd]
  generalize c / 2 ^ s = y at *
  have hm : ((y : Int)).tmod 2 = ((y % 2 : Nat) : Int) := by rw [Int.tmod_eq_emod_of_nonneg (by omega)]; push_cast; rfl
  rw [hm]
  have h2 : y % 2 < 2 := Nat.mod_lt _ (by decide)
  generalize y % 2 = b at *
  rw [IntWalk.u64_in (b : Int) ⟨by omega, by omega⟩]
  have h1 : 2 ^ t ≤ 2 ^ 63 := Nat.pow_le_pow_right (by decide) (by omega)
  have h3 : b * 2 ^ t ≤ 2 ^ t := by
    have := Nat.mul_le_mul_right (2 ^ t) (show b ≤ 1 by omega)
    omega
  have hcast : (b : Int) * 2 ^ t = ((b * 2 ^ t : Nat) : Int) := by push_cast; rfl
  rw [hcast]
  generalize b * 2 ^ t = z at *
  generalize 2 ^ t = Y at *
  simp only [IntKind.wrap_u64]
  omega
theorem tell_eq2 (lo : Int) (n : Nat) : wrap64 (IntKind.u64.wrap (IntKind.u64.wrap lo + (n : Int))) = w6 (lo + (n : Int)) := by
  unfold w6 wrap64
  simp only [IntKind.wrap_u64]
  omega

set_option maxHeartbeats 4000000 in
theorem rtget_any (v : Value) (b : List UInt8) (n : Int) (w : World) (hv : Bs w v b) (hvl : ∀ k, v.ownBlock = some k → k < w.heap.size) (hl : b.length ≤ 100000000) (h1 : -9223372036854775808 ≤ n) (h2 : n ≤ 400) :
    Calls Try.prog 39 #[v, .int .i64 n] w fun e w' => Gtn w' w.heap.size (getZ b n) e ∧ Fr Non w w' := by
  have hsz := hvl
  have S0 : ∀ W, W = w.alloc (.cells #[v, .bool false] 55) → SAt W w.heap.size (GeT w.heap.size) b false := by
    rintro W rfl
    exact ⟨v, Blk.new _ _ _, hv.non ((Fr.refl _ _).alloc _), (fun k hk e => by have := hsz k hk; unfold GeT at e; omega), by unfold GeT; omega, fun h => by cases h⟩
  have HS0 := Lib.hid S0
  have HV := Lib.hid hv
  clear S0 hsz
  obtain ⟨A, c, rfl, _⟩ := hv
  clear hvl
  by_cases hn0 : n = 0
  · subst hn0
    cases b with
    | nil =>
      have HG : Hid (getZ [] 0 = some []) := Lib.hid rfl
      go_enter Try.func39, Try.ntmps39
      go_wp2
      go_ret2
      exact ⟨gtn_yes HG.out (ow_nil _ _), Fr.refl _ _⟩
    | cons b0 b1 =>
      have HG : Hid (getZ (b0 :: b1) 0 = none) := Lib.hid rfl
      have hb : ((((b0 :: b1).length : Nat) : Int) == 0) = false := by rw [beq_eq_false_iff_ne]; simp; omega
      generalize b0 :: b1 = b at *
      go_enter Try.func39, Try.ntmps39
      go_wp2
      go_ret2
      exact ⟨gtn_no HG.out, Fr.refl _ _⟩
  · have hz : (n == 0) = false := by rw [beq_eq_false_iff_ne]; exact hn0
    have f0 : Fr Non w (w.alloc (.cells #[.slice A b.length c, .bool false] 55)) := (Fr.refl _ _).alloc _
    have hz0 : (w.alloc (.cells #[.slice A b.length c, .bool false] 55)).heap.size = w.heap.size + 1 := by simp
    have s0 := HS0.out _ rfl
    have HF0 := Lib.hid f0
    have HZ0 := Lib.hid hz0
    have HSx := Lib.hid s0
    clear f0 hz0 s0
    cases hp : parse b with
    | none =>
      have hcase : Hid (rest b = [] ∧ cutB (rest b) (fell b) 1 = true) := Lib.hid (by
        unfold parse at hp
        cases hr : rd 0 0 b with
        | none => obtain ⟨h1, h2, _⟩ := rest_none hr; rw [h1, h2]; exact ⟨rfl, cut_none.2.2.1⟩
        | some y =>
          obtain ⟨z, r⟩ := y
          rw [hr] at hp
          cases r with
          | nil => obtain ⟨h1, h2, _⟩ := rest_some hr; rw [h1, h2]; exact ⟨rfl, cut_none.2.2.2⟩
          | cons c r => cases hp)
      have HG : Hid (getZ b n = none) := Lib.hid (by
        unfold getZ
        rw [if_neg hn0, getT_none hp]
        split <;> rfl)
      clear hp hn0
      go_enter Try.func39, Try.ntmps39
      go_wp2_with fail
      refine (rsint_any w.heap.size (GeT w.heap.size) b false _ HSx.out (by omega)).mono ?_
      rintro e w2 ⟨rfl, s2, f2⟩
      have f02 := HF0.out.fresh f2 (fun q hq => by have : q = w.heap.size := hq; omega)
      rw [hcase.out.1] at s2
      go_wp2_with fail
      refine (rtake_any w.heap.size (GeT w.heap.size) [] (fell b) 1 w2 s2 (by simp)).mono ?_
      rintro e w3 ⟨v3, rfl, hb3, hn3, s3, f3⟩
      have hbad := hcase.out.2
      rw [hcase.out.1] at hbad
      rw [hbad] at s3
      have f03 := f02.fresh f3 (fun q hq => by have : q = w.heap.size := hq; omega)
      obtain ⟨Ar, cr, cc0, cc1, ff0, _⟩ := s3.cells
      have HF3 := Lib.hid f03
      clear s2 s3 f2 f3 f02 f03 hbad hb3 hn3
      go_wp2
      go_quiet (fail)
      go_wp2
      go_ret2
      exact ⟨gtn_no HG.out, HF3.out.drewN _⟩
    | some y =>
      obtain ⟨lo, k, r⟩ := y
      obtain ⟨ch, hch⟩ : ∃ ch : UInt8, rest b = ch :: r ∧ fell b = false ∧ unzig (fstN b) = lo ∧ ch.toNat = k ∧ r.length ≤ b.length := by
        unfold parse at hp
        cases hr : rd 0 0 b with
        | none => rw [hr] at hp; cases hp
        | some y =>
          obtain ⟨z, q⟩ := y
          obtain ⟨h1, h2, h3, _⟩ := rest_some hr
          have h4 := rd_len (by omega) hr
          rw [hr] at hp
          cases q with
          | nil => cases hp
          | cons ch q =>
            simp only [Option.some.injEq, Prod.mk.injEq] at hp
            obtain ⟨e1, e2, e3⟩ := hp
            subst e1 e2 e3
            exact ⟨ch, h1, h2, by rw [h3], rfl, by simp at h4; omega⟩
      obtain ⟨hr1, hr2, hr3, hr4, hr5⟩ := hch
      have hk8 : k ≤ 255 := by rw [← hr4]; have := ch.toNat_lt; omega
      have HP := Lib.hid hp
      have hi0 := rsint_any w.heap.size (GeT w.heap.size) b false _ HSx.out (by omega)
      rw [hr1, hr2, hr3] at hi0
      have HT : Hid (∀ W, SAt W w.heap.size (GeT w.heap.size) (ch :: r) false → Calls Try.prog 63 #[ptr w.heap.size, .int .i64 1] W fun e w' => ∃ a cv, e = .returned (.slice (some a) 1 cv) ∧ w'.cell? a = some (.int .u8 (k : Nat)) ∧ W.heap.size ≤ a.block ∧ SAt w' w.heap.size (GeT w.heap.size) r false ∧ Fr (One w.heap.size) W w') := Lib.hid (by
        intro W hs
        have h3 := rtake_any w.heap.size (GeT w.heap.size) (ch :: r) false 1 W hs (by simp; omega)
        rw [(cut_one ch r).1, (cut_one ch r).2.1, (cut_one ch r).2.2] at h3
        refine h3.mono ?_
        rintro e w4 ⟨v4, rfl, hb4, hn4, s4, f4⟩
        obtain ⟨A4, c4, rfl⟩ := hb4.shape
        obtain ⟨a, rfl, _, _, h⟩ := hb4.vs.addr (by simp)
        have h0 := h 0 (by simp)
        refine ⟨a, c4, rfl, ?_, hn4 _ rfl, s4, f4⟩
        simpa [bv, hr4, Addr.add] using h0)
      clear hp hr1 hr2 hr3 hr4
      by_cases hneg : n < 0
      · have HG : Hid (getZ b n = none) := Lib.hid (getZ_neg hneg)
        have hd1 : decide (n < 0) = true := by simpa using hneg
        clear hn0 hneg
        go_enter Try.func39, Try.ntmps39
        go_wp2_with fail
        refine hi0.mono ?_
        rintro e w2 ⟨rfl, s2, f2⟩
        have f02 := HF0.out.fresh f2 (fun q hq => by have : q = w.heap.size := hq; omega)
        go_wp2_with fail
        refine (HT.out w2 s2).mono ?_
        rintro e w3 ⟨a, cv, rfl, ca, ha, s3, f3⟩
        have f03 := f02.fresh f3 (fun q hq => by have : q = w.heap.size := hq; omega)
        obtain ⟨Ar, cr, cc0, cc1, ff0, _⟩ := s3.cells
        have HF3 := Lib.hid f03
        clear s2 s3 f2 f3 f02 f03 hi0
        go_wp2
        go_quiet (fail)
        go_wp2
        go_ret2
        exact ⟨gtn_no HG.out, HF3.out.drewN _⟩
      · obtain ⟨m, rfl⟩ := Int.eq_ofNat_of_zero_le (show 0 ≤ n by omega)
        have hpos : 0 < m := by omega
        have hd1 : decide ((m : Int) < 0) = false := by simp
        have hd2 : decide (400 < (m : Int)) = false := by simp; omega
        have HZ := Lib.hid (getZ_pos (b := b) hpos)
        have hm4 : m ≤ 400 := by omega
        clear hn0 hneg h1 h2
        by_cases hk64 : 64 < k
        · have HG : Hid (getZ b m = none) := Lib.hid (HZ.out.trans (getT_wide HP.out hk64 hpos))
          have hd3 : decide (64 < (k : Int)) = true := by simp; omega
          clear hk64
          go_enter Try.func39, Try.ntmps39
          go_wp2_with fail
          refine hi0.mono ?_
          rintro e w2 ⟨rfl, s2, f2⟩
          have f02 := HF0.out.fresh f2 (fun q hq => by have : q = w.heap.size := hq; omega)
          go_wp2_with fail
          refine (HT.out w2 s2).mono ?_
          rintro e w3 ⟨a, cv, rfl, ca, ha, s3, f3⟩
          have f03 := f02.fresh f3 (fun q hq => by have : q = w.heap.size := hq; omega)
          obtain ⟨Ar, cr, cc0, cc1, ff0, _⟩ := s3.cells
          have HF3 := Lib.hid f03
          clear s2 s3 f2 f3 f02 f03 hi0
          go_wp2
          go_quiet (fail)
          go_wp2
          go_ret2
          exact ⟨gtn_no HG.out, HF3.out.drewN _⟩
        · have hd3 : decide (64 < (k : Int)) = false := by simp; omega
          have hmk : m * k ≤ 100000 := by have := Nat.mul_le_mul hm4 (show k ≤ 64 by omega); omega
          have HMK := Lib.hid (show ((m : Int) * k) = ((m * k : Nat) : Int) by push_cast; rfl)
          have HND := Lib.hid (show need (m * k) = (m * k + 7) / 8 from rfl)
          by_cases hlen : r.length = need (m * k)
          · have hN8 : m * k ≤ 8 * r.length := by rw [hlen]; unfold need; omega
            have HLn := Lib.hid hlen
            have HWk : Hid (∀ i, i < m → i * k + k ≤ m * k) := Lib.hid (fun i hi => by
              have h1 := Nat.mul_le_mul_right k (show i + 1 ≤ m by omega)
              rwa [Nat.add_mul, Nat.one_mul] at h1)
            have hne : ((r.length : Int) != (((m * k : Nat) : Int) + 7) / 8) = false := by rw [bne_eq_false_iff_eq]; have := HND.out; omega
            generalize m * k = mk at *
            have e1 : IntKind.i64.wrap ((m : Int) * k) = (mk : Int) := by rw [HMK.out]; exact IntWalk.i64_in _ ⟨by omega, by omega⟩
            have e2 : IntKind.i64.wrap ((mk : Int) + 7) = (mk : Int) + 7 := IntWalk.i64_in _ ⟨by omega, by omega⟩
            clear hlen
            go_enter Try.func39, Try.ntmps39
            go_wp2_with fail
            refine hi0.mono ?_
            rintro e w2 ⟨rfl, s2, f2⟩
            have f02 := HF0.out.fresh f2 (fun q hq => by have : q = w.heap.size := hq; omega)
            go_wp2_with fail
            refine (HT.out w2 s2).mono ?_
            rintro e w3 ⟨a, cv, rfl, ca, ha, s3, f3⟩
            have f03 := f02.fresh f3 (fun q hq => by have : q = w.heap.size := hq; omega)
            obtain ⟨Ar, cr, cc0, cc1, ff0, _, _, hbs3, _⟩ := s3.cells
            have HF3 := Lib.hid f03
            have hs3 := f3.size
            have hs2 := f2.size
            have hab := World.block_lt_of_cell? w3 _ ca
            have HB3 := Lib.hid hbs3
            clear s2 s3 f2 f3 f02 f03 hi0 hbs3
            go_wp2
            go_quiet (fail)
            go_wp2
            have hown0 : Ow iv 2 ((w3.drewN nq).alloc (.cells #[] 2)) w3.heap.size (.slice (some ⟨w3.heap.size, 0, none⟩) 0 0) [] := ow_lit0 (w3.drewN nq) _ _ rfl (Nat.le_refl _)
            have f34 : Fr Non w3 ((w3.drewN nq).alloc (.cells #[] 2)) := ((Fr.refl _ _).drewN nq).alloc _
            have hsB : w3.heap.size ≤ ((w3.drewN nq).alloc (.cells #[] 2)).heap.size := f34.size
            have HA := Lib.hid ca
            have HC0 := Lib.hid cc0
            clear ca cc0 cc1 ff0 hd1 hd2 hd3 hne e1 e2
            generalize (w3.drewN nq).alloc (.cells #[] 2) = W4 at *
            go_loopw [9, 10, 11] (fun x y i wr => ∃ j : Nat, j ≤ m ∧ i = .int .i64 j ∧ y = .int .i64 (j * k : Nat) ∧ Ow iv 2 wr w3.heap.size x (readT r lo k j) ∧ Fr Non w3 wr) (fun _ _ i _ => m - (intOf i).toNat)
            case atStart => exact ⟨0, Nat.zero_le _, rfl, by rw [Nat.zero_mul]; rfl, hown0, f34⟩
            case round =>
              clear hown0 f34 hsB
              obtain ⟨j, hj, rfl, rfl, hown, hfr⟩ := hrel
              have ca := (hfr.cell hab (fun e => e)).trans HA.out
              have cc0 := (hfr.cell (World.block_lt_of_cell? w3 _ HC0.out) (fun e => e)).trans HC0.out
              have hbr := HB3.out.non hfr
              have HBr := Lib.hid hbr
              have HO := Lib.hid hown
              have HFr := Lib.hid hfr
              obtain ⟨A5, c5, rfl⟩ := hown.shape
              rw [readT_length] at HO ⊢
              clear hbr hown hfr
              by_cases hlt : j < m
              · have hjk := HWk.out j hlt
                generalize hJ : j * k = J at *
                have HJ := Lib.hid hJ
                clear hJ
                go_wp2
                go_loop [10, 12, 13] (fun y u i => ∃ t : Nat, t ≤ k ∧ i = .int .i64 t ∧ y = .int .i64 (J + t : Nat) ∧ u = .int .u64 (numT r J t : Nat)) (fun _ _ i => k - (intOf i).toNat)
                case atStart => exact ⟨0, Nat.zero_le _, rfl, rfl, rfl⟩
                case round =>
                  obtain ⟨t, ht, rfl, rfl, rfl⟩ := hrel
                  by_cases htk : t < k
                  · have hpl : (J + t) / 8 < r.length := by omega
                    cases Ar with
                    | none =>
                      obtain ⟨a', ha', _⟩ := HBr.out.vs.addr (by omega)
                      cases ha'
                    | some ar =>
                      have hq : wr.cell? (ar.add ((J + t) / 8)) = some (bv (r[(J + t) / 8]'hpl)) := by
                        obtain ⟨a', ha', _, _, hq⟩ := HBr.out.vs.addr (by omega)
                        obtain rfl : ar = a' := by simpa using ha'
                        exact hq ((J + t) / 8) hpl
                      have hst := bit_num r J t (r[(J + t) / 8]'hpl) (List.getElem?_eq_getElem hpl)
                      have HST := Lib.hid hst
                      unfold bv at hq
                      have hx8 := (r[(J + t) / 8]'hpl).toNat_lt
                      have hnl := numT_lt r J t
                      have HSB := Lib.hid (sum_bit (numT r J t) (r[(J + t) / 8]'hpl).toNat ((J + t) % 8) t hnl (by omega) hx8)
                      clear hst hnl
                      generalize r[(J + t) / 8]'hpl = cb at *
                      generalize hU : numT r J t = U at *
                      have HU := Lib.hid hU
                      clear hU
                      generalize hP : J + t = P at *
                      have HP2 := Lib.hid hP
                      have hPb : P ≤ 100000 := by omega
                      clear hP
                      go_wp2
                      exact ⟨⟨t + 1, by omega, by go_num, by rw [show J + (t + 1) = P + 1 by rw [← HP2.out]; omega]; go_num, by rw [HST.out, ← HSB.out]⟩, by simp [intOf]; omega⟩
                  · obtain rfl : t = k := by omega
                    have HTe := Lib.hid (tell_eq2 lo (numT r J t))
                    have HRs : Hid (readT r lo t j ++ [w6 (lo + (numT r J t : Nat))] = readT r lo t (j + 1)) := Lib.hid (by rw [readT_succ, HJ.out])
                    have hB := HFr.out.size
                    have hRl : (readT r lo t j).length < 1099511627776 := by rw [readT_length]; omega
                    go_wp2_with (at_builtin; refine wpList_pushG el_i64 iv_oneC rfl (.tmp 93) (.tmp 99) rfl w3.heap.size _ (readT r lo t j) rfl HO.out _ (w6 (lo + (numT r J t : Nat))) (by unfold iv; rw [← HTe.out]) rfl hRl hB ?_; intro v6 w6' hown6 hf6)
                    refine ⟨⟨j + 1, by omega, by go_num, ?_, by rw [← HRs.out]; exact hown6, HFr.out.fresh hf6 (fun q hq => (HO.out.lt q hq).1)⟩, by simp [intOf]; omega⟩
                    rw [show (j + 1) * t = J + t by rw [← HJ.out, Nat.add_mul, Nat.one_mul]]
                    go_num
              · obtain rfl : j = m := by omega
                have hB := HFr.out.size
                have f0r := HF3.out.trans HFr.out
                have HRl := Lib.hid (readT_length r lo k j)
                have HW3 := Lib.hid HF3.out.size
                have hput := rtput_any _ (readT r lo k j) wr.drew HO.out.vs.drew (readT_i64 _ _ _ _) (by rw [HRl.out]; omega)
                have HPu := Lib.hid hput
                have HR := Lib.hid f0r
                have hVb := HV.out.non f0r
                have cB := run_conv_Bs hVb.drew 25 9 5 Try.underlying25 Try.underlying5 Try.underlying9
                have HVb := Lib.hid hVb
                have HCv := Lib.hid (fun (W : World) (u : Value) (l : List UInt8) (h : Bs W u l) => run_conv_Bs h 25 9 5 Try.underlying25 Try.underlying5 Try.underlying9)
                clear hput f0r hVb ca cc0
                by_cases he : putT (readT r lo k j) = b
                · have HG : Hid (getZ b j = some (readT r lo k j)) := Lib.hid (HZ.out.trans (getT_yes HP.out (by rw [HLn.out]; congr 1; have h := HMK.out; exact_mod_cast h.symm) he))
                  have hbb : (putT (readT r lo k j) == b) = true := by simp [he]
                  clear he
                  go_wp2_with fail
                  go_region_with (first | (go_at_call 36; refine HPu.out.mono ?_; rintro e w7 ⟨u7, rfl, hown7, hf7⟩; have c7 := HCv.out w7 u7 _ hown7.bs; have c8 := HCv.out w7 _ b (HVb.out.drew.non hf7)))
                  all_goals
                    go_wp2
                    go_ret2
                    exact ⟨gtn_yes HG.out ((HO.out.drew.non hf7).mono (by have := HW3.out; omega)), (HR.out.drew).trans hf7⟩
                · have HG : Hid (getZ b j = none) := Lib.hid (HZ.out.trans (getT_ne HP.out he))
                  have hbb : (putT (readT r lo k j) == b) = false := by simp [he]
                  clear he
                  go_wp2_with fail
                  go_region_with (first | (go_at_call 36; refine HPu.out.mono ?_; rintro e w7 ⟨u7, rfl, hown7, hf7⟩; have c7 := HCv.out w7 u7 _ hown7.bs; have c8 := HCv.out w7 _ b (HVb.out.drew.non hf7)))
                  all_goals
                    go_wp2
                    go_ret2
                    exact ⟨gtn_no HG.out, (HR.out.drew).trans hf7⟩
          · have HG : Hid (getZ b m = none) := Lib.hid (HZ.out.trans (getT_len HP.out hlen))
            have hne : ((r.length : Int) != (((m * k : Nat) : Int) + 7) / 8) = true := by rw [bne_iff_ne]; have := HND.out; omega
            generalize m * k = mk at *
            have e1 : IntKind.i64.wrap ((m : Int) * k) = (mk : Int) := by rw [HMK.out]; exact IntWalk.i64_in _ ⟨by omega, by omega⟩
            have e2 : IntKind.i64.wrap ((mk : Int) + 7) = (mk : Int) + 7 := IntWalk.i64_in _ ⟨by omega, by omega⟩
            clear hlen hk64
            go_enter Try.func39, Try.ntmps39
            go_wp2_with fail
            refine hi0.mono ?_
            rintro e w2 ⟨rfl, s2, f2⟩
            have f02 := HF0.out.fresh f2 (fun q hq => by have : q = w.heap.size := hq; omega)
            go_wp2_with fail
            refine (HT.out w2 s2).mono ?_
            rintro e w3 ⟨a, cv, rfl, ca, ha, s3, f3⟩
            have f03 := f02.fresh f3 (fun q hq => by have : q = w.heap.size := hq; omega)
            obtain ⟨Ar, cr, cc0, cc1, ff0, _⟩ := s3.cells
            have HF3 := Lib.hid f03
            clear s2 s3 f2 f3 f02 f03 hi0
            go_wp2
            go_quiet (fail)
            go_wp2
            go_ret2
            exact ⟨gtn_no HG.out, HF3.out.drewN _⟩
end Go.Proofs.Ytdniififoahlaaa
