/-
  Layer 7: the walk of firkinref07.Put.
-/
import Derived.Test.YtdniififoahlaaaTight5
import Derived.Test.YtdniififoahlaaaVint8
namespace Go.Proofs.Ytdniififoahlaaa
set_option linter.unusedVariables false
set_option linter.unusedSimpArgs false
open Go.RowKit

theorem set_app {α : Type} (H Z : List α) (i : Nat) (x : α) : (H ++ Z).set (H.length + i) x = H ++ Z.set i x := by
  rw [List.set_append_right _ _ (by omega), Nat.add_sub_cancel_left]
theorem add_bit (q y t : Nat) (ht : t < 8) (hq : q < 2 ^ t) : ((q : Int) + (y : Int) % 2 * 2 ^ t) % 256 = ((q + y % 2 * 2 ^ t : Nat) : Int) := by
  have h2 : (y : Int) % 2 = ((y % 2 : Nat) : Int) := by push_cast; rfl
  have h3 : y % 2 < 2 := Nat.mod_lt _ (by decide)
  rw [h2]
  generalize y % 2 = b at *
  have all : ∀ b : Fin 2, ∀ t : Fin 8, ∀ q : Fin 128, q.1 < 2 ^ t.1 → ((q.1 : Int) + (b.1 : Int) * 2 ^ t.1) % 256 = ((q.1 + b.1 * 2 ^ t.1 : Nat) : Int) := by decide +kernel
  have := pow8 ht
  exact all ⟨b, h3⟩ ⟨t, ht⟩ ⟨q, by omega⟩ hq

set_option maxHeartbeats 4000000 in
theorem rtput_any (v : Value) (l : List Int) (w : World) (hv : Vs iv w v l) (hx : ∀ x ∈ l, I64 x) (hl : l.length ≤ 1000000) :
    Calls Try.prog 36 #[v] w fun e w' => ∃ u, e = .returned u ∧ Own w' w.heap.size u (putT l) ∧ Fr Non w w' := by
  have HV := Lib.hid hv
  have HX := Lib.hid hx
  clear hx
  obtain ⟨A, c, rfl, hlc, hn, hcell⟩ := hv
  have HN := Lib.hid hn
  have HC := Lib.hid hcell
  clear hn hcell
  by_cases h0 : l.length = 0
  · have hl0 : l = [] := List.eq_nil_of_length_eq_zero h0
    subst hl0
    go_enter Try.func36, Try.ntmps36
    go_wp2
    go_ret
    exact ⟨_, rfl, own_nil _ _, Fr.refl _ _⟩
  · have hpos : 0 < l.length := by omega
    cases A with
    | none => have := HN.out rfl; omega
    | some a =>
      have g0 : w.cell? a = some (.int .i64 l[0]) := by
        have := HC.out a rfl 0 hpos
        simpa [Addr.add, iv] using this
      have HS1 := Lib.hid (loT_succ l)
      have HS2 := Lib.hid (hiT_succ l)
      have H01 : Hid (loT l 0 = l[0]) := Lib.hid (by
        rw [loT_zero]
        cases l with
        | nil => simp at hpos
        | cons x l => rfl)
      have H02 : Hid (hiT l 0 = l[0]) := Lib.hid (by
        rw [hiT_zero]
        cases l with
        | nil => simp at hpos
        | cons x l => rfl)
      go_enter Try.func36, Try.ntmps36
      go_wp2
      go_quiet (fail)
      go_wp2
      go_loopw [3, 4, 5] (fun x y i wr => ∃ j : Nat, j ≤ l.length ∧ i = .int .i64 j ∧ x = .int .i64 (loT l j) ∧ y = .int .i64 (hiT l j) ∧ ∃ n, wr = w.drewN n) (fun _ _ i _ => l.length - (intOf i).toNat)
      case atStart => exact ⟨0, Nat.zero_le _, rfl, by rw [H01.out], by rw [H02.out], _, rfl⟩
      case round =>
        obtain ⟨j, hj, rfl, rfl, rfl, n, rfl⟩ := hrel
        by_cases hlt : j < l.length
        · have g1 : w.cell? (a.add j) = some (iv l[j]) := HC.out a rfl j hlt
          have hs1 := Lib.hid (HS1.out j hlt)
          have hs2 := Lib.hid (HS2.out j hlt)
          unfold iv at g1
          clear g0
          generalize l[j] = x at *
          by_cases c1 : x < loT l j
          all_goals
            by_cases c2 : hiT l j < x
            all_goals
              go_wp2
              go_roundw
              case rel => exact ⟨j + 1, by omega, by go_num, by rw [hs1.out]; congr 1; omega, by rw [hs2.out]; congr 1; omega, _, rfl⟩
              case measure => simp [intOf]; omega
        · have hjl : j = l.length := by omega
          subst hjl
          have hHi : Hid (hiT l l.length = greatOf l) := Lib.hid rfl
          have hLo : Hid (loT l l.length = leastOf l) := Lib.hid rfl
          rw [hHi.out, hLo.out]
          have f1 : Fr Non w (w.drewN n) := (Fr.refl _ _).drewN n
          generalize w.drewN n = W1 at *
          have hle : leastOf l ≤ greatOf l := Int.le_trans (least_le l 0 hpos) (great_ge l 0 hpos)
          have hi64 := great_i64 HX.out
          have h64 := least_i64 HX.out
          have e1 := u64_diff hi64 h64 hle
          have hd := diff_lt HX.out
          have hk64 := width_le HX.out
          have HW := Lib.hid (show width l = Lib.bitLen (greatOf l - leastOf l).toNat from rfl)
          rw [HW.out] at hk64
          clear hle hi64 H01 H02 HS1 HS2 hHi hLo g0 hj hlt
          generalize (greatOf l - leastOf l).toNat = d at *
          go_wp2_with fail
          refine (tneed_any d W1 hd).mono ?_
          rintro e w2 ⟨rfl, rfl⟩
          generalize Lib.bitLen d = k at *
          clear hd e1
          go_wp2_with fail
          refine (rint_any (leastOf l) W1 h64.1 h64.2).mono ?_
          rintro e w2 ⟨v2, rfl, hown2, f2⟩
          obtain ⟨A2, c2, rfl⟩ := hown2.bs.shape
          have hul := Lib.uvarint_length64 (zig_lt h64.1 h64.2)
          have hB2 := Nat.le_trans f1.size f2.size
          have hown2 := hown2.mono (B' := w.heap.size) f1.size
          have f02 := f1.trans f2
          go_wp2_with (at_builtin; refine wpList_pushG el_u8 bv_oneC rfl (.tmp 54) (.tmp 57) rfl w.heap.size _ (Lib.uvarint (zig (leastOf l))) rfl hown2.ow _ k.toUInt8 (by unfold bv; rw [small64 hk64]) rfl (by omega) hB2 ?_; intro v3 w3 hown3 f3)
          have f03 := f02.fresh f3 (fun q hq => (hown2.lt q hq).1)
          have HPt : Hid (putT l = (Lib.uvarint (zig (leastOf l)) ++ [k.toUInt8]) ++ packB (allB k (leastOf l) l)) := Lib.hid (by
            rw [putT_some (by intro e; rw [e] at hpos; simp at hpos), HW.out]
            simp)
          have hHl : (Lib.uvarint (zig (leastOf l)) ++ [k.toUInt8]).length ≤ 11 := by rw [List.length_append, List.length_singleton]; omega
          have HLn := Lib.hid (allB_length k (leastOf l) l)
          have hLk : l.length * k ≤ 100000000 := by have := Nat.mul_le_mul hl hk64; omega
          have HLat : Hid (∀ (i t : Nat) (hi : i < l.length), t < k → (allB k (leastOf l) l)[i * k + t]? = some ((l[i] - leastOf l).toNat.testBit t)) := Lib.hid (fun i t hi ht => by
            have hp : i * k + t < (allB k (leastOf l) l).length := by rw [HLn.out]; exact place_lt ht hi
            rw [List.getElem?_eq_getElem hp, allB_at (leastOf l) l ht hi hp])
          have HLo := Lib.hid h64
          have HLe := Lib.hid (least_le l)
          have HWk : Hid (∀ i, i < l.length → i * k + k ≤ l.length * k) := Lib.hid (fun i hi => by
            have h1 := Nat.mul_le_mul_right k (show i + 1 ≤ l.length by omega)
            rwa [Nat.add_mul, Nat.one_mul] at h1)
          clear hown2 f2 f3 f02 f1 h64 hul hB2
          generalize Lib.uvarint (zig (leastOf l)) ++ [k.toUInt8] = H at *
          generalize allB k (leastOf l) l = L at *
          generalize leastOf l = lo at *
          go_loopw [7, 8, 9] (fun x y i wr => ∃ j : Nat, j ≤ l.length ∧ i = .int .i64 j ∧ y = .int .i64 (j * k : Nat) ∧ Ow bv 5 wr w.heap.size x (H ++ packB (L.take (j * k))) ∧ Fr Non w wr) (fun _ _ i _ => l.length - (intOf i).toNat)
          case atStart => exact ⟨0, Nat.zero_le _, rfl, by rw [Nat.zero_mul]; rfl, by rw [Nat.zero_mul, List.take_zero, show packB [] = [] from rfl, List.append_nil]; exact hown3, f03⟩
          case round =>
            clear hown3 f03
            obtain ⟨j, hj, rfl, rfl, hown, hfr⟩ := hrel
            by_cases hlt : j < l.length
            · have hc0 := HC.out a rfl j hlt
              have hc1 : wr.cell? (a.add j) = some (iv l[j]) := (hfr.cell (World.block_lt_of_cell? w _ hc0) (fun e => e)).trans hc0
              unfold iv at hc1
              have hxx := HX.out l[j] (by simp)
              have hle := HLe.out j hlt
              have hlo := HLo.out
              have e1 := u64_diff hxx hlo hle
              have HB := Lib.hid (fun t ht => HLat.out j t hlt ht)
              have hu64 : (l[j] - lo).toNat < 18446744073709551616 := by unfold I64 at hxx hlo; omega
              have hjk := HWk.out j hlt
              obtain ⟨A4, c4, rfl⟩ := hown.shape
              clear hxx hle hlo hc0
              generalize l[j] = x at *
              generalize (x - lo).toNat = u at *
              generalize hJ : j * k = J at *
              have HJ := Lib.hid hJ
              clear hJ
              go_wp2
              go_loopw [7, 8, 10, 11] (fun x y z i wr => ∃ t : Nat, t ≤ k ∧ i = .int .i64 t ∧ y = .int .i64 (J + t : Nat) ∧ z = .int .u64 (u / 2 ^ t : Nat) ∧ Ow bv 5 wr w.heap.size x (H ++ packB (L.take (J + t))) ∧ Fr Non w wr) (fun _ _ _ i _ => k - (intOf i).toNat)
              case atStart => exact ⟨0, Nat.zero_le _, rfl, rfl, by simp, hown, hfr⟩
              case round =>
                clear hown hfr
                obtain ⟨t, ht, rfl, rfl, rfl, hown, hfr⟩ := hrel
                by_cases htk : t < k
                · generalize hP : J + t = P at *
                  have hpl : P < L.length := by rw [HLn.out]; omega
                  have hbit : L[P] = u.testBit t := (by
                    have h1 := HB.out t htk
                    rw [hP, List.getElem?_eq_getElem hpl] at h1
                    simpa using h1)
                  have HP := Lib.hid hP
                  have HLl := Lib.hid hpl
                  have hm := Lib.hid (pk_more L hpl)
                  have hst := packB_step L hpl
                  rw [hbit] at hst
                  have HST := Lib.hid hst
                  have HSet := Lib.hid (fun x => set_app H (pk (L.take (P + 1)) P) (P / 8) x)
                  have hlen : Hid ((H ++ pk (L.take (P + 1)) P).length = H.length + P / 8 + 1) := Lib.hid (by rw [List.length_append, pk_length, take_len L hpl]; unfold need; omega)
                  have hat : Hid ((H ++ pk (L.take (P + 1)) P)[H.length + P / 8]? = some (pkn (L.take (P + 1)) P (P / 8)).toUInt8) := Lib.hid (by
                    rw [List.getElem?_append_right (by omega), Nat.add_sub_cancel_left]
                    exact pk_at _ (by rw [take_len L hpl]; omega))
                  have hql0 := Lib.hid (pkn_lt (L.take (P + 1)) (p := P) (by rw [take_len L hpl]; omega))
                  have hPb : P ≤ 100000000 := by rw [HLn.out] at hpl; omega
                  have hu2 : u / 2 ^ t < 18446744073709551616 := Nat.lt_of_le_of_lt (Nat.div_le_self _ _) hu64
                  have hbn : Hid ((u.testBit t).toNat = u / 2 ^ t % 2) := Lib.hid (Nat.toNat_testBit u t)
                  have hun : Hid (u / 2 ^ (t + 1) = u / 2 ^ t / 2) := Lib.hid (by rw [Nat.pow_succ, Nat.div_div_eq_div_mul])
                  generalize u / 2 ^ t = y at *
                  clear hP hst hbit hpl
                  by_cases h8 : P % 8 = 0
                  · have hb8 : ((P : Int) % 8 == 0) = true := by rw [beq_iff_eq]; omega
                    have hme := hm.out
                    rw [if_pos h8] at hme
                    have HME := Lib.hid hme
                    have hB := hfr.size
                    have hsm : (H ++ packB (L.take P)).length < 1099511627776 := by
                      have h1 := hlen.out
                      rw [HME.out] at h1
                      simp only [List.length_append, List.length_cons, List.length_nil] at h1 ⊢
                      omega
                    obtain ⟨A5, c5, rfl⟩ := hown.shape
                    clear hme h8
                    go_wp2_with (at_builtin; refine wpList_pushG el_u8 bv_oneC rfl (.tmp 81) (.tmp 82) rfl w.heap.size _ (H ++ packB (L.take P)) rfl hown _ (0 : UInt8) rfl rfl hsm hB ?_; intro v5 w5 hown5 hf5)
                    all_goals
                      have hZ : Ow bv 5 w5 w.heap.size v5 (H ++ pk (L.take (P + 1)) P) := by rw [HME.out, ← List.append_assoc]; exact hown5
                      have hfZ := hfr.fresh hf5 (fun q hq => (hown.lt q hq).1)
                      clear hown5 hf5 hown hfr
                      obtain ⟨g2, cap, rfl, hg2, hg2s, _, _⟩ := hZ.row (by rw [hlen.out]; omega)
                      rw [hlen.out] at hZ ⊢
                      have hq := hZ.cell hlen.out.symm (H.length + P / 8) _ hat.out
                      have hfz := hZ.frozen hlen.out.symm (H.length + P / 8)
                      unfold bv at hq
                      rw [small8 (pkn_lt8 _ _ _)] at hq
                      have hql := hql0.out
                      have HZ := Lib.hid hZ
                      have HF := Lib.hid hfZ
                      have hMb : H.length + P / 8 ≤ 1000000000 := by omega
                      clear hZ hfZ
                      generalize hQ : pkn (L.take (P + 1)) P (P / 8) = q at *
                      have HQ := Lib.hid hQ
                      clear hQ
                      generalize hM : H.length + P / 8 = M at *
                      have HM := Lib.hid hM
                      clear hM
                      have e2 : IntKind.i64.wrap (M : Int) = M := IntWalk.i64_in _ ⟨by omega, by omega⟩
                      go_wp2
                      go_region
                      have hs := (HZ.out.store hlen.out.symm M (q + (u.testBit t).toNat * 2 ^ (P % 8)).toUInt8).drew
                      rw [HSet.out, ← HST.out] at hs
                      unfold bv at hs
                      rw [small8 (bit_lt8 q (P % 8) (by omega) hql _), hbn.out, ← add_bit q y (P % 8) (by omega) hql] at hs
                      have hFs : Fr Non w (w5.setCell ⟨g2, M, none⟩ (.int .u8 (((q : Int) + (y : Int) % 2 * 2 ^ (P % 8)) % 256))).drew := (HF.out.setCell (p := ⟨g2, M, none⟩) (fun h => by have h : g2 < w.heap.size := h; omega) _).drew
                      have HS := Lib.hid hs
                      have HFS := Lib.hid hFs
                      clear hs hFs hq hfz
                      generalize (w5.setCell ⟨g2, M, none⟩ (.int .u8 (((q : Int) + (y : Int) % 2 * 2 ^ (P % 8)) % 256))).drew = W7 at *
                      go_wp2
                      go_roundw
                      case rel =>
                        refine ⟨t + 1, by omega, by go_num, by rw [← HP.out]; go_num, by rw [hun.out]; go_num, ?_, HFS.out⟩
                        rw [show J + (t + 1) = P + 1 by rw [← HP.out]; omega]
                        exact HS.out
                      case measure => simp [intOf]; omega
                  · have hb8 : ((P : Int) % 8 == 0) = false := by rw [beq_eq_false_iff_ne]; omega
                    have hme := hm.out
                    rw [if_neg h8] at hme
                    rw [← hme] at hown
                    have hZ := hown
                    have hfZ := hfr
                    clear hown hfr hme h8
                    obtain ⟨g2, cap, rfl, hg2, hg2s, _, _⟩ := hZ.row (by rw [hlen.out]; omega)
                    rw [hlen.out] at hZ ⊢
                    have hq := hZ.cell hlen.out.symm (H.length + P / 8) _ hat.out
                    have hfz := hZ.frozen hlen.out.symm (H.length + P / 8)
                    unfold bv at hq
                    rw [small8 (pkn_lt8 _ _ _)] at hq
                    have hql := hql0.out
                    have HZ := Lib.hid hZ
                    have HF := Lib.hid hfZ
                    have hMb : H.length + P / 8 ≤ 1000000000 := by omega
                    clear hZ hfZ
                    generalize hQ : pkn (L.take (P + 1)) P (P / 8) = q at *
                    have HQ := Lib.hid hQ
                    clear hQ
                    generalize hM : H.length + P / 8 = M at *
                    have HM := Lib.hid hM
                    clear hM
                    have e2 : IntKind.i64.wrap (M : Int) = M := IntWalk.i64_in _ ⟨by omega, by omega⟩
                    go_wp2
                    go_region
                    have hs := (HZ.out.store hlen.out.symm M (q + (u.testBit t).toNat * 2 ^ (P % 8)).toUInt8).drew
                    rw [HSet.out, ← HST.out] at hs
                    unfold bv at hs
                    rw [small8 (bit_lt8 q (P % 8) (by omega) hql _), hbn.out, ← add_bit q y (P % 8) (by omega) hql] at hs
                    have hFs : Fr Non w (wr.setCell ⟨g2, M, none⟩ (.int .u8 (((q : Int) + (y : Int) % 2 * 2 ^ (P % 8)) % 256))).drew := (HF.out.setCell (p := ⟨g2, M, none⟩) (fun h => by have h : g2 < w.heap.size := h; omega) _).drew
                    have HS := Lib.hid hs
                    have HFS := Lib.hid hFs
                    clear hs hFs hq hfz
                    generalize (wr.setCell ⟨g2, M, none⟩ (.int .u8 (((q : Int) + (y : Int) % 2 * 2 ^ (P % 8)) % 256))).drew = W7 at *
                    go_wp2
                    go_roundw
                    case rel =>
                      refine ⟨t + 1, by omega, by go_num, by rw [← HP.out]; go_num, by rw [hun.out]; go_num, ?_, HFS.out⟩
                      rw [show J + (t + 1) = P + 1 by rw [← HP.out]; omega]
                      exact HS.out
                    case measure => simp [intOf]; omega
                · obtain rfl : t = k := by omega
                  obtain ⟨A5, c5, rfl⟩ := hown.shape
                  go_wp2
                  go_roundw
                  case rel =>
                    have e : J + t = (j + 1) * t := by rw [← HJ.out, Nat.add_mul, Nat.one_mul]
                    exact ⟨j + 1, by omega, by go_num, by rw [← e], by rw [← e]; exact hown, hfr⟩
                  case measure => simp [intOf]; omega
            · obtain rfl : j = l.length := by omega
              rw [List.take_of_length_le (by rw [HLn.out]; exact Nat.le_refl _), ← HPt.out] at hown
              obtain ⟨A5, c5, rfl⟩ := hown.shape
              go_wp2
              go_ret
              exact ⟨_, rfl, hown.own, hfr⟩
end Go.Proofs.Ytdniififoahlaaa
