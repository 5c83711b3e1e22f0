/-
  Layer 8: the walk of the document's Get.
-/
import Derived.Test.YtdniififoahlaaaDict7
namespace Go.Proofs.Ytdniififoahlaaa
set_option linter.unusedVariables false
set_option linter.unusedSimpArgs false
set_option maxRecDepth 100000
open Go.RowKit

/-- what the document's Get answers -/
def rgetM (b : List UInt8) (n m : Int) : Option (List Tx) :=
  if tkB m (mostR b 400) (mostB b 400) (mostV b 400) = true then none else dgetK 400 b n m
theorem getM_nil_is {n : Int} {at_ : List Int} (h : getM [] n = some at_) : n = 0 ∧ at_ = [] := by
  have h2 := h
  unfold getM at h
  split at h
  · obtain ⟨h3, h4, _⟩ := getZ_is h
    have h0 : at_ = [] := by
      by_cases hn : at_ = []
      · exact hn
      · rw [putT_some hn] at h3
        have := congrArg List.length h3
        simp at this
    subst h0
    exact ⟨by simpa using h4.symm, rfl⟩
  · cases h
theorem dgetK_good {K : Int} {b : List UInt8} {n m : Int} {l : List Tx} (hn : n ≤ K) (h : dgetK K b n m = some l) : tkB m (mostR b K) (mostB b K) (mostV b K) = false := by
  obtain ⟨hd, hl, h4, at_, hg, hp⟩ := dgetK_is h
  have hu := uniq_length l
  subst hd
  have h1 := dict_most (l := l) (K := K) (by omega) (by omega)
  rw [h1.1, h1.2.1] at hg hp
  rw [h1.1, h1.2.1, h1.2.2]
  cases hb : tkB m (plainB (uniq l) ++ putT (placesD l)) false (uniq l).length with
  | false => rfl
  | true =>
    exfalso
    rw [tkB_left (fun e => by cases e) hb] at hg
    obtain ⟨rfl, rfl⟩ := getM_nil_is hg
    have : l = [] := List.eq_nil_of_length_eq_zero (by omega)
    subst this
    cases hb
theorem rgetM_is {b : List UInt8} {n m : Int} (hn : n ≤ 400) : rgetM b n m = dgetM b n m := by
  by_cases h0 : n < 0
  · have h1 : dgetM b n m = none := by unfold dgetM; exact if_pos (.inl h0)
    have h2 : dgetK 400 b n m = none := by
      unfold dgetK
      rw [getM_low h0]
    unfold rgetM
    rw [h1, h2]; simp
  · have hd : dgetM b n m = dgetK n b n m := by unfold dgetM; exact if_neg (by omega)
    rw [hd]
    unfold rgetM
    cases h : dgetK n b n m with
    | some l =>
      obtain ⟨h1, h2⟩ := dgetK_any (K' := 400) (Int.le_refl n) hn h
      have h3 := dgetK_good (Int.le_refl n) h
      rw [← h2, h3, h1]; simp
    | none =>
      split
      · rfl
      · cases h2 : dgetK 400 b n m with
        | none => rfl
        | some l =>
          have := (dgetK_any (K' := n) hn (Int.le_refl n) h2).1
          rw [this] at h; cases h

def pkL (u : List Tx) (l : List Int) : List Tx := l.map fun a => u.getD a.toNat []
theorem pkL_length (u : List Tx) (l : List Int) : (pkL u l).length = l.length := by simp [pkL]
theorem pkL_take {u : List Tx} {l : List Int} (k : Nat) (h : k < l.length) : pkL u (l.take (k + 1)) = pkL u (l.take k) ++ [u.getD l[k].toNat []] := by
  unfold pkL
  rw [List.take_succ_eq_append_getElem h, List.map_append]; rfl
theorem pkL_some {u : List Tx} {l : List Int} (h : ∀ a ∈ l, 0 ≤ a ∧ a < (u.length : Int)) : pickD u l = some (pkL u l) := pickD_some h

set_option maxHeartbeats 4000000 in
theorem rxget_any (v : Value) (b : List UInt8) (n m : Int) (w : World) (hv : Bs w v b) (hvl : ∀ k, v.ownBlock = some k → k < w.heap.size) (hl : b.length ≤ 1000000) (h1 : -9223372036854775808 ≤ n) (h2 : n ≤ 400) (hm : m ≤ 9223372036854775807) :
    Calls Try.prog 16 #[v, .int .i64 n, .int .i64 m] w fun e w' => Gtx w' w.heap.size (rgetM b n m) e ∧ Fr Non w w' := by
  have S0 : ∀ W, W = w.alloc (.cells #[v, .bool false] 55) → SAt W w.heap.size (GeT w.heap.size) b false := by
    rintro W rfl
    exact ⟨v, Blk.new _ _ _, hv.non ((Fr.refl _ _).alloc _), (fun k hk e => by have := hvl k hk; unfold GeT at e; omega), by unfold GeT; omega, fun h => by cases h⟩
  have HS0 := Lib.hid S0
  have HV := Lib.hid hv
  obtain ⟨A, c, rfl, _⟩ := hv
  clear S0 hvl
  have f0 : Fr Non w (w.alloc (.cells #[.slice A b.length c, .bool false] 55)) := (Fr.refl _ _).alloc _
  have hz0 : (w.alloc (.cells #[.slice A b.length c, .bool false] 55)).heap.size = w.heap.size + 1 := by simp
  have s0 := HS0.out _ rfl
  have HRG : Hid (rgetM b n m = if tkB m (mostR b 400) (mostB b 400) (mostV b 400) = true then none else
      match getM (tkR m (mostR b 400) (mostV b 400)) n with
        | none => none
        | some at_ => match pickD (tks m (mostR b 400) (mostV b 400)) at_ with
          | none => none
          | some l => if dictB l = b then some l else none) := Lib.hid rfl
  have hq := mostV_le (b := b) (K := 400) (by omega)
  have hrl := mostRx_len b 400
  have hbel := rbelow_any w.heap.size (GeT w.heap.size) b false 401 _ s0 (by omega) (by omega)
  rw [show (401 : Int) - 1 = 400 from rfl] at hbel
  have HSz := Lib.hid (getM_small (b := tkR m (mostR b 400) (mostV b 400)) h2)
  rw [HSz.out] at HRG
  clear HSz s0
  have HBo : Hid (mostB b 400 = true → mostR b 400 = []) := Lib.hid (by
    unfold mostB mostR
    split
    · intro h; exact (fell_zero h).2
    · intro _; rfl)
  generalize mostV b 400 = q at *
  generalize mostR b 400 = r at *
  generalize mostB b 400 = bad at *
  go_enter Try.func16, Try.ntmps16
  go_wp2_with fail
  refine hbel.mono ?_
  rintro e w1 ⟨rfl, hs1, hf1⟩
  have hfr1 := f0.fresh hf1 (fun k hk => by have h2 : k = w.heap.size := hk; omega)
  have hsz1 : w.heap.size + 1 ≤ w1.heap.size := by have := hf1.size; omega
  clear hbel f0 hz0 hf1
  go_wp2
  have hf2 : Fr Non w1 (w1.alloc (.cells #[] 9)) := (Fr.refl _ _).alloc _
  have o0 : Ow sv 9 (w1.alloc (.cells #[] 9)) (w.heap.size + 1) (.slice (some ⟨w1.heap.size, 0, none⟩) 0 0) [] := ow_lit0 w1 _ _ rfl hsz1
  have s1 := hs1.fr hf2 (fun e => e) (fun k e => e.elim)
  have f1 := hfr1.trans hf2
  go_loopw [10, 11] (fun o i wx => ∃ k : Nat, k ≤ q ∧ i = .int .i64 k ∧ Ow sv 9 wx (w.heap.size + 1) o (tks m r k) ∧ SAt wx w.heap.size (GeT w.heap.size) (tkR m r k) (tkB m r bad k) ∧ Fr Non w wx) (fun _ i _ => q - (intOf i).toNat)
  case atStart => exact ⟨0, by omega, rfl, o0, s1, f1⟩
  case round =>
    clear o0 s1 f1 hs1 hf2 hfr1
    obtain ⟨k, hkq, rfl, hown, hs, hfr⟩ := hrel
    have hRl := tkR_len m r k
    obtain ⟨A1, c1, hsh⟩ := hown.shape
    rw [tks_length] at hsh
    subst hsh
    have HTL := Lib.hid (tks_length m r k)
    obtain ⟨A2, c2, cc0, cc1, ff0, _, _, hbs2, hbl2, _⟩ := hs.cells
    have HB2 := Lib.hid hbs2
    have HBl2 := Lib.hid hbl2
    clear hbs2 hbl2
    cases hbad : tkB m r bad k with
    | true =>
      have hall : tkB m r bad q = true := by
        have := tkB_more HBo.out hbad (q - k)
        rwa [show k + (q - k) = q by omega] at this
      rw [if_pos hall] at HRG
      rw [hbad] at cc1
      clear hbad hs hall
      by_cases hlt : k < q
      · go_wp2
        go_ret2
        exact ⟨gtx_no HRG.out, hfr⟩
      · have hd : decide (k < q) = false := by simpa using hlt
        go_wp2
        go_ret2
        exact ⟨gtx_no HRG.out, hfr⟩
    | false =>
      rw [hbad] at hs cc1
      by_cases hlt : k < q
      · have htx := rstext_any w.heap.size (GeT w.heap.size) _ _ m wr hs (by omega) hm
        have HO := Lib.hid hown
        have HFr := Lib.hid hfr
        have hpl : (tks m r k).length < 1099511627776 := by rw [HTL.out]; omega
        have HPl := Lib.hid hpl
        have HK1 : Hid (tks m r (k + 1) = tks m r k ++ [txtT (tkR m r k) m]) := Lib.hid rfl
        have HK2 : Hid (tkR m r (k + 1) = txtR (tkR m r k) m) := Lib.hid rfl
        have HK3 : Hid (tkB m r bad (k + 1) = txtB (tkR m r k) m) := Lib.hid rfl
        clear hs hown hfr hpl hbad
        generalize hT : tks m r k = T at *
        have HTT := Lib.hid hT
        clear hT
        go_wp2_with fail
        refine htx.mono ?_
        rintro e w2 ⟨rfl, hs2, hf2⟩
        have ho2 := HO.out.fr hf2 (fun q hq e => by have h1 := (HO.out.lt q hq).1; have h2 : q = w.heap.size := e; omega)
        have hfr2 : Fr Non w w2 := HFr.out.fresh hf2 (fun q hq => by have h2 : q = w.heap.size := hq; omega)
        have hgl : w.heap.size + 1 ≤ w2.heap.size := by obtain ⟨_, hb, _⟩ := hs2; exact hb.lt
        have HS2 := Lib.hid hs2
        clear hs2 htx
        go_wp2_with (refine wpList_pushG el_str sv_one rfl (.tmp 34) (.tmp 38) rfl (w.heap.size + 1) (.slice A1 k c1) T rfl ho2 _ (txtT (tkR m r k) m) rfl rfl HPl.out hgl ?_; intro v' w' hown' hfr')
        go_roundw
        case rel =>
          refine ⟨k + 1, by omega, by go_num, by rw [HK1.out, ← HTT.out]; rw [← HTT.out] at hown'; exact hown', ?_, hfr2.fresh hfr' (fun q hq => by have h1 := (ho2.lt q hq).1; omega)⟩
          rw [HK2.out, HK3.out]
          exact HS2.out.fr hfr' (fun e => by have h1 := (ho2.lt _ e).1; omega) (fun q e => by have h1 := (ho2.lt q e).1; unfold GeT; omega)
        case measure => simp [intOf]; omega
      · obtain rfl : k = q := by omega
        rename World => W1
        rw [if_neg (by rw [hbad]; simp)] at HRG
        have hdk : decide (k < k) = false := by simp
        have HO := Lib.hid hown
        have HFr := Lib.hid hfr
        have HKl := Lib.hid (tks_len m r k)
        have HKn := Lib.hid HTL.out
        clear hs hbad hown hfr hlt
        have hblt : ∀ y, (Value.slice A2 (tkR m r k).length c2).ownBlock = some y → y < W1.heap.size := fun y hy => by
          have h1 := HBl2.out y hy
          have h2 := HFr.out.size
          unfold GeT at h1
          omega
        have htg := rtget_any _ (tkR m r k) n W1 HB2.out hblt (by omega) h1 h2
        clear hblt
        generalize tks m r k = u at *
        generalize tkR m r k = t at *
        cases hg : getZ t n with
        | none =>
          rw [hg] at HRG
          rw [hg] at htg
          clear hg
          go_wp2_with fail
          refine htg.mono ?_
          rintro e w5 ⟨hgt, hf5⟩
          rcases hgt with ⟨_, rfl⟩ | ⟨_, _, h, _⟩
          · go_wp2
            go_ret2
            exact ⟨gtx_no HRG.out, HFr.out.trans hf5⟩
          · cases h
        | some at_ =>
          rw [hg] at HRG
          rw [hg] at htg
          have hal := (getZ_is hg).2.1
          clear hg
          have hal2 : at_.length ≤ 400 := by omega
          clear hal
          go_wp2_with fail
          refine htg.mono ?_
          rintro e w5 ⟨hgt, hf5⟩
          rcases hgt with ⟨h, _⟩ | ⟨at2, v5, he, rfl, hown5⟩
          · cases h
          · obtain rfl : at_ = at2 := by simpa using he
            clear he htg
            obtain ⟨A5, c5, rfl⟩ := hown5.shape
            have HO5 := Lib.hid hown5
            have HF5 := Lib.hid (HFr.out.trans hf5)
            have HU5 := Lib.hid (HO.out.non hf5)
            have hsz5 := HF5.out.size
            clear hown5 hf5
            go_wp2
            have o0 : Ow sv 9 (w5.alloc (.cells #[] 9)) w5.heap.size (.slice (some ⟨w5.heap.size, 0, none⟩) 0 0) [] := ow_lit0 w5 _ _ rfl (Nat.le_refl _)
            have f5 : Fr Non w5 (w5.alloc (.cells #[] 9)) := (Fr.refl _ _).alloc _
            go_loopw [14, 15] (fun o i wx => ∃ j : Nat, j ≤ at_.length ∧ i = .int .i64 j ∧ Hid (∀ a ∈ at_.take j, 0 ≤ a ∧ a < (u.length : Int)) ∧ Ow sv 9 wx w5.heap.size o (pkL u (at_.take j)) ∧ Fr Non w5 wx) (fun _ i _ => at_.length - (intOf i).toNat)
            case atStart => exact ⟨0, Nat.zero_le _, rfl, Lib.hid (fun a h => by simp at h), o0, f5⟩
            case round =>
              clear o0 f5
              obtain ⟨j, hj, rfl, HIn, hown, hfr⟩ := hrel
              have hul : u.length = k := HKn.out
              by_cases hlt : j < at_.length
              · obtain ⟨d, rfl, _, _, hcd⟩ := (HO5.out.vs.non hfr).addr (by omega : 0 < at_.length)
                have g2 : wr.cell? (d.add j) = some (iv at_[j]) := hcd j hlt
                unfold iv at g2
                have HMm := Lib.hid (List.getElem_mem hlt)
                clear hcd
                by_cases hneg : at_[j] < 0
                · have hd : decide (at_[j] < 0) = true := by simpa using hneg
                  have HNo := Lib.hid (pickD_none (u := u) HMm.out (.inl hneg))
                  simp only [HNo.out] at HRG
                  clear hneg hul
                  generalize at_[j] = z at *
                  go_wp2
                  go_ret2
                  exact ⟨gtx_no HRG.out, HF5.out.trans hfr⟩
                · by_cases hbig : (u.length : Int) ≤ at_[j]
                  · have HNo := Lib.hid (pickD_none (u := u) HMm.out (.inr hbig))
                    simp only [HNo.out] at HRG
                    rw [hul] at hbig
                    have hd : decide (at_[j] < 0) = false := by simpa using hneg
                    have hd2 : decide ((k : Int) ≤ at_[j]) = true := by simpa using hbig
                    clear hbig hneg hul
                    generalize at_[j] = z at *
                    go_wp2
                    go_ret2
                    exact ⟨gtx_no HRG.out, HF5.out.trans hfr⟩
                  · have HIn2 : Hid (∀ a ∈ at_.take (j + 1), 0 ≤ a ∧ a < (u.length : Int)) := Lib.hid (by
                      intro a ha
                      rw [List.take_succ_eq_append_getElem hlt, List.mem_append] at ha
                      rcases ha with ha | ha
                      · exact HIn.out a ha
                      · obtain rfl : a = at_[j] := by simpa using ha
                        omega)
                    obtain ⟨p, hp⟩ := Int.eq_ofNat_of_zero_le (show 0 ≤ at_[j] by omega)
                    have HTk := Lib.hid (pkL_take (u := u) j hlt)
                    rw [hp] at g2 hbig hneg HTk
                    clear hp HMm
                    have hpu : p < u.length := by omega
                    have hpk : p < k := by omega
                    obtain ⟨d2, rfl, _, _, hcd2⟩ := (HU5.out.vs.non hfr).addr (by omega : 0 < k)
                    have g3 : wr.cell? (d2.add p) = some (sv u[p]) := hcd2 p hpu
                    have HU : Hid (u.getD p [] = u[p]) := Lib.hid (List.getElem_eq_getD (h := hpu) []).symm
                    unfold sv at g3
                    have hol : (pkL u (at_.take j)).length < 1099511627776 := by rw [pkL_length, List.length_take]; omega
                    clear hcd2 hbig hneg hul
                    generalize u[p] = x at *
                    generalize hT : pkL u (at_.take j) = T at *
                    have HTT := Lib.hid hT
                    clear hT
                    go_wp2_with (refine wpList_pushG el_str sv_one rfl (.tmp 76) (.tmp 84) rfl w5.heap.size u14 T rfl hown _ x rfl rfl hol hfr.size ?_; intro v' w' hown' hfr')
                    go_roundw
                    case rel =>
                      have hfin : Ow sv 9 w' w5.heap.size v' (pkL u (at_.take (j + 1))) := by
                        rw [HTk.out, Int.toNat_natCast, HU.out]; exact hown'
                      exact ⟨_, _, _, _, ⟨j + 1, by omega, by go_num, HIn2, hfin, hfr.fresh hfr' fun y hy => (hown.lt y hy).1⟩, rfl, rfl, rfl, rfl⟩
                    case measure => simp [intOf]; omega
              · obtain rfl : j = at_.length := by omega
                have hps := pkL_some (u := u) (l := at_) (by have := HIn.out; rwa [List.take_length] at this)
                have hxl := pickD_len hps
                have HXm := Lib.hid (pickD_mem hps)
                have hT : at_.take at_.length = at_ := List.take_length
                rw [hT] at hown
                simp only [hps] at HRG
                clear hps hT
                generalize pkL u at_ = lx at *
                have hx4 : lx.length ≤ 400 := by omega
                have HXl : Hid (∀ x ∈ lx, x.length ≤ b.length) := Lib.hid (fun x hx => Nat.le_trans (HKl.out x (HXm.out x hx)) hrl)
                obtain ⟨A6, c6, rfl⟩ := hown.shape
                have HO6 := Lib.hid hown
                have HF6 := Lib.hid (HF5.out.trans hfr)
                have HP := Lib.hid (fun W hW => rxput_any _ lx W ((HO6.out.vs).non hW) (by omega) (fun x hx => by have := HXl.out x hx; omega) (plainB_uniq (by omega) HXl.out (by omega)))
                have hVb := HV.out.non HF6.out
                have cB := run_conv_Bs hVb.drew 25 9 5 Try.underlying25 Try.underlying5 Try.underlying9
                have HVb := Lib.hid hVb
                have HCv := Lib.hid (fun (W : World) (u : Value) (l : List UInt8) (h : Bs W u l) => run_conv_Bs h 25 9 5 Try.underlying25 Try.underlying5 Try.underlying9)
                have HPw := Lib.hid (HP.out wr.drew ((Fr.refl Non wr).drew))
                have hB6 := hfr.size
                clear hVb hxl hul hown hfr
                by_cases he : dictB lx = b
                · rw [if_pos he] at HRG
                  have hbb : (dictB lx == b) = true := by simp [he]
                  clear he
                  go_wp2_with fail
                  go_region_with (first | (go_at_call 14; refine HPw.out.mono ?_; rintro e w7 ⟨u7, rfl, hown7, hf7⟩; have c7 := HCv.out w7 u7 _ hown7.bs; have c8 := HCv.out w7 _ b (HVb.out.drew.non hf7)))
                  all_goals
                    go_wp2
                    go_ret2
                    exact ⟨gtx_yes HRG.out ((HO6.out.drew.non hf7).mono (by omega)), (HF6.out.drew).trans hf7⟩
                · rw [if_neg he] at HRG
                  have hbb : (dictB lx == b) = false := by simp [he]
                  clear he
                  go_wp2_with fail
                  go_region_with (first | (go_at_call 14; refine HPw.out.mono ?_; rintro e w7 ⟨u7, rfl, hown7, hf7⟩; have c7 := HCv.out w7 u7 _ hown7.bs; have c8 := HCv.out w7 _ b (HVb.out.drew.non hf7)))
                  all_goals
                    go_wp2
                    go_ret2
                    exact ⟨gtx_no HRG.out, (HF6.out.drew).trans hf7⟩
end Go.Proofs.Ytdniififoahlaaa
