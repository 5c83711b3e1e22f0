/-
  Layer 8: the walk of dict.Get.
-/
import Derived.Test.YtdniififoahlaaaDict4
import Derived.Test.YtdniififoahlaaaDict5
namespace Go.Proofs.Ytdniififoahlaaa
set_option linter.unusedVariables false
set_option linter.unusedSimpArgs false
set_option maxRecDepth 100000
open Go.RowKit

theorem mostV_le {b : List UInt8} {K : Int} (h : 0 ≤ K) : (mostV b K : Int) ≤ K := by
  unfold mostV
  by_cases hm : mostOk b K = true
  · rw [if_pos hm]; exact (of_decide_eq_true hm).2
  · rw [if_neg hm]; exact h
theorem mostRx_len (b : List UInt8) (K : Int) : (mostR b K).length ≤ b.length := by
  unfold mostR
  split
  · exact rest_le b
  · simp
theorem pickD_len {u : List Tx} {at_ : List Int} {l : List Tx} (h : pickD u at_ = some l) : l.length = at_.length := by
  unfold pickD at h
  split at h
  · obtain rfl := Option.some.inj h
    rw [List.length_map]
  · cases h
theorem pickD_mem {u : List Tx} {at_ : List Int} {l : List Tx} (h : pickD u at_ = some l) : ∀ x ∈ l, x ∈ u := by
  unfold pickD at h
  split at h
  · rename_i hc
    obtain rfl := Option.some.inj h
    intro x hx
    obtain ⟨a, ha, rfl⟩ := List.mem_map.1 hx
    have h1 := hc a ha
    rw [← List.getElem_eq_getD (h := by omega)]
    exact List.getElem_mem _
  · cases h
theorem getM_len {b : List UInt8} {n : Int} {l : List Int} (h : getM b n = some l) : (l.length : Int) = n ∧ n ≤ 4096 := by
  unfold getM at h
  split at h
  · exact ⟨(getZ_is h).2.1, by omega⟩
  · cases h
theorem plainB_uniq {l : List Tx} {B : Nat} (hl : l.length ≤ 10000) (hx : ∀ x ∈ l, x.length ≤ B) (hB : B ≤ 1000000) : (plainB (uniq l)).length < 137438953472 := by
  have h1 := plainB_bound (l := uniq l) (B := B) (fun x h => hx x ((uniq_mem l x).1 h)) (by unfold two64; omega)
  have h2 := uniq_length l
  have h3 := Nat.mul_le_mul (show (uniq l).length ≤ 10000 by omega) (show B + 10 ≤ 1000010 by omega)
  omega

set_option maxHeartbeats 4000000 in
theorem xget_any (v : Value) (b : List UInt8) (n m : Int) (w : World) (hv : Bs w v b) (hvl : ∀ k, v.ownBlock = some k → k < w.heap.size) (hl : b.length ≤ 1000000) (h1 : -9223372036854775808 ≤ n) (h2 : n ≤ 9223372036854775807) (hm : m ≤ 9223372036854775807) :
    Calls Try.prog 11 #[v, .int .i64 n, .int .i64 m] w fun e w' => Gtx w' w.heap.size (dgetM b n m) e ∧ Fr Non w w' := by
  have HV := Lib.hid hv
  by_cases hn0 : n < 0
  · have hd : decide (n < 0) = true := by simpa using hn0
    have HNo : Hid (dgetM b n m = none) := Lib.hid (by unfold dgetM; rw [if_pos (.inl hn0)])
    clear hn0 hv
    go_enter Try.func11, Try.ntmps11
    go_wp2
    go_ret2
    exact ⟨gtx_no HNo.out, Fr.refl _ _⟩
  · by_cases hn4 : 4096 < n
    · have hd : decide (n < 0) = false := by simpa using hn0
      have hd4 : decide (4096 < n) = true := by simpa using hn4
      have HNo : Hid (dgetM b n m = none) := Lib.hid (by unfold dgetM; rw [if_pos (.inr hn4)])
      clear hn0 hv hn4
      go_enter Try.func11, Try.ntmps11
      go_wp2
      go_ret2
      exact ⟨gtx_no HNo.out, Fr.refl _ _⟩
    · obtain ⟨k, rfl⟩ := Int.eq_ofNat_of_zero_le (show 0 ≤ n by omega)
      have hk4 : k ≤ 4096 := by omega
      have hd : decide ((k : Int) < 0) = false := by simp
      have hd4 : decide (4096 < (k : Int)) = false := by simp; omega
      have HT : Hid (dgetM b k m = dgetK k b k m) := Lib.hid (by unfold dgetM; rw [if_neg (by omega)])
      obtain ⟨A, c, rfl⟩ := hv.shape
      have hkm : ((k : Int) + 1) - 1 = k := by omega
      have HKM := Lib.hid hkm
      have hcv := mostV_le (b := b) (K := (k : Int)) (by omega)
      have HRl := Lib.hid (mostRx_len b k)
      clear hn0 hv hn4 h1 h2 hkm
      go_enter Try.func11, Try.ntmps11
      go_wp2_with fail
      refine (from_any _ b w HV.out).mono ?_
      rintro e w1 ⟨rfl, hs1, hf1⟩
      have hbel := below_any w.heap.size b false ((k : Int) + 1) w1 hs1 (by omega)
      rw [HKM.out] at hbel
      go_wp2_with fail
      refine hbel.mono ?_
      rintro e w2 ⟨rfl, hs2, hf2⟩
      clear hbel
      have hCC : dgetK k b k m = (match getM (tkR m (mostR b k) (mostV b k)) k with
        | none => none
        | some at_ => match pickD (tks m (mostR b k) (mostV b k)) at_ with
          | none => none
          | some l => if dictB l = b then some l else none) := rfl
      rw [hCC] at HT
      clear hCC
      have HRl2 := HRl.out
      generalize mostV b k = q at *
      generalize mostR b k = r at *
      generalize mostB b k = bad at *
      go_wp2_with fail
      refine (dtake_any _ r bad q m w2 hs2 (by omega) hm).mono ?_
      rintro e w3 ⟨rfl, hown3, hs3, hf3⟩
      have hRt := tkR_len m r q
      have HKl := Lib.hid (tks_len m r q)
      have HKn := Lib.hid (tks_length m r q)
      generalize tks m r q = u at *
      generalize tkR m r q = t at *
      generalize tkB m r bad q = bad2 at *
      have hlft := left_any _ _ _ w3 hs3
      go_wp2_with fail
      refine hlft.mono ?_
      rintro e w4 ⟨rfl, rfl⟩
      have htk := take_any _ _ _ (t.length : Int) w3 hs3
      rw [(cut_all t).1] at htk
      clear hlft
      go_wp2_with fail
      refine htk.mono ?_
      rintro e w4 ⟨v4, rfl, hbs4, hnew4, hs4, hf4⟩
      clear htk
      have hu4 := hown3.vs.fr hf4 (fun y hy e => by have h1 := (hown3.lt y hy).1; have h2 : y = w.heap.size := e; have := hf1.size; have := hf2.size; have := hs1.1.lt; omega)
      have hfr4 : Fr Non w w4 := ((hf1.fresh hf2 (fun y hy => by have h2 : y = w.heap.size := hy; omega)).fresh hf3 (fun y hy => by have h2 : y = w.heap.size := hy; omega)).fresh hf4 (fun y hy => by have h2 : y = w.heap.size := hy; omega)
      have HU4 := Lib.hid hu4
      have HF4 := Lib.hid hfr4
      clear hu4 hs4 hf4 hnew4 hown3 hs3 hf3 hs2 hf2 hs1 hf1 hfr4
      have htg := tget_any v4 t (k : Int) w4 hbs4 (by omega) (by omega) (by omega)
      cases hg : getM t (k : Int) with
      | none =>
        rw [hg] at htg HT
        clear hg
        go_wp2_with fail
        refine htg.mono ?_
        rintro e w5 ⟨hgt, hf5⟩
        rcases hgt with ⟨_, rfl⟩ | ⟨_, _, h, _⟩
        · go_wp2
          go_ret2
          exact ⟨gtx_no HT.out, HF4.out.trans hf5⟩
        · cases h
      | some at_ =>
        rw [hg] at htg HT
        have hal := getM_len hg
        clear hg
        go_wp2_with fail
        refine htg.mono ?_
        rintro e w5 ⟨hgt, hf5⟩
        rcases hgt with ⟨h, _⟩ | ⟨at2, v5, he, rfl, hown5⟩
        · cases h
        · obtain rfl : at_ = at2 := by simpa using he
          clear he htg
          obtain ⟨A5, c5, rfl⟩ := hown5.shape
          have hpk := pick_any _ _ u at_ w5 (HU4.out.non hf5) hown5.vs (by omega) (by rw [HKn.out]; omega)
          have HF5 := Lib.hid (HF4.out.trans hf5)
          clear hown5 hf5
          cases hp : pickD u at_ with
          | none =>
            simp only [hp] at HT
            rw [hp] at hpk
            clear hp
            go_wp2_with fail
            refine hpk.mono ?_
            rintro e w6 ⟨hgt, hf6⟩
            rcases hgt with ⟨_, rfl⟩ | ⟨_, _, h, _⟩
            · go_wp2
              go_ret2
              exact ⟨gtx_no HT.out, HF5.out.trans hf6⟩
            · cases h
          | some lx =>
            simp only [hp] at HT
            rw [hp] at hpk
            have hxl : lx.length ≤ 4096 := by have := pickD_len hp; omega
            have HXm := Lib.hid (pickD_mem hp)
            clear hp
            have HXl : Hid (∀ x ∈ lx, x.length ≤ b.length) := Lib.hid (fun x hx => Nat.le_trans (HKl.out x (HXm.out x hx)) HRl2)
            go_wp2_with fail
            refine hpk.mono ?_
            rintro e w6 ⟨hgt, hf6⟩
            rcases hgt with ⟨h, _⟩ | ⟨lx2, v6, he, rfl, hown6⟩
            · cases h
            · obtain rfl : lx = lx2 := by simpa using he
              clear he hpk
              obtain ⟨A6, c6, rfl⟩ := hown6.shape
              have HF6 := Lib.hid (HF5.out.trans hf6)
              have HO6 := Lib.hid hown6
              have hdp := xput_any _ lx w6 hown6.vs (by omega) (fun x hx => by have := HXl.out x hx; omega) (plainB_uniq (by omega) HXl.out (by omega))
              have HB6 := Lib.hid ((HF6.out.size))
              have hB56 := hf6.size
              have HB5 := Lib.hid (HF5.out.size)
              clear hown6 hf6
              go_wp2_with fail
              refine hdp.mono ?_
              rintro e w7 ⟨v7, rfl, hown7, hf7⟩
              clear hdp
              have heq := equal_any v7 _ (dictB lx) b w7 hown7.bs (HV.out.non (HF6.out.trans hf7))
              have hO7 := (HO6.out.non hf7).mono (B' := w.heap.size) HB5.out
              have HO7 := Lib.hid hO7
              have HF7 := Lib.hid (HF6.out.trans hf7)
              clear hown7 hf7 hO7
              by_cases hd : dictB lx = b
              · rw [if_pos hd] at HT
                have hbb : (dictB lx == b) = true := by rw [hd]; simp
                rw [hbb] at heq
                clear hd hbb
                go_wp2_with fail
                refine heq.mono ?_
                rintro e w8 ⟨rfl, rfl⟩
                go_wp2
                go_ret2
                exact ⟨gtx_yes HT.out HO7.out, HF7.out⟩
              · rw [if_neg hd] at HT
                have hbb : (dictB lx == b) = false := by rw [beq_eq_false_iff_ne]; exact hd
                rw [hbb] at heq
                clear hd hbb
                go_wp2_with fail
                refine heq.mono ?_
                rintro e w8 ⟨rfl, rfl⟩
                go_wp2
                go_ret2
                exact ⟨gtx_no HT.out, HF7.out⟩
end Go.Proofs.Ytdniififoahlaaa
