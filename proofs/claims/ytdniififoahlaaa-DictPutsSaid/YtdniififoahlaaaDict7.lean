/-
  Layer 8: the walk of the document's Texts.
-/
import Derived.Test.YtdniififoahlaaaDict6
namespace Go.Proofs.Ytdniififoahlaaa
set_option linter.unusedVariables false
set_option linter.unusedSimpArgs false
set_option maxRecDepth 100000
open Go.RowKit

theorem textsM_bad {b : List UInt8} {n : Int} {m : Int} {k : Nat} (hk : (k : Int) ≤ n) (h : tkB m b false k = true) : textsM b n m = none := by
  unfold textsM
  rw [if_neg]
  rintro ⟨h0, _, h2, _⟩
  have := tkB_more (l := b) (fun e => by cases e) h (n.toNat - k)
  rw [show k + (n.toNat - k) = n.toNat by omega, h2] at this
  cases this
theorem textsM_neg {b : List UInt8} {n : Int} {m : Int} (h : n < 0) : textsM b n m = none := by
  unfold textsM; rw [if_neg (by omega)]
theorem textsM_at {b : List UInt8} {m : Int} {k : Nat} (hk : k ≤ 4096) : textsM b k m = if tkB m b false k = false ∧ tkR m b k = [] then some (tks m b k) else none := by
  unfold textsM
  simp only [Int.toNat_natCast]
  by_cases hc : tkB m b false k = false ∧ tkR m b k = []
  · rw [if_pos hc, if_pos ⟨by omega, by omega, hc.1, hc.2⟩]
  · rw [if_neg hc, if_neg (fun h => hc ⟨h.2.2.1, h.2.2.2⟩)]

set_option maxHeartbeats 4000000 in
theorem rtexts_any (v : Value) (b : List UInt8) (n m : Int) (w : World) (hv : Bs w v b) (hvl : ∀ k, v.ownBlock = some k → k < w.heap.size) (hl : b.length ≤ 1000000) (h1 : -9223372036854775808 ≤ n) (h2 : n ≤ 400) (hm : m ≤ 9223372036854775807) :
    Calls Try.prog 17 #[v, .int .i64 n, .int .i64 m] w fun e w' => Gtx w' w.heap.size (textsM b n m) e ∧ Fr Non w w' := by
  have S0 : ∀ W, W = w.alloc (.cells #[v, .bool false] 55) → SAt W w.heap.size (GeT w.heap.size) b false := by
    rintro W rfl
    exact ⟨v, Blk.new _ _ _, hv.non ((Fr.refl _ _).alloc _), (fun k hk e => by have := hvl k hk; unfold GeT at e; omega), by unfold GeT; omega, fun h => by cases h⟩
  have HS0 := Lib.hid S0
  obtain ⟨A, c, rfl, _⟩ := hv
  clear S0 hvl
  have f0 : Fr Non w (w.alloc (.cells #[.slice A b.length c, .bool false] 55)) := (Fr.refl _ _).alloc _
  have hz0 : (w.alloc (.cells #[.slice A b.length c, .bool false] 55)).heap.size = w.heap.size + 1 := by simp
  have s0 := HS0.out _ rfl
  go_enter Try.func17, Try.ntmps17
  go_wp2
  generalize w.alloc (.cells #[.slice A b.length c, .bool false] 55) = W0 at *
  have HF0 := Lib.hid f0
  have o0 : Ow sv 9 (W0.alloc (.cells #[] 9)) (w.heap.size + 1) (.slice (some ⟨w.heap.size + 1, 0, none⟩) 0 0) [] := ow_lit0 W0 _ _ hz0.symm (Nat.le_refl _)
  have s1 := s0.fr ((Fr.refl Non W0).alloc (.cells #[] 9)) (fun e => e) (fun k e => e.elim)
  have f1 := f0.alloc (.cells #[] 9)
  go_loopw [9, 10] (fun o i wx => ∃ k : Nat, k ≤ 400 ∧ ((k : Int) ≤ n ∨ k = 0) ∧ i = .int .i64 k ∧ Ow sv 9 wx (w.heap.size + 1) o (tks m b k) ∧ SAt wx w.heap.size (GeT w.heap.size) (tkR m b k) (tkB m b false k) ∧ Fr Non w wx) (fun _ i _ => 500 - (intOf i).toNat)
  case atStart => exact ⟨0, by omega, .inr rfl, rfl, o0, s1, f1⟩
  case round =>
    clear o0 s1 f1 s0
    obtain ⟨k, hk4, hkn, rfl, hown, hs, hfr⟩ := hrel
    have hRl := tkR_len m b k
    obtain ⟨A1, c1, hsh⟩ := hown.shape
    rw [tks_length] at hsh
    subst hsh
    have HTL := Lib.hid (tks_length m b k)
    have h500 : (k : Int) < 500 := by omega
    by_cases hlt : (k : Int) < n
    · cases hbad : tkB m b false k with
      | false =>
        rw [hbad] at hs
        obtain ⟨A2, c2, cc0, cc1, ff0, _⟩ := hs.cells
        have htx := rstext_any w.heap.size (GeT w.heap.size) _ _ m wr hs (by omega) hm
        have HO := Lib.hid hown
        have HFr := Lib.hid hfr
        have hsz := hfr.size
        have hpl : (tks m b k).length < 1099511627776 := by rw [HTL.out]; omega
        have HPl := Lib.hid hpl
        have HK1 : Hid (tks m b (k + 1) = tks m b k ++ [txtT (tkR m b k) m]) := Lib.hid rfl
        have HK2 : Hid (tkR m b (k + 1) = txtR (tkR m b k) m) := Lib.hid rfl
        have HK3 : Hid (tkB m b false (k + 1) = txtB (tkR m b k) m) := Lib.hid rfl
        clear hs hown hfr hpl hbad
        generalize hT : tks m b k = T at *
        have HTT := Lib.hid hT
        clear hT
        go_wp2_with fail
        refine htx.mono ?_
        rintro e w2 ⟨rfl, hs2, hf2⟩
        have ho2 := HO.out.fr hf2 (fun q hq e => by have h1 := (HO.out.lt q hq).1; have h2 : q = w.heap.size := e; omega)
        have hfr2 : Fr Non w w2 := HFr.out.fresh hf2 (fun q hq => by have h2 : q = w.heap.size := hq; omega)
        have hgl : w.heap.size + 1 ≤ w2.heap.size := by obtain ⟨_, hb, _⟩ := hs2; exact hb.lt
        have HS2 := Lib.hid hs2
        clear hs2 htx
        go_wp2_with (refine wpList_pushG el_str sv_one rfl (.tmp 31) (.tmp 35) rfl (w.heap.size + 1) (.slice A1 k c1) T rfl ho2 _ (txtT (tkR m b k) m) rfl rfl HPl.out hgl ?_; intro v' w' hown' hfr')
        go_roundw
        case rel =>
          refine ⟨k + 1, by omega, .inl (by omega), by go_num, by rw [HK1.out, ← HTT.out]; rw [← HTT.out] at hown'; exact hown', ?_, hfr2.fresh hfr' (fun q hq => by have h1 := (ho2.lt q hq).1; omega)⟩
          rw [HK2.out, HK3.out]
          exact HS2.out.fr hfr' (fun e => by have h1 := (ho2.lt _ e).1; omega) (fun q e => by have h1 := (ho2.lt q e).1; unfold GeT; omega)
        case measure => simp [intOf]; omega
      | true =>
        rw [hbad] at hs
        obtain ⟨A2, c2, cc0, cc1, ff0, _⟩ := hs.cells
        have HNo := Lib.hid (textsM_bad (n := n) (by omega) hbad)
        have hend := rend_any w.heap.size (GeT w.heap.size) _ _ wr hs
        rw [show (!true && (tkR m b k).isEmpty) = false from rfl] at hend
        clear hbad hs
        go_wp2_with fail
        refine hend.mono ?_
        rintro e w2 ⟨rfl, rfl⟩
        go_wp2
        go_ret2
        exact ⟨gtx_no HNo.out, hfr⟩
    · have hend := rend_any w.heap.size (GeT w.heap.size) _ _ wr hs
      have hd : decide ((k : Int) < n) = false := by simpa using hlt
      by_cases hneg : n < 0
      · have HNo := Lib.hid (textsM_neg (b := b) (m := m) hneg)
        obtain rfl : k = 0 := by omega
        have hne : (n != ((0 : Nat) : Int)) = true := by rw [bne_iff_ne]; omega
        have hne2 : (n != 0) = true := by rw [bne_iff_ne]; omega
        have hlt0 : ¬ (0 : Int) < n := by omega
        have hd0 : decide ((0 : Int) < n) = false := by simpa using hlt0
        clear hlt hkn
        cases hB : (!tkB m b false 0 && (tkR m b 0).isEmpty) with
        | false =>
          rw [hB] at hend
          go_wp2_with fail
          refine hend.mono ?_
          rintro e w2 ⟨rfl, rfl⟩
          go_wp2
          go_ret2
          exact ⟨gtx_no HNo.out, hfr⟩
        | true =>
          rw [hB] at hend
          go_wp2_with fail
          refine hend.mono ?_
          rintro e w2 ⟨rfl, rfl⟩
          go_wp2
          go_ret2
          exact ⟨gtx_no HNo.out, hfr⟩
      · obtain rfl : (k : Int) = n := by omega
        have HT := Lib.hid (textsM_at (b := b) (m := m) (show k ≤ 4096 by omega))
        have hdk : decide (k < k) = false := by simp
        by_cases hc : tkB m b false k = false ∧ tkR m b k = []
        · have HY := Lib.hid (HT.out.trans (if_pos hc))
          rw [hc.1, hc.2] at hend
          have hne : ((k : Int) != (k : Int)) = false := by simp
          clear hc hlt hkn
          go_wp2_with fail
          refine hend.mono ?_
          rintro e w2 ⟨rfl, rfl⟩
          go_wp2
          go_ret2
          exact ⟨gtx_yes HY.out (hown.mono (by omega)), hfr⟩
        · have HNo := Lib.hid (HT.out.trans (if_neg hc))
          have hb : (!tkB m b false k && (tkR m b k).isEmpty) = false := by
            rw [Bool.eq_false_iff]
            intro e
            simp at e
            exact hc e
          rw [hb] at hend
          clear hc hb hlt hkn
          go_wp2_with fail
          refine hend.mono ?_
          rintro e w2 ⟨rfl, rfl⟩
          go_wp2
          go_ret2
          exact ⟨gtx_no HNo.out, hfr⟩
end Go.Proofs.Ytdniififoahlaaa
