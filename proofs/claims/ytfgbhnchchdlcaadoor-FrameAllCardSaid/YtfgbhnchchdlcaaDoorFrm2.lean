/-
  Layer 3: the walks of frame.length, frame.first, frame.Get.
-/
import Derived.Test.YtfgbhnchchdlcaaDoorFrm1
import Derived.Deep.RegionWith
namespace Go.Proofs.YtfgbhnchchdlcaaDoor
set_option linter.unusedVariables false
set_option linter.unusedSimpArgs false
open Go.RowKit

theorem ret_two {v : Value} {k : IntKind} {a b : Int} (h : a = b) : Ending.returned (.tuple #[v, .int k a]) = .returned (.tuple #[v, .int k b]) := by rw [h]
theorem Bs.drewN {w : World} {v : Value} {l : List UInt8} (h : Bs w v l) (n : Nat) : Bs (w.drewN n) v l := h
theorem Tab.drewN {w : World} (h : Tab w) (n : Nat) : Tab (w.drewN n) := h
theorem ret_three {v : Value} {k j : IntKind} {a b c d : Int} (h : a = b) (h2 : c = d) : Ending.returned (.tuple #[v, .int k a, .int j c]) = .returned (.tuple #[v, .int k b, .int j d]) := by rw [h, h2]
/-- a slice's beginning -/
theorem Bs.pre {w : World} {A : Option Addr} {n c k : Nat} {l : List UInt8} (h : Bs w (.slice A n c) l) (hk : k ≤ n) : Bs w (.slice A k c) (l.take k) := by
  obtain ⟨A0, c0, he, h1, h2, h3⟩ := h
  simp only [Value.slice.injEq] at he
  obtain ⟨rfl, rfl, rfl⟩ := he
  have hl : (l.take k).length = k := by rw [List.length_take]; omega
  refine ⟨A, c, by rw [hl], by rw [hl]; omega, h2, fun a ha j hj => ?_⟩
  rw [h3 a ha j (by rw [hl] at hj; omega)]
  simp

set_option maxHeartbeats 1000000 in
theorem flength_any (v : Value) (l : List UInt8) (w : World) (hv : Bs w v l) (hl : l.length ≤ 9223372036854775807) :
    Calls Tryd.prog 29 #[v] w fun e w' => e = .returned (.tuple #[.int .i64 (hN l), .int .i64 (hS l)]) ∧ Fr Non w w' := by
  have HB := Lib.hid hv
  obtain ⟨A, c, rfl, hlc, _⟩ := hv
  have h0 : Calls Tryd.prog 18 #[.int .u64 1048576] w _ := vnum_any 1048576 w (by unfold two64; omega)
  have H3 := Lib.hid (head3 l)
  have HL := Lib.hid (min3 l)
  have key : ∀ (w1 : World) (n : Nat), n = (l.take 3).length → Fr Non w w1 → Bs w1 (.slice A n c) (l.take 3) := by
    intro w1 n hn hf
    subst hn
    rw [HL.out]
    have := (HB.out.non hf).pre (k := min l.length 3) (by omega)
    rwa [List.take_eq_take_iff.2 (show min (min l.length 3) l.length = min 3 l.length by omega)] at this
  have HK := Lib.hid key
  clear key
  have HA := Lib.hid (fun (W : World) o => (Fr.refl Non W).alloc o)
  have goal2 : ∀ n : Nat, n = (l.take 3).length → (n = 3 ∧ 3 < l.length ∨ n = l.length ∧ ¬ 3 < l.length) → Calls Tryd.prog 29 #[.slice A l.length c] w fun e w' => e = .returned (.tuple #[.int .i64 (hN l), .int .i64 (hS l)]) ∧ Fr Non w w' := by
    intro n hn hc
    have HN := Lib.hid hn
    clear hn
    rcases hc with ⟨rfl, h3⟩ | ⟨rfl, h3⟩
    all_goals
      go_enter Tryd.func29, Tryd.ntmps29
      go_wp2_with fail
      refine h0.mono ?_
      rintro e w1 ⟨v1, rfl, hown1, hfr1⟩
      obtain ⟨A1, c1, rfl⟩ := hown1.bs.shape
      rw [uv_big20]
      have HF1 := Lib.hid hfr1
      clear hown1 hfr1 h0
      have h3' : (3 : Int) < l.length ∨ ¬ (3 : Int) < l.length := by omega
      go_wp2_with fail
      refine (from_any _ (l.take 3) w1 (HK.out _ _ HN.out HF1.out)).mono ?_
      rintro e w2 ⟨rfl, hs2, hf2⟩
      go_wp2_with fail
      refine (below_any w1.heap.size (l.take 3) false 1048577 w2 hs2 (by omega)).mono ?_
      rintro e w3 ⟨rfl, hs3, hf3⟩
      have hf : Fr Non w w3 := (HF1.out.trans hf2).fresh hf3 (fun k hk => by have e : k = w1.heap.size := hk; have := HF1.out.size; omega)
      have HF := Lib.hid hf
      clear hf hf2 hf3 hs2
      rw [show (1048577 : Int) - 1 = 1048576 by omega] at hs3 ⊢
      have HS := Lib.hid hs3
      go_wp2_with fail
      refine (ok_any _ _ _ w3 HS.out).mono ?_
      rintro e w4 ⟨rfl, rfl⟩
      rcases H3.out with ⟨e1, e2, e3⟩ | ⟨e1, e2, e3, e4⟩
      · rw [e1]
        have HE := Lib.hid (And.intro e2 e3)
        clear e2 e3 e1
        go_wp2_with fail
        go_ret2
        rw [HE.out.1, HE.out.2]
        exact ⟨rfl, HF.out⟩
      · rw [e1, e2]
        have HE := Lib.hid (And.intro e3 HN.out)
        clear e2 e3 e4 e1
        generalize hs2 : hS l = s at *
        generalize hm2 : hN l = m at *
        have HS2 := Lib.hid hs2
        have HM2 := Lib.hid hm2
        clear hs2 hm2
        go_wp2_with fail
        refine (left_any _ _ _ w3 HS.out).mono ?_
        rintro e w5 ⟨rfl, rfl⟩
        have HQ : Hid (_ = s + (mostR (l.take 3) 1048576).length) := Lib.hid (HE.out.2.trans HE.out.1)
        clear HE HS hs3
        generalize (mostR (l.take 3) 1048576).length = r at *
        have hb : r ≤ l.length := by have := HQ.out; have := min3 l; omega
        go_wp2_with fail
        go_ret2
        refine ⟨?_, HF.out⟩
        rw [HM2.out, HS2.out]
        refine ret_two ?_
        have := HQ.out; omega
  by_cases h3 : 3 < l.length
  · exact goal2 3 (by rw [HL.out]; omega) (.inl ⟨rfl, h3⟩)
  · exact goal2 l.length (by rw [HL.out]; omega) (.inr ⟨rfl, h3⟩)
theorem slice_lh (A : Option Addr) (n c k m : Nat) (kl kh : IntKind) (z y : Int) (hz : z = (k : Int)) (hy : y = (m : Int)) (hk : k ≤ m) (hm : m ≤ n) (hn : n ≤ c) :
    ∃ A' c', (∀ W, (Instr.slice 22 (.slice A n c) (some (.int kl z)) (some (.int kh y)) none).run Tryd.prog W = .ok (.slice A' (m - k) c') W) ∧
      (∀ W l, l.length = n → Bs W (.slice A n c) l → Bs W (.slice A' (m - k) c') ((l.drop k).take (m - k))) ∧ (Value.slice A' (m - k) c').ownBlock = (Value.slice A n c).ownBlock := by
  subst hz hy
  refine ⟨if c = k then A else A.map (·.add k), c - k, fun W => ?_, ?_, ?_⟩
  · rw [run_slice_any W 22 A n c Tryd.underlying22]
    have hb : (Instr.sliceBounds true n c (some (.int kl (k : Int))) (some (.int kh (m : Int))) none).run Tryd.prog W = .ok (k, m, c) W := by
      simp [Instr.sliceBounds, run_sliceBound, hk, show m ≤ c by omega]
    rw [hb]
    simp only [Result.andThen_ok, sz_u8]
    simp [sliced]
  · rintro W l hl ⟨A0, c0, he, h1, h2, h3⟩
    simp only [Value.slice.injEq] at he
    obtain ⟨rfl, hl', rfl⟩ := he
    have hlen : ((l.drop k).take (m - k)).length = m - k := by rw [List.length_take, List.length_drop]; omega
    refine ⟨if c = k then A else A.map (·.add k), c - k, by rw [hlen], by rw [hlen]; omega, fun e => ?_, fun a ha j hj => ?_⟩
    · split at e
      · have := h2 e; omega
      · have := h2 (by simpa using e); omega
    · rw [hlen] at hj
      rw [if_neg (by omega)] at ha
      cases A with
      | none => cases ha
      | some b =>
        obtain rfl : b.add k = a := by simpa using ha
        rw [add_add, h3 b rfl (k + j) (by omega)]
        simp
  · split
    · cases A <;> rfl
    · cases A <;> simp [Value.ownBlock, add_block]

set_option maxHeartbeats 1000000 in
theorem ffirst_any (v : Value) (l : List UInt8) (w : World) (hv : Bs w v l) (ht : Tab w) (hl : l.length < 1099511627776) :
    Calls Tryd.prog 20 #[v] w fun e w' => ∃ u, e = .returned (.tuple #[u, .int .i64 (gN l), .int .i64 (gE l)]) ∧ Bs w' u (gB l) ∧ Fr Non w w' ∧ ∀ k, u.ownBlock = some k → v.ownBlock = some k := by
  have HB := Lib.hid hv
  have HT := Lib.hid ht
  obtain ⟨A, c, rfl, hlc, _⟩ := hv
  clear ht
  have h0 := flength_any _ l w HB.out (by omega)
  have hs0 := hS_le l
  have hn0 := hN_le l
  by_cases hf : fits l = true
  · have hb := of_decide_eq_true (show decide (hS l ≠ 0 ∧ hS l + 4 + hN l ≤ l.length) = true from hf)
    have HF := Lib.hid hf
    have HGB : Hid (bodyF l = (l.drop (hS l + 4)).take (hN l)) := Lib.hid rfl
    have HGS : Hid (sumOk l = ((l.drop (hS l)).take 4 == sum4 (sumOf 0 (bodyF l)))) := Lib.hid rfl
    clear hf
    generalize hs2 : hS l = s at *
    generalize hm2 : hN l = m at *
    have HS2 := Lib.hid hs2
    have HM2 := Lib.hid hm2
    clear hs2 hm2
    obtain ⟨A1, c1, hrun1, hbs1, how1⟩ := slice_lh A l.length c (s + 4) (s + 4 + m) .i64 .i64 ((s : Int) + 4) ((s : Int) + 4 + m) (by omega) (by omega) (by omega) (by omega) hlc
    obtain ⟨ad, rfl⟩ : ∃ ad, A = some ad := by
      cases A with
      | some ad => exact ⟨ad, rfl⟩
      | none =>
        obtain ⟨_, _, he, h1, h2, _⟩ := HB.out
        simp only [Value.slice.injEq] at he
        obtain ⟨rfl, _, rfl⟩ := he
        have := h2 rfl
        omega
    have hbs2 : ∀ W, Bs W (.slice (some ad) l.length c) l → Bs W (.slice (some (ad.add s)) 4 (c - s)) ((l.drop s).take 4) := by
      rintro W ⟨A0, c0, he, h1, h2, h3⟩
      simp only [Value.slice.injEq] at he
      obtain ⟨rfl, hl', rfl⟩ := he
      have hlen : ((l.drop s).take 4).length = 4 := by rw [List.length_take, List.length_drop]; omega
      refine ⟨some (ad.add s), c - s, by rw [hlen], by rw [hlen]; omega, (fun h => by cases h), fun a ha j hj => ?_⟩
      cases ha
      rw [hlen] at hj
      rw [add_add, h3 ad rfl (s + j) (by omega)]
      simp
    rw [show s + 4 + m - (s + 4) = m by omega] at hrun1 hbs1 how1
    have H1 := Lib.hid (fun W h => hbs1 W l rfl h)
    have H2 := Lib.hid hbs2
    have HO := Lib.hid how1
    clear hbs1 hbs2 how1
    have hz : ((s : Int) == 0) = false := by rw [beq_eq_false_iff_ne]; omega
    go_enter Tryd.func20, Tryd.ntmps20
    go_wp2_with fail
    refine h0.mono ?_
    rintro e w1 ⟨rfl, hfr⟩
    have HB1 := Lib.hid (HB.out.non hfr)
    have HT1 := Lib.hid (HT.out.non hfr)
    have HFR := Lib.hid hfr
    clear hfr h0
    go_wp2_with fail
    have Hb := Lib.hid (H1.out _ HB1.out)
    have HbL := Lib.hid (show ((l.drop (s + 4)).take m).length ≤ 9223372036854775807 by rw [List.length_take]; omega)
    have t1 : (0 : Int) ≤ s + 4 := by omega
    have t6 : IntKind.i64.wrap ((s : Int) + 4) = s + 4 := IntWalk.i64_in _ ⟨by omega, by omega⟩
    have t2 : ((s : Int) + 4).toNat = s + 4 := by omega
    have t3 : ¬ (c = s) := by omega
    have t4 : s + 4 ≤ c := by omega
    have t5 : (s : Int) + 4 ≤ c := by omega
    clear hrun1
    go_region_with (first | (go_at_call 19; refine (fsum_any _ _ _ (Hb.out.drewN _) (HT1.out.drewN _) HbL.out).mono ?_; rintro e w3 ⟨v3, rfl, hown3, hfr3⟩) | (go_at_call 30; refine (equal_any _ _ _ _ _ (H2.out _ ((HB1.out.drewN _).non hfr3)) hown3.bs).mono ?_; rintro e w4 ⟨rfl, rfl⟩))
    all_goals
      have hfr : Fr Non w w3 := HFR.out.trans (w1 := w1) ⟨hfr3.os, hfr3.tape, hfr3.output, hfr3.size, hfr3.block⟩
      have HR := Lib.hid hfr
      have HBb := Lib.hid (Hb.out.non (w' := w3) ⟨hfr3.os, hfr3.tape, hfr3.output, hfr3.size, hfr3.block⟩)
      clear hfr hown3 hfr3
      rw [← HGB.out]
      rw [← HGB.out] at HBb
      rw [← HGS.out]
      have HF2 := Lib.hid (show gE l = (if sumOk l then 0 else 13) ∧ gB l = (if sumOk l then bodyF l else []) ∧ gN l = (if sumOk l then hS l + 4 + hN l else 0) by
        unfold gE gB gN; rw [HF.out]; exact ⟨rfl, rfl, rfl⟩)
      cases hq : sumOk l
      · go_wp2
        go_ret3
        rw [HF2.out.1, HF2.out.2.1, HF2.out.2.2, hq]
        exact ⟨_, rfl, Bs.nil_ _, HR.out, fun k hk => by cases hk⟩
      · go_wp2
        go_ret3
        rw [HF2.out.1, HF2.out.2.1, HF2.out.2.2, hq, HS2.out, HM2.out]
        refine ⟨.slice A1 m c1, ?_, HBb.out, HR.out, fun k hk => by rw [← HO.out]; exact hk⟩
        exact ret_three (by simp) (by simp)
  · have hf' : fits l = false := by simpa using hf
    have HF2 := Lib.hid (show gE l = 2 ∧ gB l = [] ∧ gN l = 0 by unfold gE gB gN; rw [hf']; exact ⟨rfl, rfl, rfl⟩)
    have hb : ¬ (hS l ≠ 0 ∧ hS l + 4 + hN l ≤ l.length) := of_decide_eq_false hf'
    clear hf hf'
    have fin : ∀ w', Fr Non w w' → ∃ u, Ending.returned (.tuple #[.slice none 0 0, .int .i64 0, .int .i64 2]) = Ending.returned (.tuple #[u, .int .i64 (gN l), .int .i64 (gE l)]) ∧ Bs w' u (gB l) ∧ Fr Non w w' ∧ ∀ k, u.ownBlock = some k → (Value.slice A l.length c).ownBlock = some k := by
      intro w' h
      rw [HF2.out.1, HF2.out.2.1, HF2.out.2.2]
      exact ⟨_, rfl, Bs.nil_ _, h, fun k hk => by cases hk⟩
    have FIN := Lib.hid fin
    clear fin HF2
    generalize hS l = s at *
    generalize hN l = m at *
    by_cases h0s : s = 0
    · subst h0s
      go_enter Tryd.func20, Tryd.ntmps20
      go_wp2_with fail
      refine h0.mono ?_
      rintro e w1 ⟨rfl, hfr⟩
      go_wp2
      go_ret3
      exact FIN.out _ hfr
    · have hz : ((s : Int) == 0) = false := by rw [beq_eq_false_iff_ne]; omega
      have hlt : (l.length : Int) < s + 4 + m := by omega
      go_enter Tryd.func20, Tryd.ntmps20
      go_wp2_with fail
      refine h0.mono ?_
      rintro e w1 ⟨rfl, hfr⟩
      go_wp2
      go_ret3
      exact FIN.out _ hfr

theorem fget_any (v : Value) (l : List UInt8) (w : World) (hv : Bs w v l) (ht : Tab w) (hl : l.length < 1099511627776) :
    Calls Tryd.prog 9 #[v] w fun e w' => ∃ u, e = .returned (.tuple #[u, .int .i64 (gN l), .int .i64 (gE l)]) ∧ Own w' w.heap.size u (gB l) ∧ Fr Non w w' := by
  have h0 := ffirst_any v l w hv ht hl
  have hb : Hid ((gB l).length < 140737488355328) := Lib.hid (by
    unfold gB; split
    · unfold bodyF; rw [List.length_take]; have := hN_le l; omega
    · simp)
  clear hv ht
  go_enter Tryd.func9, Tryd.ntmps9
  go_wp2_with fail
  refine h0.mono ?_
  rintro e w1 ⟨u, rfl, hu, hf, _⟩
  go_wp2_with fail
  refine (clone_any u _ w1 hu hb.out).mono ?_
  rintro e w2 ⟨u2, rfl, hown, hf2⟩
  go_wp2
  go_ret3
  exact ⟨u2, rfl, hown.mono hf.size, hf.trans hf2⟩
end Go.Proofs.YtfgbhnchchdlcaaDoor
