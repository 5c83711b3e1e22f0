/-
  Layer 3: the walk of the law FrameTells.
-/
import Derived.Test.YtfgbhnchchdlcaaDoorFrm3
import Derived.Test.YtfgbhnchchdlcaaDoorCrc4
import Derived.RegionTactic
namespace Go.Proofs.YtfgbhnchchdlcaaDoor
set_option linter.unusedVariables false
set_option linter.unusedSimpArgs false
open Go.RowKit

theorem from_len (l : List UInt8) : (frameB l).length - l.length = (Lib.uvarint l.length).length + 4 := by rw [frame_length]; omega

set_option maxHeartbeats 4000000 in
theorem frameTells_walk (v : Value) (l : List UInt8) (z : Int) (x0 x1 x2 x3 : UInt8) (w : World) (hv : Bs w v l) (ht : Tab w) (h1 : -9223372036854775808 ≤ z) (h2 : z ≤ 9223372036854775807) :
    Calls Tryd.prog 5 #[v, .int .i64 z, .agg #[.int .u8 x0.toNat, .int .u8 x1.toNat, .int .u8 x2.toNat, .int .u8 x3.toNat]] w fun e w' => e = .returned (.bool true) ∧ Below w.heap.size w w' := by
  have HB := Lib.hid hv
  have HT := Lib.hid ht
  have HA := Lib.hid (fun (W : World) o => (Fr.refl Non W).alloc o)
  obtain ⟨A, c, rfl, _⟩ := hv
  clear ht
  by_cases hbig : 1000 < l.length
  · go_enter Tryd.func5, Tryd.ntmps5
    go_wp2_with fail
    refine (flive_any _ (HT.out.non (HA.out _ _))).mono ?_
    rintro e w1 ⟨rfl, hf1⟩
    go_wp2
    go_ret
    exact ⟨rfl, ((HA.out _ _).trans hf1).below⟩
  have d1 : decide ((1000 : Int) < (l.length : Int)) = false := decide_eq_false (by omega)
  have hsmall : (l.length : Int) ≤ 1000 := by omega
  have HX0 := Lib.hid (Blk.new w 37 (four x0 x1 x2 x3))
  have HL5 := Lib.hid (show l.length < 549755813888 by omega)
  have HFR := Lib.hid (frame_length l)
  have HU1 := Lib.hid (uv_pos l.length)
  have HU2 := Lib.hid (Lib.uvarint_length64 (x := l.length) (by omega))
  have Hput := Lib.hid (fput_any (.slice A l.length c) l (w.alloc (.cells (four x0 x1 x2 x3) 37)) (HB.out.non (HA.out _ _)) (HT.out.non (HA.out _ _)) HL5.out)
  -- the cases in which nothing is turned
  by_cases hbad : z < (Lib.uvarint l.length).length + 4 ∨ ((frameB l).length : Int) ≤ z ∨ x0 = 0
  · have fin : ∀ (w1 : World), Fr Non (w.alloc (.cells (four x0 x1 x2 x3) 37)) w1 → Blk w1 w.heap.size 37 (four x0 x1 x2 x3) := fun w1 hf => HX0.out.fr hf (fun e => e)
    have FIN := Lib.hid fin
    have hbd := HFR.out
    have hu1 := HU1.out
    have hu2 := HU2.out
    clear fin
    generalize (Lib.uvarint l.length).length = p at *
    have hcs : (z < (p : Int) + 4) ∨ (¬ z < (p : Int) + 4 ∧ ((frameB l).length : Int) ≤ z) ∨ (¬ z < (p : Int) + 4 ∧ ¬ ((frameB l).length : Int) ≤ z ∧ x0 = 0) := by
      by_cases a1 : z < (p : Int) + 4
      · exact .inl a1
      by_cases a2 : ((frameB l).length : Int) ≤ z
      · exact .inr (.inl ⟨a1, a2⟩)
      rcases hbad with h | h | h
      · exact absurd h a1
      · exact absurd h a2
      · exact .inr (.inr ⟨a1, a2, h⟩)
    clear hbad
    go_enter Tryd.func5, Tryd.ntmps5
    go_wp2_with fail
    refine Hput.out.mono ?_
    rintro e w1 ⟨v1, rfl, hown1, hfr1⟩
    obtain ⟨A1, c1, rfl⟩ := hown1.bs.shape
    have hc0 := (FIN.out _ hfr1).cell 0
    simp [four] at hc0
    have HF1 := Lib.hid ((HA.out _ _).trans hfr1)
    clear hown1 hfr1
    generalize (frameB l).length = n at *
    have hw : wrap64 ((n : Int) - l.length) = (p : Int) + 4 := by unfold wrap64; omega
    have e1 : decide ((p : Int) + 4 < 0) = false := decide_eq_false (by omega)
    have e1b : decide ((n : Int) - l.length < 0) = false := decide_eq_false (by omega)
    have e1c : (0 : Int) ≤ (n : Int) - l.length := by omega
    have e2 : (0 : Int) ≤ (p : Int) + 4 := by omega
    have e3 : (0 : Int) < n := by omega
    rcases hcs with a1 | ⟨a1, a2⟩ | ⟨a1, a2, a3⟩
    · have a2' : decide (z < (p : Int) + 4) = true := decide_eq_true (by omega)
      have a2b : decide (z < (n : Int) - l.length) = true := decide_eq_true (by omega)
      clear hbd
      go_wp2_with fail
      refine (flive_any _ (HT.out.non HF1.out)).mono ?_
      rintro e w2 ⟨rfl, hf2⟩
      go_wp2_with fail
      go_ret
      exact ⟨rfl, (HF1.out.trans hf2).below⟩
    · have a2' : decide (z < (p : Int) + 4) = false := decide_eq_false (by omega)
      have a2b : decide (z < (n : Int) - l.length) = false := decide_eq_false (by omega)
      have a3' : decide ((n : Int) ≤ z) = true := decide_eq_true (by omega)
      clear hbd
      go_wp2_with fail
      refine (flive_any _ (HT.out.non HF1.out)).mono ?_
      rintro e w2 ⟨rfl, hf2⟩
      go_wp2_with fail
      go_ret
      exact ⟨rfl, (HF1.out.trans hf2).below⟩
    · have a2' : decide (z < (p : Int) + 4) = false := decide_eq_false (by omega)
      have a2b : decide (z < (n : Int) - l.length) = false := decide_eq_false (by omega)
      have a3' : decide ((n : Int) ≤ z) = false := decide_eq_false (by omega)
      subst a3
      clear hbd
      go_wp2_with fail
      refine (flive_any _ (HT.out.non HF1.out)).mono ?_
      rintro e w2 ⟨rfl, hf2⟩
      go_wp2_with fail
      go_ret
      exact ⟨rfl, (HF1.out.trans hf2).below⟩
  have hx0 : ¬ x0 = 0 := fun h => hbad (.inr (.inr h))
  have hlo : (((Lib.uvarint l.length).length + 4 : Nat) : Int) ≤ z := by
    have : ¬ z < (Lib.uvarint l.length).length + 4 := fun h => hbad (.inl h)
    omega
  have hhi : z < ((frameB l).length : Int) := by
    have : ¬ ((frameB l).length : Int) ≤ z := fun h => hbad (.inr (.inl h))
    omega
  clear hbad
  obtain ⟨a, rfl⟩ := Int.eq_ofNat_of_zero_le (show 0 ≤ z by omega)
  have hx0n : ((x0.toNat : Int) == 0) = false := by
    rw [beq_eq_false_iff_ne]
    intro h
    apply hx0
    apply UInt8.toNat_inj.1
    simpa using h
  obtain ⟨xs, hxs⟩ : ∃ xs : List UInt8, xs = [x0, x1, x2, x3] := ⟨_, rfl⟩
  have hxl : xs.length = 4 := by rw [hxs]; rfl
  have hx0' : ∀ h : 0 < xs.length, xs[0] ≠ 0 := by subst hxs; intro h; exact hx0
  have hfour : ∀ k (h : k < xs.length), (four x0 x1 x2 x3)[k]? = some (.int .u8 (xs[k].toNat : Int)) := by
    subst hxs
    intro k hk
    match k, hk with
    | 0, _ => rfl
    | 1, _ => rfl
    | 2, _ => rfl
    | 3, _ => rfl
  have HX := Lib.hid hx0'
  have H4 := Lib.hid hfour
  clear hfour hxs hx0 hx0'
  have hHd := from_len l
  have hFle : (frameB l).length ≤ 1014 := by have := HFR.out; have := HU2.out; omega
  have hu1 := HU1.out
  have hu2 := HU2.out
  have hFR := HFR.out
  generalize hp : (Lib.uvarint l.length).length = p at *
  generalize hm : frameB l = fb at *
  have HM := Lib.hid hm
  have hne : Hid (fb ≠ []) := Lib.hid (by intro e; subst e; simp at hhi; omega)
  have q1 : l.length ≤ fb.length := by omega
  have q2 : a < fb.length := by omega
  have q3 : (fb.length : Int) ≤ 1014 := by omega
  have q4 : (fb.length : Int) - l.length ≤ a := by omega
  have HHD := Lib.hid hHd
  have e1b : decide ((fb.length : Int) - l.length < 0) = false := decide_eq_false (by omega)
  have e1c : (0 : Int) ≤ (fb.length : Int) - l.length := by omega
  have hw : wrap64 ((fb.length : Int) - l.length) = (fb.length : Int) - l.length := by unfold wrap64; omega
  have a2b : decide ((a : Int) < (fb.length : Int) - l.length) = false := decide_eq_false (by omega)
  have a3b : decide ((fb.length : Int) ≤ (a : Int)) = false := decide_eq_false (by omega)
  have a3c : decide (fb.length ≤ a) = false := decide_eq_false (by omega)
  clear hm hp hHd hFR
  go_enter Tryd.func5, Tryd.ntmps5
  go_wp2_with fail
  refine Hput.out.mono ?_
  rintro e w1 ⟨v1, rfl, hown1, hfr1⟩
  obtain ⟨g, cap, rfl, hg1, hg2, hcap, hcap2⟩ := hown1.row hne.out
  simp at hg1
  have hX1 : Blk w1 w.heap.size 37 (four x0 x1 x2 x3) := HX0.out.fr hfr1 (fun e => e)
  have HX1 := Lib.hid hX1
  have hc0 := hX1.cell 0
  simp [four] at hc0
  have HF1 := Lib.hid ((HA.out _ _).trans hfr1)
  have HO1 := Lib.hid hown1
  clear hX1 hfr1 hown1
  go_wp2_with fail
  go_loopw [9] (fun i wr => ∃ k : Nat, k ≤ 4 ∧ a + k ≤ fb.length ∧ i = .int .i64 k ∧ Own wr (w.heap.size + 1) (.slice (some ⟨g, 0, none⟩) fb.length cap) (mk fb xs a k) ∧ Fr (One g) w1 wr) (fun i _ => 4 - (intOf i).toNat)
  case atStart => exact ⟨0, by omega, by omega, rfl, by rw [mk_zero]; simpa using HO1.out, Fr.refl _ _⟩
  case round =>
    obtain ⟨k, hk, hak, rfl, hown, hfr⟩ := hrel
    have hml := mk_length fb xs a k hak (by omega)
    have hX := HX1.out.fr hfr (show ¬ One g w.heap.size from fun e => by have : w.heap.size = g := e; omega)
    by_cases hgo : k < 4 ∧ a + k < fb.length
    · obtain ⟨h4, hlt⟩ := hgo
      have hm1 := mk_at fb xs a k hlt (by omega)
      have c1 := hown.cell hml.symm (a + k) _ hm1
      have c2 := (hX.cell k).trans (H4.out k (by omega))
      have c3 := hown.frozen hml.symm (a + k)
      have hs := hown.store hml.symm (a + k) (fb[a + k] ^^^ xs[k])
      rw [mk_set fb xs a k hlt (by omega)] at hs
      have HS := Lib.hid hs
      clear hs hml hm1
      have hi : (a : Int) + k < fb.length := by omega
      have HX8 := Lib.hid (xor_u8 fb[a + k] xs[k])
      clear hown hX
      go_wp2_with fail
      go_region
      rw [HX8.out]
      have hfr2 : Fr (One g) w1 ((wr.setCell ⟨g, a + k, none⟩ (.int .u8 ((fb[a + k] ^^^ xs[k]).toNat : Int))).drew) := (hfr.set1 (a + k) _).drew
      have hs2 : Own ((wr.setCell ⟨g, a + k, none⟩ (.int .u8 ((fb[a + k] ^^^ xs[k]).toNat : Int))).drew) (w.heap.size + 1) (.slice (some ⟨g, 0, none⟩) fb.length cap) (mk fb xs a (k + 1)) := HS.out
      generalize (wr.setCell ⟨g, a + k, none⟩ (.int .u8 ((fb[a + k] ^^^ xs[k]).toNat : Int))).drew = W at hfr2 hs2 ⊢
      clear c1 c2 c3 hfr HS HX8
      go_wp2_with fail
      go_roundw
      case rel => exact ⟨k + 1, by omega, by omega, by go_num, hs2, hfr2⟩
      case measure => simp [intOf]; omega
    · have hb0 : Fr Non w wr := HF1.out.fresh hfr (fun k hk => by have : k = g := hk; omega)
      have HG := Lib.hid hb0
      have HT1 := Lib.hid (HT.out.non hb0)
      have HO := Lib.hid hown.bs
      have hk0 : 0 < k := by omega
      have HE := Lib.hid (told (l := l) (xs := xs) (by omega) (a - (p + 4)) k (by have := HFR.out; omega) (by omega) hk hk0 HX.out)
      rw [HM.out, HHD.out, show p + 4 + (a - (p + 4)) = a by omega] at HE
      have HLl := Lib.hid (show (mk fb xs a k).length < 1099511627776 by rw [hml]; omega)
      clear hb0 hown hfr hX hml
      have hlt : ¬ ((k : Int) < 4 ∧ (k : Int) < (fb.length : Int) - a) := by omega
      by_cases h4 : k < 4
      all_goals
        first
        | (have h5 : ¬ (k : Int) < (fb.length : Int) - (a : Int) := by omega)
        | skip
        clear hlt hgo
        go_wp2_with fail
        refine (fget_any _ _ wr HO.out HT1.out HLl.out).mono ?_
        rintro e w2 ⟨v2, rfl, _, hfr2⟩
        rw [HE.out]
        have HF2 := Lib.hid (HG.out.trans hfr2)
        clear hfr2
        go_wp2_with fail
        refine (fnum_any _ _).mono ?_
        rintro e w3 ⟨rfl, rfl⟩
        go_wp2_with fail
        refine (flive_any _ (HT.out.non HF2.out)).mono ?_
        rintro e w4 ⟨rfl, hf4⟩
        go_wp2_with fail
        go_ret
        exact ⟨rfl, (HF2.out.trans hf4).below⟩
end Go.Proofs.YtfgbhnchchdlcaaDoor
