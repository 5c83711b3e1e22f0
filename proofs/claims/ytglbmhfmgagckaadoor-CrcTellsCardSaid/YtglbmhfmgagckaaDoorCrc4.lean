/-
  Layer 2: the walk of the law CrcTells.
-/
import Derived.Test.YtglbmhfmgagckaaDoorCrc2
import Derived.RegionTactic
namespace Go.Proofs.YtglbmhfmgagckaaDoor
set_option linter.unusedVariables false
set_option linter.unusedSimpArgs false
open Go.RowKit

/-- the four bytes as they come in -/
def four (x0 x1 x2 x3 : UInt8) : Array Value := #[.int .u8 x0.toNat, .int .u8 x1.toNat, .int .u8 x2.toNat, .int .u8 x3.toNat]
def anyOf (xs : List UInt8) (k : Nat) : Bool := (xs.take k).any (· != 0)
theorem anyOf_succ (xs : List UInt8) (k : Nat) (h : k < xs.length) : anyOf xs (k + 1) = (anyOf xs k || xs[k] != 0) := by
  unfold anyOf; rw [List.take_succ_eq_append_getElem h, List.any_append]; simp
theorem sums_ne (l xs : List UInt8) (a k : Nat) (h1 : a + k ≤ l.length) (h2 : k ≤ xs.length) (h4 : k ≤ 4) :
    (((sumOf 0 l : Nat) : Int) != ((sumOf 0 (mk l xs a k) : Nat) : Int)) = anyOf xs k := by
  have h := mk_tells l xs a k h1 h2 h4 0
  rw [Bool.eq_iff_iff]
  unfold anyOf
  rw [bne_iff_ne, List.any_eq_true, ne_eq, Int.ofNat_inj, h]
  simp
theorem xor_u8 (a b : UInt8) : bits .xor .u8 (a.toNat : Int) (b.toNat : Int) = ((a ^^^ b).toNat : Int) := by
  rw [u8_xor_nat _ _ (u8_lt a) (u8_lt b), UInt8.toNat_xor]
theorem toNat_ne (b : UInt8) : ((b.toNat : Int) != 0) = (b != 0) := by
  rw [Bool.eq_iff_iff]; simp [← UInt8.toNat_inj]

set_option maxHeartbeats 2000000 in
theorem crcTells_walk (v : Value) (l : List UInt8) (z : Int) (x0 x1 x2 x3 : UInt8) (w : World) (hv : Bs w v l) (ht : Tab w) (hl : l.length ≤ 9223372036854775807) (h1 : -9223372036854775808 ≤ z) (h2 : z ≤ 9223372036854775807) :
    Calls Tryd.prog 5 #[v, .int .i64 z, .agg #[.int .u8 x0.toNat, .int .u8 x1.toNat, .int .u8 x2.toNat, .int .u8 x3.toNat]] w fun e w' => e = .returned (.bool true) ∧ Below w.heap.size w w' := by
  have HB := Lib.hid hv
  have HT := Lib.hid ht
  obtain ⟨A, c, rfl, hc, _, _⟩ := hv
  have HA := Lib.hid (fun (W : World) o => (Fr.refl Non W).alloc o)
  clear ht
  by_cases hbig : 1000 < l.length
  · go_enter Tryd.func5, Tryd.ntmps5
    go_wp2_with fail
    refine (clive_any _ (HT.out.non (HA.out _ _))).mono ?_
    rintro e w1 ⟨rfl, hf1⟩
    go_wp2
    go_ret
    exact ⟨rfl, ((HA.out _ _).trans hf1).below⟩
  by_cases hneg : z < 0
  · go_enter Tryd.func5, Tryd.ntmps5
    go_wp2_with fail
    refine (clive_any _ (HT.out.non (HA.out _ _))).mono ?_
    rintro e w1 ⟨rfl, hf1⟩
    go_wp2
    go_ret
    exact ⟨rfl, ((HA.out _ _).trans hf1).below⟩
  by_cases hge : (l.length : Int) ≤ z
  · go_enter Tryd.func5, Tryd.ntmps5
    go_wp2_with fail
    refine (clive_any _ (HT.out.non (HA.out _ _))).mono ?_
    rintro e w1 ⟨rfl, hf1⟩
    go_wp2
    go_ret
    exact ⟨rfl, ((HA.out _ _).trans hf1).below⟩
  obtain ⟨a, rfl⟩ := Int.eq_ofNat_of_zero_le (show 0 ≤ z by omega)
  have ha : a < l.length := by omega
  clear hneg hge h1 h2
  have hne : l ≠ [] := by intro e; subst e; simp at ha
  have HNE := Lib.hid hne
  clear hne
  have h0 : (0 : Int) ≤ a := by omega
  have hsmall : (l.length : Int) ≤ 1000 := by omega
  have d1 : decide ((1000 : Int) < (l.length : Int)) = false := decide_eq_false (by omega)
  have d2 : decide ((a : Int) < 0) = false := decide_eq_false (by omega)
  have d3 : decide (l.length ≤ a) = false := decide_eq_false (by omega)
  have HX := Lib.hid (Blk.new w 31 (four x0 x1 x2 x3))
  go_enter Tryd.func5, Tryd.ntmps5
  go_wp2_with (at_builtin; refine wpList_app rfl (.tmp 24) (.tmp 25) rfl (w.heap.size + 1) (.slice (some ⟨w.heap.size + 1, 0, none⟩) 0 0) (.slice A l.length c) [] l rfl (own_lit0 _ _ _ (by simp) (Nat.le_refl _)) rfl ((HB.out.non (HA.out _ _)).non (HA.out _ _)) (by simp; omega) (by simp) ?_; intro v3 w3 hown hf3)
  rw [List.nil_append] at hown
  obtain ⟨g, cap, rfl, hg1, hg2, hcap, _⟩ := hown.row HNE.out
  have hf : Fr Non w w3 := ((HA.out _ _).trans (HA.out _ _)).fresh hf3 (fun k hk => by simp [Value.ownBlock] at hk; omega)
  have hx : Blk w3 w.heap.size 31 (four x0 x1 x2 x3) := (Blk.fr HX.out (HA.out _ _) (fun e => e)).fr hf3 (fun e => by simp [Value.ownBlock] at e)
  have HX3 := Lib.hid hx
  have HO := Lib.hid hown
  have HF := Lib.hid hf
  clear hx hf hf3 hown HX
  obtain ⟨xs, hxs⟩ : ∃ xs : List UInt8, xs = [x0, x1, x2, x3] := ⟨_, rfl⟩
  have hxl : xs.length = 4 := by rw [hxs]; rfl
  have hfour : ∀ k (h : k < xs.length), (four x0 x1 x2 x3)[k]? = some (.int .u8 (xs[k].toNat : Int)) := by
    subst hxs
    intro k hk
    match k, hk with
    | 0, _ => rfl
    | 1, _ => rfl
    | 2, _ => rfl
    | 3, _ => rfl
  have H4 := Lib.hid hfour
  clear hfour hxs
  go_loopw [8, 9] (fun tu i wr => ∃ k : Nat, k ≤ 4 ∧ a + k ≤ l.length ∧ i = .int .i64 k ∧ tu = .bool (anyOf xs k) ∧ Own wr (w.heap.size + 1) (.slice (some ⟨g, 0, none⟩) l.length cap) (mk l xs a k) ∧ Fr (One g) w3 wr) (fun _ i _ => 4 - (intOf i).toNat)
  case atStart => exact ⟨0, by omega, by omega, rfl, rfl, by rw [mk_zero]; exact HO.out, Fr.refl _ _⟩
  case round =>
    obtain ⟨k, hk, hak, rfl, rfl, hown, hfr⟩ := hrel
    have hml := mk_length l xs a k hak (by omega)
    have hX := HX3.out.fr hfr (show ¬ One g w.heap.size from fun e => by have : w.heap.size = g := e; omega)
    by_cases hgo : k < 4 ∧ a + k < l.length
    · obtain ⟨h4, hlt⟩ := hgo
      have hm1 := mk_at l xs a k hlt (by omega)
      have c1 := hown.cell hml.symm (a + k) _ hm1
      have c2 := (hX.cell k).trans (H4.out k (by omega))
      have c3 := hown.frozen hml.symm (a + k)
      have hs := hown.store hml.symm (a + k) (l[a + k] ^^^ xs[k])
      rw [mk_set l xs a k hlt (by omega)] at hs
      have HS := Lib.hid hs
      have HM := Lib.hid hml
      have hcap2 : cap ≤ maxLen := by assumption
      clear hs hml hm1
      have hi : (a : Int) + k < l.length := by omega
      have HX8 := Lib.hid (xor_u8 l[a + k] xs[k])
      have HA1 := Lib.hid (anyOf_succ xs k (by omega))
      go_wp2_with fail
      go_region
      rw [HX8.out]
      have hfr2 : Fr (One g) w3 ((wr.setCell ⟨g, a + k, none⟩ (.int .u8 ((l[a + k] ^^^ xs[k]).toNat : Int))).drew) := (hfr.set1 (a + k) _).drew
      have hs2 : Own ((wr.setCell ⟨g, a + k, none⟩ (.int .u8 ((l[a + k] ^^^ xs[k]).toNat : Int))).drew) (w.heap.size + 1) (.slice (some ⟨g, 0, none⟩) l.length cap) (mk l xs a (k + 1)) := HS.out
      generalize (wr.setCell ⟨g, a + k, none⟩ (.int .u8 ((l[a + k] ^^^ xs[k]).toNat : Int))).drew = W at hfr2 hs2 ⊢
      have d2 := ((HX3.out.fr hfr2 (show ¬ One g w.heap.size from fun e => by have : w.heap.size = g := e; omega)).cell k).trans (H4.out k (by omega))
      clear c1 c2 c3 hown hfr hX HS HX8
      by_cases hany : anyOf xs k = true
      · rw [hany]
        have HY := Lib.hid hany
        clear hany
        go_wp2_with fail
        go_roundw
        case rel => exact ⟨k + 1, by omega, by omega, by go_num, by rw [HA1.out, HY.out]; rfl, hs2, hfr2⟩
        case measure => simp [intOf]; omega
      · rw [Bool.not_eq_true] at hany
        rw [hany]
        have HY := Lib.hid hany
        clear hany
        go_wp2_with fail
        go_roundw
        case rel => exact ⟨k + 1, by omega, by omega, by go_num, by rw [HA1.out, HY.out, Bool.false_or, toNat_ne], hs2, hfr2⟩
        case measure => simp [intOf]; omega
    · have hb0 : Fr Non w wr := HF.out.fresh hfr (fun k hk => by have : k = g := hk; omega)
      have HG := Lib.hid hb0
      have HT1 := Lib.hid (HT.out.non hb0)
      have HB1 := Lib.hid (HB.out.non hb0)
      have HM := Lib.hid hown.bs
      have HL := Lib.hid hml
      have hq := sums_ne l xs a k hak (by omega) hk
      have HLl := Lib.hid (show (mk l xs a k).length ≤ 9223372036854775807 by rw [hml]; exact hl)
      clear hb0 hown hfr hX hml
      generalize hP : sumOf 0 l = p at hq
      generalize hM : sumOf 0 (mk l xs a k) = q at hq
      generalize anyOf xs k = t at hq ⊢
      have HP := Lib.hid hP
      have HM' := Lib.hid hM
      clear hP hM
      have hlt : ¬ ((k : Int) < 4 ∧ (k : Int) < (l.length : Int) - a) := by omega
      have fin : ∀ (h5 : (k : Int) < 4 → ¬ (k : Int) < (l.length : Int) - a), True := fun _ => trivial
      by_cases h4 : k < 4
      all_goals
        first
        | (have h5 : ¬ (k : Int) < (l.length : Int) - (a : Int) := by omega)
        | skip
        clear hlt fin hgo
        go_wp2_with fail
        refine (of_one _ _ _ _ rfl HB1.out HT1.out hl).mono ?_
        rintro e w2 ⟨rfl, rfl⟩
        rw [HP.out]
        go_wp2_with fail
        refine (of_one _ _ _ _ (by simp) (HM.out.non (HA.out _ _)) (HT1.out.non (HA.out _ _)) HLl.out).mono ?_
        rintro e w2 ⟨rfl, rfl⟩
        rw [HM'.out]
        go_wp2_with fail
        refine (clive_any _ ((HT1.out.non (HA.out _ _)).non (HA.out _ _))).mono ?_
        rintro e w2 ⟨rfl, hf⟩
        go_wp2
        go_ret
        exact ⟨rfl, (((HG.out.trans (HA.out _ _)).trans (HA.out _ _)).trans hf).below⟩
end Go.Proofs.YtglbmhfmgagckaaDoor
