/-
  Layer 3: the walk of the law FrameAll.
-/
import Derived.Test.YtfgbhnchchdlcaaDoorFrm8
import Derived.Test.YtfgbhnchchdlcaaDoorMathFrm2
namespace Go.Proofs.YtfgbhnchchdlcaaDoor
set_option linter.unusedVariables false
set_option linter.unusedSimpArgs false
open Go.RowKit

theorem Bss.pre {w : World} {A : Option Addr} {n c k : Nat} {ls : List (List UInt8)} (h : Bss w (.slice A n c) ls) (hk : k ≤ n) : Bss w (.slice A k c) (ls.take k) := by
  obtain ⟨A0, c0, he, h1, h2, h3⟩ := h
  simp only [Value.slice.injEq] at he
  obtain ⟨rfl, rfl, rfl⟩ := he
  have hl : (ls.take k).length = k := by rw [List.length_take]; omega
  refine ⟨A, c, by rw [hl], by rw [hl]; omega, h2, fun a ha j hj => ?_⟩
  obtain ⟨u, hu, hb⟩ := h3 a ha j (by rw [hl] at hj; omega)
  exact ⟨u, hu, by simpa using hb⟩
theorem owni_lit (w : World) (B g : Nat) (n : Int) (hg : g = w.heap.size) (hB : B ≤ g) : OwnI (w.alloc (.cells #[.int .i64 n] 3)) B (.slice (some ⟨g, 0, none⟩) 1 1) [n] := by
  subst hg
  exact World.ownsRow_lit w #[.int .i64 n] 1 hB (by unfold maxLen; omega) rfl
theorem u8_ne_int : 5 ≠ 3 := by decide
theorem own_apart {w : World} {B : Nat} {v u : Value} {l : List UInt8} {m : List Int} (h : Own w B v l) (h' : OwnI w B u m) : ∀ k, v.ownBlock = some k → u.ownBlock ≠ some k := by
  intro k hk e
  obtain ⟨c1, e1⟩ := h.kind k hk
  obtain ⟨c2, e2⟩ := row_kind h' k e
  rw [e1] at e2
  simp only [Option.some.injEq, Obj.cells.injEq] at e2
  exact u8_ne_int e2.2.1

set_option maxHeartbeats 4000000 in
theorem frameAll_walk (v : Value) (ls : List (List UInt8)) (z : Int) (w : World) (hv : Bss w v ls) (ht : Tab w) (hz1 : -9223372036854775808 ≤ z) (hz2 : z ≤ 9223372036854775807) :
    Calls Tryd.prog 6 #[v, .int .i64 z] w fun e w' => e = .returned (.bool true) ∧ Below w.heap.size w w' := by
  have HV := Lib.hid hv
  have HT := Lib.hid ht
  have HA := Lib.hid (fun (W : World) o => (Fr.refl Non W).alloc o)
  obtain ⟨A, c, rfl, hlc, hnil, _⟩ := hv
  have HNIL := Lib.hid hnil
  clear ht hnil
  by_cases hbig : 20 < ls.length
  · go_enter Tryd.func6, Tryd.ntmps6
    go_wp2_with fail
    refine (flive_any _ HT.out).mono ?_
    rintro e w1 ⟨rfl, hf1⟩
    go_wp2
    go_ret
    exact ⟨rfl, hf1.below⟩
  have h20 : ls.length ≤ 20 := by omega
  go_enter Tryd.func6, Tryd.ntmps6
  go_wp2
  go_loopw [5, 6, 7] (fun al en i wr => ∃ k : Nat, k ≤ ls.length ∧ i = .int .i64 k ∧ Own wr w.heap.size al (catB ls k) ∧ OwnI wr w.heap.size en (endsL ls k) ∧ (catB ls k).length ≤ 220 * k ∧ (∀ b ∈ ls.take k, b.length ≤ 200) ∧ Fr Non w wr) (fun _ _ i _ => 20 - (intOf i).toNat)
  case atStart => exact ⟨0, Nat.zero_le _, rfl, by rw [catB_zero]; exact own_nil _ _, by rw [endsL_zero]; exact owni_lit w _ _ 0 rfl (Nat.le_refl _), by rw [catB_zero]; simp, by simp, HA.out _ _⟩
  case round =>
    obtain ⟨k, hk, rfl, hown, hends, hcl, hsm, hfr⟩ := hrel
    have HO := Lib.hid hown
    have HE := Lib.hid hends
    have HS := Lib.hid hsm
    have HF := Lib.hid hfr
    have hB := hfr.size
    clear hown hends hsm hfr
    by_cases hlt : k < ls.length
    · cases A with
      | none => have := HNIL.out rfl; omega
      | some ad =>
        obtain ⟨_, _, he, _, _, hcell⟩ := HV.out.non HF.out
        cases he
        obtain ⟨u, hu, hb⟩ := hcell ad rfl k hlt
        have HB := Lib.hid hb
        obtain ⟨Au, cu, rfl⟩ := hb.shape
        have hi : (k : Int) < ls.length := by omega
        clear hcell hb
        by_cases h200 : 200 < ls[k].length
        · go_wp2_with fail
          refine (flive_any _ (HT.out.non HF.out)).mono ?_
          rintro e w2 ⟨rfl, hf⟩
          go_wp2
          go_ret
          exact ⟨rfl, (HF.out.trans hf).below⟩
        · have HC := Lib.hid (catB_succ ls k hlt)
          have HL5 := Lib.hid (show ls[k].length < 549755813888 by omega)
          have HFL := Lib.hid (show (frameB ls[k]).length ≤ 214 by rw [frame_length]; have := Lib.uvarint_length64 (x := ls[k].length) (by omega); omega)
          have hfl := HFL.out
          go_wp2_with fail
          refine (fput_any _ ls[k] wr HB.out (HT.out.non HF.out) HL5.out).mono ?_
          rintro e w1 ⟨v1, rfl, hown1, hfr1⟩
          have HO1 := Lib.hid hown1.bs
          have HOa := Lib.hid (HO.out.non hfr1)
          have HEa := Lib.hid (HE.out.non hfr1)
          have hB1 : w.heap.size ≤ w1.heap.size := Nat.le_trans hB hfr1.size
          have HF1 := Lib.hid (HF.out.trans hfr1)
          clear hown1 hfr1
          have HEL := Lib.hid (endsL_length ls k)
          have hne := own_apart HOa.out HEa.out
          have HNE := Lib.hid hne
          clear hne
          go_wp2_with (at_builtin; first | (refine wpList_app rfl (.tmp 29) (.tmp 34) rfl w.heap.size u5 v1 (catB ls k) (frameB ls[k]) rfl HOa.out rfl HO1.out (by omega) hB1 ?_; intro v2 w2 hown2 hfr2; rw [← HC.out] at hown2; obtain ⟨A2, c2, rfl⟩ := hown2.bs.shape; have hf2 : Fr Non w w2 := HF1.out.fresh hfr2 (fun k hk => (HOa.out.lt k hk).1); have hen2 := HEa.out.fr hfr2 (fun k hk e => HNE.out k e hk); have hB2 := hf2.size) | (refine wpList_pushi rfl (.tmp 36) (.tmp 39) rfl w.heap.size u6 (endsL ls k) _ rfl hen2 rfl (by rw [HEL.out]; omega) hB2 ?_; intro v3 w3 hen3 hfr3))
          rw [← endsL_succ] at hen3
          go_roundw
          case rel =>
            refine ⟨k + 1, by omega, by go_num, ?_, hen3, ?_, ?_, hf2.fresh hfr3 (fun k hk => (row_lt hen2 k hk).1)⟩
            · exact hown2.fr hfr3 (fun q hq e => own_apart hown2 hen2 q hq e)
            · rw [HC.out, List.length_append]; omega
            · intro b hb
              rw [List.take_succ_eq_append_getElem hlt] at hb
              rcases List.mem_append.1 hb with h | h
              · exact HS.out b h
              · obtain rfl : b = ls[k] := by simpa using h
                omega
          case measure => simp [intOf]; omega
    · obtain rfl : k = ls.length := by omega
      have HM := Lib.hid (show ∀ b ∈ ls, b.length ≤ 1048576 from fun b hb => by have := HS.out b (by rw [List.take_length]; exact hb); omega)
      obtain ⟨Al, cl, rfl, hcl2, _⟩ := HO.out.bs
      have hle : (catB ls ls.length).length ≤ 4400 := by omega
      clear hcl
      by_cases hz : z < 0 ∨ ((catB ls ls.length).length : Int) < z
      · by_cases hz0 : z < 0
        · go_wp2_with fail
          refine (flive_any _ (HT.out.non HF.out)).mono ?_
          rintro e w2 ⟨rfl, hf⟩
          go_wp2
          go_ret
          exact ⟨rfl, (HF.out.trans hf).below⟩
        · have hzb : ((catB ls ls.length).length : Int) < z := by omega
          have d1 : decide (z < 0) = false := decide_eq_false hz0
          have d2 : decide (((catB ls ls.length).length : Int) < z) = true := decide_eq_true hzb
          go_wp2_with fail
          refine (flive_any _ (HT.out.non HF.out)).mono ?_
          rintro e w2 ⟨rfl, hf⟩
          go_wp2
          go_ret
          exact ⟨rfl, (HF.out.trans hf).below⟩
      · obtain ⟨cut, rfl⟩ := Int.eq_ofNat_of_zero_le (show 0 ≤ z by omega)
        have hcut : cut ≤ (catB ls ls.length).length := by omega
        have d1 : decide ((cut : Int) < 0) = false := decide_eq_false (by omega)
        have d2 : decide (((catB ls ls.length).length : Int) < (cut : Int)) = false := decide_eq_false (by omega)
        have d3 : decide ((catB ls ls.length).length < cut) = false := decide_eq_false (by omega)
        have d4 : (cut : Int) ≤ cl := by omega
        clear hz
        obtain ⟨ge, ce, rfl, hge, hge1, hge2⟩ := HE.out.form (by intro e; have := endsL_length ls ls.length; rw [e] at this; simp at this)
        rw [endsL_length] at hge HE ⊢
        have HPre := Lib.hid (HO.out.bs.pre hcut)
        have HPv := Lib.hid (show ∀ k, (Value.slice Al cut cl).ownBlock = some k → k < wr.heap.size from fun k hk => (HO.out.lt k (by cases Al <;> exact hk)).2)
        have HPl := Lib.hid (show ((catB ls ls.length).take cut).length < 1000000000 by rw [List.length_take]; omega)
        have HCA := Lib.hid (cut_all ls HM.out cut)
        go_wp2_with fail
        refine (fall_any _ ((catB ls ls.length).take cut) wr HPre.out HPv.out (HT.out.non HF.out) HPl.out).mono ?_
        rintro e w3 ⟨v3, rfl, hown3, hbl3⟩
        have hfr3 : Fr Non wr w3 := Fr.of_below hbl3
        have HO3 := Lib.hid hown3.bss
        have HE3 := Lib.hid (HE.out.non hfr3)
        have HF3 := Lib.hid (HF.out.trans hfr3)
        have HV3 := Lib.hid (HV.out.non (HF.out.trans hfr3))
        obtain ⟨A3, c3, rfl⟩ := hown3.shape
        clear hown3 hbl3 hfr3
        generalize allB ((catB ls ls.length).take cut).length ((catB ls ls.length).take cut) = xs at *
        generalize allN ((catB ls ls.length).take cut).length ((catB ls ls.length).take cut) = xn at *
        go_wp2_with fail
        go_loop [10] (fun i => ∃ k : Nat, k ≤ ls.length ∧ (catB ls k).length ≤ cut ∧ i = .int .i64 k) (fun i => ls.length - (intOf i).toNat)
        case atStart => exact ⟨0, Nat.zero_le _, by rw [catB_zero]; simp, rfl⟩
        case round =>
          obtain ⟨k, hk, hck, rfl⟩ := hrel
          have cell := fun (j : Nat) (hj : j < ls.length + 1) => (HE3.out.cell (j := j) rfl (by rw [endsL_length]; exact hj)).trans (by rw [endsL_at])
          by_cases hlt : k < ls.length
          · have ck1 := cell (k + 1) (by omega)
            have d5 : decide ((k : Int) + 1 < (ls.length : Int) + 1) = true := decide_eq_true (by omega)
            have d6 : (k : Int) + 1 < (ls.length : Int) + 1 := by omega
            by_cases hc1 : (catB ls (k + 1)).length ≤ cut
            · have d7 : decide (((catB ls (k + 1)).length : Int) ≤ (cut : Int)) = true := decide_eq_true (by omega)
              go_wp2_with fail
              go_round
              case rel => exact ⟨k + 1, by omega, hc1, by go_num⟩
              case measure => simp [intOf]; omega
            · have d7 : decide (((catB ls (k + 1)).length : Int) ≤ (cut : Int)) = false := decide_eq_false (by omega)
              have HX := Lib.hid (HCA.out k hk hcut hck (.inr (by omega)))
              have hxx := HX.out.1
              have hxn := HX.out.2
              subst hxx hxn
              have hlk : (ls.take k).length = k := by rw [List.length_take]; omega
              rw [hlk]
              have ck0 := cell k (by omega)
              have hkc : (k : Int) ≤ c := by omega
              have HVk := Lib.hid (HV3.out.pre hk)
              have HLk := Lib.hid (show (ls.take k).length ≤ 9223372036854775807 by omega)
              have HO3k : Hid (Bss w3 (.slice A3 k c3) (ls.take k)) := Lib.hid (by have := HO3.out; rwa [hlk] at this)
              clear hlk cell
              go_wp2_with fail
              refine (lists_any _ _ (ls.take k) (ls.take k) w3 HO3k.out HVk.out HLk.out HLk.out).mono ?_
              rintro e w5 ⟨rfl, hfr5⟩
              rw [beq_self_eq_true]
              have HF5 := Lib.hid (HF3.out.trans hfr5)
              clear hfr5
              go_wp2_with fail
              refine (flive_any _ (HT.out.non HF5.out)).mono ?_
              rintro e w6 ⟨rfl, hfr6⟩
              go_wp2_with fail
              go_ret
              exact ⟨rfl, (HF5.out.trans hfr6).below⟩
          · have hkl : k = ls.length := by omega
            have d5 : decide ((k : Int) + 1 < (ls.length : Int) + 1) = false := decide_eq_false (by omega)
            have HX := Lib.hid (HCA.out k hk hcut hck (.inl hkl))
            have d6 : ¬ ((k : Int) + 1 < (ls.length : Int) + 1) := by omega
            clear hkl
            have hxx := HX.out.1
            have hxn := HX.out.2
            subst hxx hxn
            have hlk : (ls.take k).length = k := by rw [List.length_take]; omega
            rw [hlk]
            have ck0 := cell k (by omega)
            have hkc : (k : Int) ≤ c := by omega
            have HVk := Lib.hid (HV3.out.pre hk)
            have HLk := Lib.hid (show (ls.take k).length ≤ 9223372036854775807 by omega)
            have HO3k : Hid (Bss w3 (.slice A3 k c3) (ls.take k)) := Lib.hid (by have := HO3.out; rwa [hlk] at this)
            clear hlk cell
            go_wp2_with fail
            refine (lists_any _ _ (ls.take k) (ls.take k) w3 HO3k.out HVk.out HLk.out HLk.out).mono ?_
            rintro e w5 ⟨rfl, hfr5⟩
            rw [beq_self_eq_true]
            have HF5 := Lib.hid (HF3.out.trans hfr5)
            clear hfr5
            go_wp2_with fail
            refine (flive_any _ (HT.out.non HF5.out)).mono ?_
            rintro e w6 ⟨rfl, hfr6⟩
            go_wp2_with fail
            go_ret
            exact ⟨rfl, (HF5.out.trans hfr6).below⟩
end Go.Proofs.YtfgbhnchchdlcaaDoor
