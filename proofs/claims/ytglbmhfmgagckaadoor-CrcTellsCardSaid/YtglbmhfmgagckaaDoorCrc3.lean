/-
  Layer 2: the walk of the law CrcMore.
-/
import Derived.Test.YtglbmhfmgagckaaDoorCrc2
namespace Go.Proofs.YtglbmhfmgagckaaDoor
set_option linter.unusedVariables false
set_option linter.unusedSimpArgs false
open Go.RowKit

theorem flat_len (ls : List (List UInt8)) (k : Nat) (hk : k < ls.length) : (ls.take (k + 1)).flatten = (ls.take k).flatten ++ ls[k] := by
  rw [List.take_succ_eq_append_getElem hk, List.flatten_append]; simp

set_option maxHeartbeats 2000000 in
theorem crcMore_walk (v : Value) (ls : List (List UInt8)) (w : World) (hv : Bss w v ls) (ht : Tab w) (hn : ls.length ≤ 9223372036854775807) (hl : ∀ l ∈ ls, l.length ≤ 9223372036854775807) :
    Calls Tryd.prog 4 #[v] w fun e w' => e = .returned (.bool true) ∧ Below w.heap.size w w' := by
  have HV := Lib.hid hv
  have HT := Lib.hid ht
  have HLL := Lib.hid hl
  obtain ⟨A, c, rfl, hlc, hnn, _⟩ := hv
  have HN := Lib.hid hnn
  clear ht hl hnn
  go_enter Tryd.func4, Tryd.ntmps4
  go_wp2
  go_loopw [3, 4, 5] (fun al su i wr => ∃ k : Nat, k ≤ ls.length ∧ k ≤ 20 ∧ i = .int .i64 k ∧ su = .int .u32 (sumOf 0 (ls.take k).flatten : Nat) ∧ Own wr w.heap.size al (ls.take k).flatten ∧ (ls.take k).flatten.length ≤ 200 * k ∧ Fr Non w wr) (fun _ _ i _ => 20 - (intOf i).toNat)
  case atStart => exact ⟨0, Nat.zero_le _, Nat.zero_le _, rfl, by rw [List.take_zero, List.flatten_nil, sumOf_nil]; rfl, own_nil _ _, by simp, Fr.refl _ _⟩
  case round =>
    obtain ⟨k, hk, hk20, rfl, rfl, hown, hlen, hfr⟩ := hrel
    have HT1 := Lib.hid (HT.out.non hfr)
    have HV1 := Lib.hid (HV.out.non hfr)
    have hB := hfr.size
    by_cases hlt : k < ls.length
    · by_cases h20 : k < 20
      · cases A with
        | none => have := HN.out rfl; omega
        | some ad =>
          obtain ⟨A', c', he, _, _, hcell⟩ := HV.out
          cases he
          obtain ⟨u, hu, hb⟩ := hcell ad rfl k hlt
          have HB := Lib.hid hb
          obtain ⟨Au, cu, rfl⟩ := hb.shape
          have HK := Lib.hid (fun (W : World) (f : Fr Non w W) => (f.cell (World.block_lt_of_cell? w _ hu) (fun e => e)).trans hu)
          have hu1 := HK.out _ hfr
          clear hcell hb hu
          by_cases h200 : 200 < ls[k].length
          · go_wp2_with fail
            refine (clive_any _ HT1.out).mono ?_
            rintro e w2 ⟨rfl, hf⟩
            go_wp2
            go_ret
            exact ⟨rfl, (hfr.trans hf).below⟩
          · have HF := Lib.hid (flat_len ls k hlt)
            go_wp2_with (at_builtin; refine wpList_app rfl (.tmp 23) (.tmp 27) rfl w.heap.size u3 _ _ ls[k] rfl hown rfl (HB.out.non hfr) (by omega) hB ?_; intro v' w1 hown1 hb1; have hf1 := hfr.fresh hb1 (fun k hk => (hown.lt k hk).1); have hu2 := HK.out _ hf1)
            refine (more_any _ _ _ _ (sumOf_lt _ (by decide)) (HB.out.non hf1) (HT.out.non hf1) (HLL.out _ (List.getElem_mem _))).mono ?_
            rintro e w2 ⟨rfl, rfl⟩
            go_wp2_with fail
            go_roundw
            case rel =>
              refine ⟨k + 1, by omega, by omega, by go_num, ?_, ?_, ?_, hf1⟩
              · rw [HF.out, sumOf_app]
              · rw [HF.out]; exact hown1
              · rw [HF.out, List.length_append]; omega
            case measure => simp [intOf]; omega
      · obtain rfl : k = 20 := by omega
        have h20' : ¬ (ls.length ≤ 20) := by omega
        go_wp2_with fail
        refine (clive_any _ HT1.out).mono ?_
        rintro e w2 ⟨rfl, hf⟩
        go_wp2
        go_ret
        exact ⟨rfl, (hfr.trans hf).below⟩
    · obtain rfl : k = ls.length := by omega
      have HE := Lib.hid (show ls.take ls.length = ls from List.take_length)
      rw [HE.out] at hown hlen ⊢
      generalize hM : ls.flatten = m at hown hlen ⊢
      have HM := Lib.hid hM
      clear hM
      have HW := Lib.hid hown.bs
      obtain ⟨A3, c3, rfl⟩ := hown.bs.shape
      have HLn := Lib.hid (show m.length ≤ 9223372036854775807 by omega)
      clear hown hlen
      have HF := Lib.hid hfr
      clear hfr
      have HA := Lib.hid (fun (W : World) o => (Fr.refl Non W).alloc o)
      go_wp2_with fail
      refine (of_any _ ls _ HV1.out HT1.out hn HLL.out).mono ?_
      rintro e w2 ⟨rfl, rfl⟩
      rw [HM.out]
      go_wp2_with fail
      refine (of_one _ _ _ _ rfl HW.out HT1.out HLn.out).mono ?_
      rintro e w2 ⟨rfl, rfl⟩
      go_wp2_with fail
      refine (of_one _ _ _ _ (by simp) (HW.out.non (HA.out _ _)) (HT1.out.non (HA.out _ _)) HLn.out).mono ?_
      rintro e w2 ⟨rfl, rfl⟩
      go_wp2_with fail
      refine (clive_any _ ((HT1.out.non (HA.out _ _)).non (HA.out _ _))).mono ?_
      rintro e w2 ⟨rfl, hf⟩
      go_wp2
      go_ret
      exact ⟨rfl, (((HF.out.trans (HA.out _ _)).trans (HA.out _ _)).trans hf).below⟩
end Go.Proofs.YtglbmhfmgagckaaDoor
