/-
  Layer 3: the walk of the law FramePuts.
-/
import Derived.Test.YtfgbhnchchdlcaaDoorFrm3
namespace Go.Proofs.YtfgbhnchchdlcaaDoor
set_option linter.unusedVariables false
set_option linter.unusedSimpArgs false
open Go.RowKit

set_option maxHeartbeats 2000000 in
theorem framePuts_walk (v u : Value) (l m : List UInt8) (w : World) (hv : Bs w v l) (hu : Bs w u m) (ht : Tab w) :
    Calls Tryd.prog 3 #[v, u] w fun e w' => e = .returned (.bool true) ∧ Below w.heap.size w w' := by
  have HB := Lib.hid hv
  have HU := Lib.hid hu
  have HT := Lib.hid ht
  have HA := Lib.hid (fun (W : World) o => (Fr.refl Non W).alloc o)
  obtain ⟨A, c, rfl, _⟩ := hv
  obtain ⟨Au, cu, rfl, _⟩ := hu
  clear ht
  by_cases hbig : 1000 < l.length
  · go_enter Tryd.func3, Tryd.ntmps3
    go_wp2_with fail
    refine (flive_any _ HT.out).mono ?_
    rintro e w1 ⟨rfl, hf1⟩
    go_wp2
    go_ret
    exact ⟨rfl, hf1.below⟩
  by_cases hbig2 : 1000 < m.length
  · go_enter Tryd.func3, Tryd.ntmps3
    go_wp2_with fail
    refine (flive_any _ HT.out).mono ?_
    rintro e w1 ⟨rfl, hf1⟩
    go_wp2
    go_ret
    exact ⟨rfl, hf1.below⟩
  have d1 : decide ((1000 : Int) < (l.length : Int)) = false := decide_eq_false (by omega)
  have d2 : decide ((1000 : Int) < (m.length : Int)) = false := decide_eq_false (by omega)
  have HG := Lib.hid (got_own (l := l) (by omega) m)
  have HFL := Lib.hid (show (frameB l).length ≤ 1014 by rw [frame_length]; have := Lib.uvarint_length64 (x := l.length) (by omega); omega)
  have HL5 := Lib.hid (show l.length < 549755813888 by omega)
  have hfn : Hid (frameB l ≠ []) := Lib.hid (by intro e; have := frame_length l; rw [e] at this; simp at this; omega)
  go_enter Tryd.func3, Tryd.ntmps3
  go_wp2_with fail
  refine (fput_any _ l _ HB.out HT.out HL5.out).mono ?_
  rintro e w1 ⟨v1, rfl, hown1, hfr1⟩
  obtain ⟨A1, c1, rfl⟩ := hown1.bs.shape
  have HF1 := Lib.hid hfr1
  have HO1 := Lib.hid hown1.bs
  clear hown1 hfr1
  have hx1 := HFL.out
  go_wp2_with (at_builtin; first | (refine wpList_app rfl (.tmp 21) (.tmp 22) rfl w1.heap.size (.slice (some ⟨w1.heap.size, 0, none⟩) 0 0) (.slice A1 (frameB l).length c1) [] (frameB l) rfl (own_lit0 _ _ _ rfl (Nat.le_refl _)) rfl (HO1.out.non (HA.out _ _)) (by simp; omega) (by simp) ?_; intro v2 w2 hown2 hfr2; rw [List.nil_append] at hown2; have hf2 : Fr Non w1 w2 := (HA.out _ _).fresh hfr2 (fun k hk => by simp [Value.ownBlock] at hk; omega)) | (refine wpList_app rfl (.tmp 23) (.tmp 24) rfl w1.heap.size v2 (.slice Au m.length cu) (frameB l) m rfl hown2 rfl ((HU.out.non HF1.out).non hf2) (by omega) hf2.size ?_; intro v3 w3 hown3 hfr3; have hf3 : Fr Non w1 w3 := hf2.fresh hfr3 (fun k hk => (hown2.lt k hk).1)))
  have HO3 := Lib.hid hown3.bs
  have HF3 := Lib.hid hf3
  have HL3 := Lib.hid (show (frameB l ++ m).length < 1099511627776 by rw [List.length_append]; omega)
  clear hown3 hf3 hfr3 hown2 hf2 hfr2
  refine (fget_any _ _ w3 HO3.out (HT.out.non (HF1.out.trans HF3.out)) HL3.out).mono ?_
  rintro e w4 ⟨v4, rfl, hown4, hfr4⟩
  rw [HG.out.1, HG.out.2.2]
  rw [HG.out.2.1] at hown4
  have HO4 := Lib.hid hown4.bs
  have HF4 := Lib.hid (HF1.out.trans (HF3.out.trans hfr4))
  have HO14 := Lib.hid (HO1.out.non (HF3.out.trans hfr4))
  clear hown4 hfr4
  go_wp2_with fail
  refine (rput_any _ l w4 (HB.out.non HF4.out) HL5.out).mono ?_
  rintro e w5 ⟨v5, rfl, hown5, hfr5⟩
  have HO5 := Lib.hid hown5.bs
  have HF5 := Lib.hid (HF4.out.trans hfr5)
  have HO15 := Lib.hid (HO14.out.non hfr5)
  have HO45 := Lib.hid (HO4.out.non hfr5)
  clear hown5 hfr5
  go_wp2_with fail
  refine (same_any _ _ (frameB l) (frameB l) w5 HO15.out HO5.out).mono ?_
  rintro e w6 ⟨rfl, rfl⟩
  rw [beq_self_eq_true]
  go_wp2_with fail
  refine (same_any _ _ l l w5 HO45.out (HB.out.non HF5.out)).mono ?_
  rintro e w6 ⟨rfl, rfl⟩
  rw [beq_self_eq_true]
  go_wp2_with fail
  refine (fnum_any _ _).mono ?_
  rintro e w7 ⟨rfl, rfl⟩
  go_wp2_with fail
  refine (flive_any _ (HT.out.non HF5.out)).mono ?_
  rintro e w8 ⟨rfl, hf8⟩
  go_wp2_with fail
  go_ret
  exact ⟨rfl, (HF5.out.trans hf8).below⟩
end Go.Proofs.YtfgbhnchchdlcaaDoor
