/-
  Layer 9: a cell read, both programs'.
-/
import Derived.Test.YtkmgplgokhjmjaaCellW
import Derived.Test.YtkmgplgokhjmjaaCell3
import Derived.Test.YtkmgplgokhjmjaaVint9
namespace Go.Proofs.Ytkmgplgokhjmjaa
set_option linter.unusedVariables false
set_option linter.unusedSimpArgs false
set_option maxRecDepth 100000
open Go.RowKit

/-- what read tells: a cell, what is left, whether the source failed -/
def rdC (ty : Int) (l : List UInt8) : Cl × List UInt8 × Bool :=
  if mostV l 1 = 0 then (⟨true, 0, []⟩, mostR l 1, mostB l 1)
  else if ty = 1 ∨ ty = 2 then (⟨false, unzig (fstN (mostR l 1)), []⟩, rest (mostR l 1), fell (mostR l 1))
  else if ty = 3 then (⟨false, 0, txtT (mostR l 1) 40⟩, txtR (mostR l 1) 40, txtB (mostR l 1) 40)
  else (⟨false, 0, []⟩, mostR l 1, mostB l 1)
theorem rdC_null {ty : Int} {l : List UInt8} (h : mostV l 1 = 0) : rdC ty l = (⟨true, 0, []⟩, mostR l 1, mostB l 1) := by unfold rdC; rw [if_pos h]
theorem rdC_num {ty : Int} {l : List UInt8} (h : ¬ mostV l 1 = 0) (ht : ty = 1 ∨ ty = 2) : rdC ty l = (⟨false, unzig (fstN (mostR l 1)), []⟩, rest (mostR l 1), fell (mostR l 1)) := by unfold rdC; rw [if_neg h, if_pos ht]
theorem rdC_txt {l : List UInt8} (h : ¬ mostV l 1 = 0) : rdC 3 l = (⟨false, 0, txtT (mostR l 1) 40⟩, txtR (mostR l 1) 40, txtB (mostR l 1) 40) := by unfold rdC; rw [if_neg h, if_neg (by omega), if_pos rfl]
theorem rdC_no {ty : Int} {l : List UInt8} (h : ¬ mostV l 1 = 0) (h1 : ¬ ty = 1) (h2 : ¬ ty = 2) (h3 : ¬ ty = 3) : rdC ty l = (⟨false, 0, []⟩, mostR l 1, mostB l 1) := by unfold rdC; rw [if_neg h, if_neg (by omega), if_neg h3]

/-- a call's end, behind a cell stored whole in the block made first -/
theorem cell_end {w w1 : World} {g : Nat} {l : List UInt8} {bad : Bool} {c0 : Cl} (hg : g < w.heap.size) (hB : ClB w1 w.heap.size c0) (hF : Fr (One g) w w1) (hS : Src w1 g l bad) (n : Bool) (i : Int) (t : List UInt8) :
    ClB (setCl w1 w.heap.size n i t) w.heap.size ⟨n, i, t⟩ ∧ Src (setCl w1 w.heap.size n i t) g l bad ∧ Fr (One g) w (setCl w1 w.heap.size n i t) :=
  ⟨setCl_B hB n i t, hS.fr (setCl_fr _ _ _ _ _) (fun e => by have : g = w.heap.size := e; omega), hF.fresh (setCl_fr _ _ _ _ _) (fun k e => by have : k = w.heap.size := e; omega)⟩

set_option maxHeartbeats 1000000 in
theorem cread_any (g : Nat) (l : List UInt8) (bad : Bool) (ty : Int) (w : World) (h : Src w g l bad) :
    Calls Try.prog 34 #[ptr g, .int .i64 ty] w fun e w' => e = .returned (clV (rdC ty l).1) ∧ Src w' g (rdC ty l).2.1 (rdC ty l).2.2 ∧ Fr (One g) w w' := by
  have hg := h.1.lt
  have hB0 := cl_new w ⟨false, 0, []⟩
  have f0 : Fr Non w (w.alloc (.cells #[.bool false, .int .i64 0, .string ⟨([] : List UInt8).toArray⟩] 23)) := (Fr.refl _ _).alloc _
  have h0 := below_any g l bad 2 _ (h.fr f0 (fun e => e)) (by omega)
  rw [show (2 : Int) - 1 = 1 by rfl] at h0
  have key : ∀ (k : Nat), mostV l 1 = k → Calls Try.prog 34 #[ptr g, .int .i64 ty] w fun e w' => e = .returned (clV (rdC ty l).1) ∧ Src w' g (rdC ty l).2.1 (rdC ty l).2.2 ∧ Fr (One g) w w' := by
    intro k hk
    rw [hk] at h0
    have hgw : w.heap.size ≠ g := by omega
    by_cases hk0 : k = 0
    · subst hk0
      have HE := Lib.hid (rdC_null (ty := ty) hk)
      clear hk
      go_enter Try.func34, Try.ntmps34
      go_wp2_with fail
      refine h0.mono ?_
      rintro e w1 ⟨rfl, s1, f1⟩
      have hB1 : ClB w1 w.heap.size _ := hB0.fr f1 (fun e => hgw e)
      obtain ⟨c0, c1, c2, z0, z1, z2⟩ := hB1.facts
      dsimp only at c0 c1 c2
      have HB := Lib.hid hB1
      have HF := Lib.hid (f0.any.trans f1)
      have HS := Lib.hid s1
      clear hB1 hB0 f0 f1 s1 h0
      go_wp2
      obtain ⟨e1, e2, e3⟩ := cell_end hg HB.out HF.out HS.out true 0 []
      exact bodyPost_ret (v := clV ⟨true, 0, []⟩) (ret_cl (p := 4) rfl _ _ w.heap.size ⟨true, 0, []⟩ rfl e1) rfl ⟨by rw [HE.out], by rw [HE.out]; exact e2, e3⟩
    · have hkI : ((k : Int) == 0) = false := by rw [beq_eq_false_iff_ne]; omega
      have hk1 : ¬ mostV l 1 = 0 := by rw [hk]; exact hk0
      have HK := Lib.hid hk1
      clear hk hk1 hk0
      by_cases ht : ty = 1 ∨ ty = 2
      · have HE := Lib.hid (rdC_num HK.out ht)
        rcases ht with ht | ht
        all_goals
          subst ht
          go_enter Try.func34, Try.ntmps34
          go_wp2_with fail
          refine h0.mono ?_
          rintro e w1 ⟨rfl, s1, f1⟩
          have hB1 : ClB w1 w.heap.size _ := hB0.fr f1 (fun e => hgw e)
          go_wp2_with fail
          refine (sint_any g _ _ w1 s1).mono ?_
          rintro e w2 ⟨rfl, s2, f2⟩
          have hB2 : ClB w2 w.heap.size _ := hB1.fr f2 (fun e => hgw e)
          obtain ⟨c0, c1, c2, z0, z1, z2⟩ := hB2.facts
          dsimp only at c0 c1 c2
          have HB := Lib.hid hB2
          have HF := Lib.hid ((f0.any.trans f1).trans f2)
          have HS := Lib.hid s2
          clear hB1 hB2 hB0 f0 f1 f2 s1 s2 h0
          generalize unzig (fstN (mostR l 1)) = z at *
          go_wp2
          obtain ⟨e1, e2, e3⟩ := cell_end hg HB.out HF.out HS.out false z []
          exact bodyPost_ret (v := clV ⟨false, z, []⟩) (ret_cl (p := 4) rfl _ _ w.heap.size ⟨false, z, []⟩ rfl e1) rfl ⟨by rw [HE.out], by rw [HE.out]; exact e2, e3⟩
      · by_cases h3 : ty = 3
        · subst h3
          have HE := Lib.hid (rdC_txt HK.out)
          clear ht
          go_enter Try.func34, Try.ntmps34
          go_wp2_with fail
          refine h0.mono ?_
          rintro e w1 ⟨rfl, s1, f1⟩
          have hB1 : ClB w1 w.heap.size _ := hB0.fr f1 (fun e => hgw e)
          go_wp2_with fail
          refine (stext_any g _ _ 40 w1 s1 (by omega)).mono ?_
          rintro e w2 ⟨rfl, s2, f2⟩
          have hB2 : ClB w2 w.heap.size _ := hB1.fr f2 (fun e => hgw e)
          obtain ⟨c0, c1, c2, z0, z1, z2⟩ := hB2.facts
          dsimp only at c0 c1 c2
          have HB := Lib.hid hB2
          have HF := Lib.hid ((f0.any.trans f1).trans f2)
          have HS := Lib.hid s2
          clear hB1 hB2 hB0 f0 f1 f2 s1 s2 h0
          generalize txtT (mostR l 1) 40 = z at *
          go_wp2
          obtain ⟨e1, e2, e3⟩ := cell_end hg HB.out HF.out HS.out false 0 z
          exact bodyPost_ret (v := clV ⟨false, 0, z⟩) (ret_cl (p := 4) rfl _ _ w.heap.size ⟨false, 0, z⟩ rfl e1) rfl ⟨by rw [HE.out], by rw [HE.out]; exact e2, e3⟩
        · have h1 : ¬ ty = 1 := fun e => ht (.inl e)
          have h2 : ¬ ty = 2 := fun e => ht (.inr e)
          have HE := Lib.hid (rdC_no HK.out h1 h2 h3)
          clear ht
          go_enter Try.func34, Try.ntmps34
          go_wp2_with fail
          refine h0.mono ?_
          rintro e w1 ⟨rfl, s1, f1⟩
          have hB1 : ClB w1 w.heap.size _ := hB0.fr f1 (fun e => hgw e)
          obtain ⟨c0, c1, c2, z0, z1, z2⟩ := hB1.facts
          dsimp only at c0 c1 c2
          have HB := Lib.hid hB1
          have HF := Lib.hid (f0.any.trans f1)
          have HS := Lib.hid s1
          clear hB1 hB0 f0 f1 s1 h0
          go_wp2
          obtain ⟨e1, e2, e3⟩ := cell_end hg HB.out HF.out HS.out false 0 []
          exact bodyPost_ret (v := clV ⟨false, 0, []⟩) (ret_cl (p := 4) rfl _ _ w.heap.size ⟨false, 0, []⟩ rfl e1) rfl ⟨by rw [HE.out], by rw [HE.out]; exact e2, e3⟩
  exact key _ rfl

/-- what Take tells: the cell, what is left, whether the source failed -/
def tkC (ty : Int) (l : List UInt8) : Cl × List UInt8 × Bool := if (rdC ty l).2.2 = false ∧ mayC ty true (rdC ty l).1 = true then rdC ty l else (⟨false, 0, []⟩, [], true)
theorem tkC_yes {ty : Int} {l : List UInt8} (h1 : (rdC ty l).2.2 = false) (h2 : mayC ty true (rdC ty l).1 = true) : tkC ty l = rdC ty l := by unfold tkC; rw [if_pos ⟨h1, h2⟩]
theorem tkC_bad {ty : Int} {l : List UInt8} (h1 : (rdC ty l).2.2 = true) : tkC ty l = (⟨false, 0, []⟩, [], true) := by unfold tkC; rw [if_neg (by rw [h1]; simp)]
theorem tkC_not {ty : Int} {l : List UInt8} (h1 : mayC ty true (rdC ty l).1 = false) : tkC ty l = (⟨false, 0, []⟩, [], true) := by unfold tkC; rw [if_neg (by rw [h1]; simp)]

set_option maxHeartbeats 1000000 in
theorem ctake_any (g : Nat) (l : List UInt8) (bad : Bool) (ty : Int) (w : World) (h : Src w g l bad) :
    Calls Try.prog 17 #[ptr g, .int .i64 ty] w fun e w' => e = .returned (clV (tkC ty l).1) ∧ Src w' g (tkC ty l).2.1 (tkC ty l).2.2 ∧ Fr (One g) w w' := by
  have hg := h.1.lt
  have hB0 := cl_new w ⟨false, 0, []⟩
  have f0 : Fr Non w (w.alloc (.cells #[.bool false, .int .i64 0, .string ⟨([] : List UInt8).toArray⟩] 23)) := (Fr.refl _ _).alloc _
  have h0 := cread_any g l bad ty _ (h.fr f0 (fun e => e))
  have hgw : w.heap.size ≠ g := by omega
  have HY := Lib.hid (tkC_yes (ty := ty) (l := l))
  have HN1 := Lib.hid (tkC_bad (ty := ty) (l := l))
  have HN2 := Lib.hid (tkC_not (ty := ty) (l := l))
  generalize rdC ty l = x at *
  obtain ⟨⟨n, i, t⟩, r, b⟩ := x
  have hm := fun W => may_any ty true ⟨n, i, t⟩ W
  unfold clV clC at hm h0
  dsimp only at h0 HY HN1 HN2 hm
  cases b
  · cases hmc : mayC ty true ⟨n, i, t⟩
    · rw [hmc] at hm
      have HE := Lib.hid (HN2.out hmc)
      clear hmc
      go_enter Try.func17, Try.ntmps17
      go_wp2_with fail
      refine h0.mono ?_
      rintro e w1 ⟨rfl, s1, f1⟩
      have hB1 : ClB w1 w.heap.size _ := hB0.fr f1 (fun e => hgw e)
      have f2 := (Fr.refl Non w1).alloc (.cells #[.bool n, .int .i64 i, .string ⟨t.toArray⟩] 23)
      have hg1 := s1.1.lt
      have hr1 := hB1.lt
      have hB2 : ClB _ w.heap.size _ := hB1.fr f2 (fun e => e)
      have s2 := s1.fr f2 (fun e => e)
      have F2 := (f0.any.trans f1).then f2
      clear hB0 h0 hB1 f0 f1
      go_wp2_with fail
      refine (ok_any g _ _ _ s2).mono ?_
      rintro e w3 ⟨rfl, rfl⟩
      go_wp2_with fail
      refine (hm _).mono ?_
      rintro e w3 ⟨rfl, f3⟩
      go_wp2_with fail
      refine (fail_any g _ _ w3 (s2.fr f3 (fun e => e))).mono ?_
      rintro e w4 ⟨rfl, s4, f4⟩
      have hB4 : ClB w4 w.heap.size _ := (hB2.fr f3 (fun e => e)).fr f4 (fun e => hgw e)
      obtain ⟨c0, c1, c2, z0, z1, z2⟩ := hB4.facts
      dsimp only at c0 c1 c2
      have HB := Lib.hid hB4
      have HF := Lib.hid ((F2.then f3).trans f4)
      have HS := Lib.hid s4
      clear hB2 hB4 f2 f3 f4 s1 s2 s4 F2
      go_wp2
      obtain ⟨e1, e2, e3⟩ := cell_end hg HB.out HF.out HS.out false 0 []
      exact bodyPost_ret (v := clV ⟨false, 0, []⟩) (ret_cl (p := 4) rfl _ _ w.heap.size ⟨false, 0, []⟩ rfl e1) rfl ⟨by rw [HE.out], by rw [HE.out]; exact e2, e3⟩
    · rw [hmc] at hm
      have HE := Lib.hid (HY.out rfl hmc)
      clear hmc
      go_enter Try.func17, Try.ntmps17
      go_wp2_with fail
      refine h0.mono ?_
      rintro e w1 ⟨rfl, s1, f1⟩
      have hB1 : ClB w1 w.heap.size _ := hB0.fr f1 (fun e => hgw e)
      have f2 := (Fr.refl Non w1).alloc (.cells #[.bool n, .int .i64 i, .string ⟨t.toArray⟩] 23)
      have hC2 := cl_new w1 ⟨n, i, t⟩
      have hg1 := s1.1.lt
      have hr1 := hB1.lt
      have hB2 : ClB _ w.heap.size _ := hB1.fr f2 (fun e => e)
      have s2 := s1.fr f2 (fun e => e)
      have F2 := (f0.any.trans f1).then f2
      clear hB0 h0 hB1 f0 f1
      go_wp2_with fail
      refine (ok_any g _ _ _ s2).mono ?_
      rintro e w3 ⟨rfl, rfl⟩
      go_wp2_with fail
      refine (hm _).mono ?_
      rintro e w3 ⟨rfl, f3⟩
      have s4 := s2.fr f3 (fun e => e)
      have hB4 : ClB w3 w.heap.size _ := hB2.fr f3 (fun e => e)
      have hC4 : ClB w3 w1.heap.size _ := hC2.fr f3 (fun e => e)
      obtain ⟨c0, c1, c2, z0, z1, z2⟩ := hB4.facts
      obtain ⟨d0, d1, d2, _, _, _⟩ := hC4.facts
      dsimp only at c0 c1 c2 d0 d1 d2
      have HB := Lib.hid hB4
      have HF := Lib.hid (F2.then f3)
      have HS := Lib.hid s4
      clear hB2 hB4 f2 f3 s1 s2 s4 F2 hC2 hC4
      go_wp2
      obtain ⟨e1, e2, e3⟩ := cell_end hg HB.out HF.out HS.out n i t
      exact bodyPost_ret (v := clV ⟨n, i, t⟩) (ret_cl (p := 4) rfl _ _ w.heap.size ⟨n, i, t⟩ rfl e1) rfl ⟨by rw [HE.out], by rw [HE.out]; exact e2, e3⟩
  · have HE := Lib.hid (HN1.out rfl)
    go_enter Try.func17, Try.ntmps17
    go_wp2_with fail
    refine h0.mono ?_
    rintro e w1 ⟨rfl, s1, f1⟩
    have hB1 : ClB w1 w.heap.size _ := hB0.fr f1 (fun e => hgw e)
    have f2 := (Fr.refl Non w1).alloc (.cells #[.bool n, .int .i64 i, .string ⟨t.toArray⟩] 23)
    have hg1 := s1.1.lt
    have hr1 := hB1.lt
    have hB2 : ClB _ w.heap.size _ := hB1.fr f2 (fun e => e)
    have s2 := s1.fr f2 (fun e => e)
    have F2 := (f0.any.trans f1).then f2
    clear hB0 h0 hB1 f0 f1
    go_wp2_with fail
    refine (ok_any g _ _ _ s2).mono ?_
    rintro e w3 ⟨rfl, rfl⟩
    go_wp2_with fail
    refine (fail_any g _ _ _ s2).mono ?_
    rintro e w4 ⟨rfl, s4, f4⟩
    have hB4 : ClB w4 w.heap.size _ := hB2.fr f4 (fun e => hgw e)
    obtain ⟨c0, c1, c2, z0, z1, z2⟩ := hB4.facts
    dsimp only at c0 c1 c2
    have HB := Lib.hid hB4
    have HF := Lib.hid (F2.trans f4)
    have HS := Lib.hid s4
    clear hB2 hB4 f2 f4 s1 s2 s4 F2
    go_wp2
    obtain ⟨e1, e2, e3⟩ := cell_end hg HB.out HF.out HS.out false 0 []
    exact bodyPost_ret (v := clV ⟨false, 0, []⟩) (ret_cl (p := 4) rfl _ _ w.heap.size ⟨false, 0, []⟩ rfl e1) rfl ⟨by rw [HE.out], by rw [HE.out]; exact e2, e3⟩
end Go.Proofs.Ytkmgplgokhjmjaa
