/-
  Joined: Layer 9: a cell read, both programs'. · Layer 11: a zone read, the program's. · Layer 9: a cell read by the document's own source. · Layer 11: a zone read, the document's. · One text's bytes, read again. · Layer 9: a cell's bytes are read as it. A region that draws, walked by hand: what all steps keep, made stronger midway. · The frame of a law's proof, for any parameters: where the call returned true and turned nothing that was there, the row's words hold. · Arguments opened: a cell by value; a value of each type. · Arguments opened: a zone by value; a slice of cells. · Layer 11: a zone's bytes are read as it; the walk of the law on the bytes.
-/
import Derived.Deep.Slices
import Derived.Test.YtihofmmbdedhbaaZ1
import Derived.Test.YtihofmmbdedhbaaZ2
import Derived.Deep.RegionHeld3
import Derived.Test.YtihofmmbdedhbaaRows
import Derived.ProofKit
import Derived.OpenShut
import Derived.ShutString
import Derived.ChangeOld
import Derived.Below
import Derived.Lib.SmallJoins

namespace Go.Proofs.Ytihofmmbdedhbaa
set_option linter.unusedVariables false
set_option linter.unusedSimpArgs false
set_option maxRecDepth 100000
open Go.RowKit

/-- what read tells: a cell, what is left, whether the source failed -/
def rdC (ty : Int) (l : List UInt8) : Cl × List UInt8 × Bool :=
  if mostV l 1 = 0 then (⟨true, 0, []⟩, mostR l 1, mostB l 1)
  else if ty = 1 ∨ ty = 2 then (⟨false, unzig (fstN (mostR l 1)), []⟩, rest (mostR l 1), fell (mostR l 1))
  else if ty = 3 then (⟨false, 0, txtT (mostR l 1) 40⟩, txtR (mostR l 1) 40, txtB (mostR l 1) 40)
  else (⟨false, 0, []⟩, mostR l 1, mostB l 1)
theorem rdC_null {ty : Int} {l : List UInt8} (h : mostV l 1 = 0) : rdC ty l = (⟨true, 0, []⟩, mostR l 1, mostB l 1) := by unfold rdC; rw [if_pos h]
theorem rdC_num {ty : Int} {l : List UInt8} (h : ¬ mostV l 1 = 0) (ht : ty = 1 ∨ ty = 2) : rdC ty l = (⟨false, unzig (fstN (mostR l 1)), []⟩, rest (mostR l 1), fell (mostR l 1)) := by unfold rdC; rw [if_neg h, if_pos ht]
theorem rdC_txt {l : List UInt8} (h : ¬ mostV l 1 = 0) : rdC 3 l = (⟨false, 0, txtT (mostR l 1) 40⟩, txtR (mostR l 1) 40, txtB (mostR l 1) 40) := by unfold rdC; rw [if_neg h, if_neg (by omega), if_pos rfl]
theorem rdC_no {ty : Int} {l : List UInt8} (h : ¬ mostV l 1 = 0) (h1 : ¬ ty = 1) (h2 : ¬ ty = 2) (h3 : ¬ ty = 3) : rdC ty l = (⟨false, 0, []⟩, mostR l 1, mostB l 1) := by unfold rdC; rw [if_neg h, if_neg (by omega), if_neg h3]

/-- a call's end, behind a cell stored whole in the block made first -/
theorem cell_end {w w1 : World} {g : Nat} {l : List UInt8} {bad : Bool} {c0 : Cl} (hg : g < w.heap.size) (hB : ClB w1 w.heap.size c0) (hF : Fr (One g) w w1) (hS : Src w1 g l bad) (n : Bool) (i : Int) (t : List UInt8) :
    ClB (setCl w1 w.heap.size n i t) w.heap.size ⟨n, i, t⟩ ∧ Src (setCl w1 w.heap.size n i t) g l bad ∧ Fr (One g) w (setCl w1 w.heap.size n i t) :=
  ⟨setCl_B hB n i t, hS.fr (setCl_fr _ _ _ _ _) (fun e => by have : g = w.heap.size := e; omega), hF.fresh (setCl_fr _ _ _ _ _) (fun k e => by have : k = w.heap.size := e; omega)⟩

set_option maxHeartbeats 1000000 in
theorem cread_any (g : Nat) (l : List UInt8) (bad : Bool) (ty : Int) (w : World) (h : Src w g l bad) :
    Calls Try.prog 60 #[ptr g, .int .i64 ty] w fun e w' => e = .returned (clV (rdC ty l).1) ∧ Src w' g (rdC ty l).2.1 (rdC ty l).2.2 ∧ Fr (One g) w w' := by
  have hg := h.1.lt
  have hB0 := cl_new w ⟨false, 0, []⟩
  have f0 : Fr Non w (w.alloc (.cells #[.bool false, .int .i64 0, .string ⟨([] : List UInt8).toArray⟩] 26)) := (Fr.refl _ _).alloc _
  have h0 := below_any g l bad 2 _ (h.fr f0 (fun e => e)) (by omega)
  rw [show (2 : Int) - 1 = 1 by rfl] at h0
  have key : ∀ (k : Nat), mostV l 1 = k → Calls Try.prog 60 #[ptr g, .int .i64 ty] w fun e w' => e = .returned (clV (rdC ty l).1) ∧ Src w' g (rdC ty l).2.1 (rdC ty l).2.2 ∧ Fr (One g) w w' := by
    intro k hk
    rw [hk] at h0
    have hgw : w.heap.size ≠ g := by omega
    by_cases hk0 : k = 0
    · subst hk0
      have HE := Lib.hid (rdC_null (ty := ty) hk)
      clear hk
      go_enter Try.func60, Try.ntmps60
      go_wp2_with fail
      refine h0.mono ?_
      rintro e w1 ⟨rfl, s1, f1⟩
      have hB1 : ClB w1 w.heap.size _ := hB0.fr f1 (fun e => hgw e)
      obtain ⟨c0, c1, c2, z0, z1, z2⟩ := hB1.facts
      dsimp only at c0 c1 c2
      have HB := Lib.hid hB1
      have HF := Lib.hid (f0.any.trans f1)
      have HS := Lib.hid s1
      clear hB1 hB0 f0 f1 s1 h0
      go_wp2
      obtain ⟨e1, e2, e3⟩ := cell_end hg HB.out HF.out HS.out true 0 []
      exact bodyPost_ret (v := clV ⟨true, 0, []⟩) (ret_cl (p := 4) rfl _ _ w.heap.size ⟨true, 0, []⟩ rfl e1) rfl ⟨by rw [HE.out], by rw [HE.out]; exact e2, e3⟩
    · have hkI : ((k : Int) == 0) = false := by rw [beq_eq_false_iff_ne]; omega
      have hk1 : ¬ mostV l 1 = 0 := by rw [hk]; exact hk0
      have HK := Lib.hid hk1
      clear hk hk1 hk0
      by_cases ht : ty = 1 ∨ ty = 2
      · have HE := Lib.hid (rdC_num HK.out ht)
        rcases ht with ht | ht
        all_goals
          subst ht
          go_enter Try.func60, Try.ntmps60
          go_wp2_with fail
          refine h0.mono ?_
          rintro e w1 ⟨rfl, s1, f1⟩
          have hB1 : ClB w1 w.heap.size _ := hB0.fr f1 (fun e => hgw e)
          go_wp2_with fail
          refine (sint_any g _ _ w1 s1).mono ?_
          rintro e w2 ⟨rfl, s2, f2⟩
          have hB2 : ClB w2 w.heap.size _ := hB1.fr f2 (fun e => hgw e)
          obtain ⟨c0, c1, c2, z0, z1, z2⟩ := hB2.facts
          dsimp only at c0 c1 c2
          have HB := Lib.hid hB2
          have HF := Lib.hid ((f0.any.trans f1).trans f2)
          have HS := Lib.hid s2
          clear hB1 hB2 hB0 f0 f1 f2 s1 s2 h0
          generalize unzig (fstN (mostR l 1)) = z at *
          go_wp2
          obtain ⟨e1, e2, e3⟩ := cell_end hg HB.out HF.out HS.out false z []
          exact bodyPost_ret (v := clV ⟨false, z, []⟩) (ret_cl (p := 4) rfl _ _ w.heap.size ⟨false, z, []⟩ rfl e1) rfl ⟨by rw [HE.out], by rw [HE.out]; exact e2, e3⟩
      · by_cases h3 : ty = 3
        · subst h3
          have HE := Lib.hid (rdC_txt HK.out)
          clear ht
          go_enter Try.func60, Try.ntmps60
          go_wp2_with fail
          refine h0.mono ?_
          rintro e w1 ⟨rfl, s1, f1⟩
          have hB1 : ClB w1 w.heap.size _ := hB0.fr f1 (fun e => hgw e)
          go_wp2_with fail
          refine (stext_any g _ _ 40 w1 s1 (by omega)).mono ?_
          rintro e w2 ⟨rfl, s2, f2⟩
          have hB2 : ClB w2 w.heap.size _ := hB1.fr f2 (fun e => hgw e)
          obtain ⟨c0, c1, c2, z0, z1, z2⟩ := hB2.facts
          dsimp only at c0 c1 c2
          have HB := Lib.hid hB2
          have HF := Lib.hid ((f0.any.trans f1).trans f2)
          have HS := Lib.hid s2
          clear hB1 hB2 hB0 f0 f1 f2 s1 s2 h0
          generalize txtT (mostR l 1) 40 = z at *
          go_wp2
          obtain ⟨e1, e2, e3⟩ := cell_end hg HB.out HF.out HS.out false 0 z
          exact bodyPost_ret (v := clV ⟨false, 0, z⟩) (ret_cl (p := 4) rfl _ _ w.heap.size ⟨false, 0, z⟩ rfl e1) rfl ⟨by rw [HE.out], by rw [HE.out]; exact e2, e3⟩
        · have h1 : ¬ ty = 1 := fun e => ht (.inl e)
          have h2 : ¬ ty = 2 := fun e => ht (.inr e)
          have HE := Lib.hid (rdC_no HK.out h1 h2 h3)
          clear ht
          go_enter Try.func60, Try.ntmps60
          go_wp2_with fail
          refine h0.mono ?_
          rintro e w1 ⟨rfl, s1, f1⟩
          have hB1 : ClB w1 w.heap.size _ := hB0.fr f1 (fun e => hgw e)
          obtain ⟨c0, c1, c2, z0, z1, z2⟩ := hB1.facts
          dsimp only at c0 c1 c2
          have HB := Lib.hid hB1
          have HF := Lib.hid (f0.any.trans f1)
          have HS := Lib.hid s1
          clear hB1 hB0 f0 f1 s1 h0
          go_wp2
          obtain ⟨e1, e2, e3⟩ := cell_end hg HB.out HF.out HS.out false 0 []
          exact bodyPost_ret (v := clV ⟨false, 0, []⟩) (ret_cl (p := 4) rfl _ _ w.heap.size ⟨false, 0, []⟩ rfl e1) rfl ⟨by rw [HE.out], by rw [HE.out]; exact e2, e3⟩
  exact key _ rfl

/-- what Take tells: the cell, what is left, whether the source failed -/
def tkC (ty : Int) (l : List UInt8) : Cl × List UInt8 × Bool := if (rdC ty l).2.2 = false ∧ mayC ty true (rdC ty l).1 = true then rdC ty l else (⟨false, 0, []⟩, [], true)
theorem tkC_yes {ty : Int} {l : List UInt8} (h1 : (rdC ty l).2.2 = false) (h2 : mayC ty true (rdC ty l).1 = true) : tkC ty l = rdC ty l := by unfold tkC; rw [if_pos ⟨h1, h2⟩]
theorem tkC_bad {ty : Int} {l : List UInt8} (h1 : (rdC ty l).2.2 = true) : tkC ty l = (⟨false, 0, []⟩, [], true) := by unfold tkC; rw [if_neg (by rw [h1]; simp)]
theorem tkC_not {ty : Int} {l : List UInt8} (h1 : mayC ty true (rdC ty l).1 = false) : tkC ty l = (⟨false, 0, []⟩, [], true) := by unfold tkC; rw [if_neg (by rw [h1]; simp)]

set_option maxHeartbeats 1000000 in
theorem ctake_any (g : Nat) (l : List UInt8) (bad : Bool) (ty : Int) (w : World) (h : Src w g l bad) :
    Calls Try.prog 52 #[ptr g, .int .i64 ty] w fun e w' => e = .returned (clV (tkC ty l).1) ∧ Src w' g (tkC ty l).2.1 (tkC ty l).2.2 ∧ Fr (One g) w w' := by
  have hg := h.1.lt
  have hB0 := cl_new w ⟨false, 0, []⟩
  have f0 : Fr Non w (w.alloc (.cells #[.bool false, .int .i64 0, .string ⟨([] : List UInt8).toArray⟩] 26)) := (Fr.refl _ _).alloc _
  have h0 := cread_any g l bad ty _ (h.fr f0 (fun e => e))
  have hgw : w.heap.size ≠ g := by omega
  have HY := Lib.hid (tkC_yes (ty := ty) (l := l))
  have HN1 := Lib.hid (tkC_bad (ty := ty) (l := l))
  have HN2 := Lib.hid (tkC_not (ty := ty) (l := l))
  generalize rdC ty l = x at *
  obtain ⟨⟨n, i, t⟩, r, b⟩ := x
  have hm := fun W => may_any ty true ⟨n, i, t⟩ W
  unfold clV clC at hm h0
  dsimp only at h0 HY HN1 HN2 hm
  cases b
  · cases hmc : mayC ty true ⟨n, i, t⟩
    · rw [hmc] at hm
      have HE := Lib.hid (HN2.out hmc)
      clear hmc
      go_enter Try.func52, Try.ntmps52
      go_wp2_with fail
      refine h0.mono ?_
      rintro e w1 ⟨rfl, s1, f1⟩
      have hB1 : ClB w1 w.heap.size _ := hB0.fr f1 (fun e => hgw e)
      have f2 := (Fr.refl Non w1).alloc (.cells #[.bool n, .int .i64 i, .string ⟨t.toArray⟩] 26)
      have hg1 := s1.1.lt
      have hr1 := hB1.lt
      have hB2 : ClB _ w.heap.size _ := hB1.fr f2 (fun e => e)
      have s2 := s1.fr f2 (fun e => e)
      have F2 := (f0.any.trans f1).then f2
      clear hB0 h0 hB1 f0 f1
      go_wp2_with fail
      refine (ok_any g _ _ _ s2).mono ?_
      rintro e w3 ⟨rfl, rfl⟩
      go_wp2_with fail
      refine (hm _).mono ?_
      rintro e w3 ⟨rfl, f3⟩
      go_wp2_with fail
      refine (fail_any g _ _ w3 (s2.fr f3 (fun e => e))).mono ?_
      rintro e w4 ⟨rfl, s4, f4⟩
      have hB4 : ClB w4 w.heap.size _ := (hB2.fr f3 (fun e => e)).fr f4 (fun e => hgw e)
      obtain ⟨c0, c1, c2, z0, z1, z2⟩ := hB4.facts
      dsimp only at c0 c1 c2
      have HB := Lib.hid hB4
      have HF := Lib.hid ((F2.then f3).trans f4)
      have HS := Lib.hid s4
      clear hB2 hB4 f2 f3 f4 s1 s2 s4 F2
      go_wp2
      obtain ⟨e1, e2, e3⟩ := cell_end hg HB.out HF.out HS.out false 0 []
      exact bodyPost_ret (v := clV ⟨false, 0, []⟩) (ret_cl (p := 4) rfl _ _ w.heap.size ⟨false, 0, []⟩ rfl e1) rfl ⟨by rw [HE.out], by rw [HE.out]; exact e2, e3⟩
    · rw [hmc] at hm
      have HE := Lib.hid (HY.out rfl hmc)
      clear hmc
      go_enter Try.func52, Try.ntmps52
      go_wp2_with fail
      refine h0.mono ?_
      rintro e w1 ⟨rfl, s1, f1⟩
      have hB1 : ClB w1 w.heap.size _ := hB0.fr f1 (fun e => hgw e)
      have f2 := (Fr.refl Non w1).alloc (.cells #[.bool n, .int .i64 i, .string ⟨t.toArray⟩] 26)
      have hC2 := cl_new w1 ⟨n, i, t⟩
      have hg1 := s1.1.lt
      have hr1 := hB1.lt
      have hB2 : ClB _ w.heap.size _ := hB1.fr f2 (fun e => e)
      have s2 := s1.fr f2 (fun e => e)
      have F2 := (f0.any.trans f1).then f2
      clear hB0 h0 hB1 f0 f1
      go_wp2_with fail
      refine (ok_any g _ _ _ s2).mono ?_
      rintro e w3 ⟨rfl, rfl⟩
      go_wp2_with fail
      refine (hm _).mono ?_
      rintro e w3 ⟨rfl, f3⟩
      have s4 := s2.fr f3 (fun e => e)
      have hB4 : ClB w3 w.heap.size _ := hB2.fr f3 (fun e => e)
      have hC4 : ClB w3 w1.heap.size _ := hC2.fr f3 (fun e => e)
      obtain ⟨c0, c1, c2, z0, z1, z2⟩ := hB4.facts
      obtain ⟨d0, d1, d2, _, _, _⟩ := hC4.facts
      dsimp only at c0 c1 c2 d0 d1 d2
      have HB := Lib.hid hB4
      have HF := Lib.hid (F2.then f3)
      have HS := Lib.hid s4
      clear hB2 hB4 f2 f3 s1 s2 s4 F2 hC2 hC4
      go_wp2
      obtain ⟨e1, e2, e3⟩ := cell_end hg HB.out HF.out HS.out n i t
      exact bodyPost_ret (v := clV ⟨n, i, t⟩) (ret_cl (p := 4) rfl _ _ w.heap.size ⟨n, i, t⟩ rfl e1) rfl ⟨by rw [HE.out], by rw [HE.out]; exact e2, e3⟩
  · have HE := Lib.hid (HN1.out rfl)
    go_enter Try.func52, Try.ntmps52
    go_wp2_with fail
    refine h0.mono ?_
    rintro e w1 ⟨rfl, s1, f1⟩
    have hB1 : ClB w1 w.heap.size _ := hB0.fr f1 (fun e => hgw e)
    have f2 := (Fr.refl Non w1).alloc (.cells #[.bool n, .int .i64 i, .string ⟨t.toArray⟩] 26)
    have hg1 := s1.1.lt
    have hr1 := hB1.lt
    have hB2 : ClB _ w.heap.size _ := hB1.fr f2 (fun e => e)
    have s2 := s1.fr f2 (fun e => e)
    have F2 := (f0.any.trans f1).then f2
    clear hB0 h0 hB1 f0 f1
    go_wp2_with fail
    refine (ok_any g _ _ _ s2).mono ?_
    rintro e w3 ⟨rfl, rfl⟩
    go_wp2_with fail
    refine (fail_any g _ _ _ s2).mono ?_
    rintro e w4 ⟨rfl, s4, f4⟩
    have hB4 : ClB w4 w.heap.size _ := hB2.fr f4 (fun e => hgw e)
    obtain ⟨c0, c1, c2, z0, z1, z2⟩ := hB4.facts
    dsimp only at c0 c1 c2
    have HB := Lib.hid hB4
    have HF := Lib.hid (F2.trans f4)
    have HS := Lib.hid s4
    clear hB2 hB4 f2 f4 s1 s2 s4 F2
    go_wp2
    obtain ⟨e1, e2, e3⟩ := cell_end hg HB.out HF.out HS.out false 0 []
    exact bodyPost_ret (v := clV ⟨false, 0, []⟩) (ret_cl (p := 4) rfl _ _ w.heap.size ⟨false, 0, []⟩ rfl e1) rfl ⟨by rw [HE.out], by rw [HE.out]; exact e2, e3⟩
end Go.Proofs.Ytihofmmbdedhbaa


namespace Go.Proofs.Ytihofmmbdedhbaa
set_option linter.unusedVariables false
set_option linter.unusedSimpArgs false
set_option maxRecDepth 100000
open Go.RowKit

theorem setRow_B {w : World} {g : Nat} {y : Zn} (h : ZnB w g y) (r : Int) : ZnB (w.setCell ⟨g, 0, none⟩ (.int .i64 r)) g ⟨r, y.nulls, y.low, y.high⟩ := Blk.set h 0 _
/-- what read tells: a zone, what is left, whether the source failed -/
def rdZ (ty : Int) (l : List UInt8) : Zn × List UInt8 × Bool :=
  if mostV (mostR l 4096) 4096 < mostV l 4096 then
    (⟨mostV l 4096, mostV (mostR l 4096) 4096, (tkC ty (mostR (mostR l 4096) 4096)).1, (tkC ty (tkC ty (mostR (mostR l 4096) 4096)).2.1).1⟩, (tkC ty (tkC ty (mostR (mostR l 4096) 4096)).2.1).2.1, (tkC ty (tkC ty (mostR (mostR l 4096) 4096)).2.1).2.2)
  else (⟨mostV l 4096, mostV (mostR l 4096) 4096, noCl, noCl⟩, mostR (mostR l 4096) 4096, mostB (mostR l 4096) 4096)
def tkZ (ty : Int) (l : List UInt8) : Zn × List UInt8 × Bool := if (rdZ ty l).2.2 = false ∧ mayZ ty (rdZ ty l).1 = true then rdZ ty l else (noZn, [], true)
theorem tkZ_yes {ty : Int} {l : List UInt8} (h1 : (rdZ ty l).2.2 = false) (h2 : mayZ ty (rdZ ty l).1 = true) : tkZ ty l = rdZ ty l := by unfold tkZ; rw [if_pos ⟨h1, h2⟩]
theorem tkZ_bad {ty : Int} {l : List UInt8} (h1 : (rdZ ty l).2.2 = true) : tkZ ty l = (noZn, [], true) := by unfold tkZ; rw [if_neg (by rw [h1]; simp)]
theorem tkZ_not {ty : Int} {l : List UInt8} (h1 : mayZ ty (rdZ ty l).1 = false) : tkZ ty l = (noZn, [], true) := by unfold tkZ; rw [if_neg (by rw [h1]; simp)]

set_option maxHeartbeats 4000000 in
theorem zread_any (g : Nat) (l : List UInt8) (bad : Bool) (ty : Int) (w : World) (h : Src w g l bad) :
    Calls Try.prog 38 #[ptr g, .int .i64 ty] w fun e w' => e = .returned (znV (rdZ ty l).1) ∧ Src w' g (rdZ ty l).2.1 (rdZ ty l).2.2 ∧ Fr (One g) w w' := by
  have hg := h.1.lt
  have F0 : Fr Non w _ := ((Fr.refl Non w).alloc (.cells (znC noZn) 28)).alloc (.cells (znC noZn) 28)
  have hA : ZnB (w.alloc (.cells (znC noZn) 28)) w.heap.size noZn := Blk.new _ _ _
  have hB : ZnB ((w.alloc (.cells (znC noZn) 28)).alloc (.cells (znC noZn) 28)) (w.alloc (.cells (znC noZn) 28)).heap.size noZn := Blk.new _ _ _
  rw [show (w.alloc (.cells (znC noZn) 28)).heap.size = w.heap.size + 1 by simp] at hB
  have hA0 : ZnB ((w.alloc (.cells (znC noZn) 28)).alloc (.cells (znC noZn) 28)) w.heap.size noZn := hA.fr ((Fr.refl Non _).alloc _) (fun e => e)
  have h0 := below_any g l bad 4097 _ (h.fr F0 (fun e => e)) (by omega)
  rw [show (4097 : Int) - 1 = 4096 by rfl] at h0
  have HE0 : rdZ ty l = if mostV (mostR l 4096) 4096 < mostV l 4096 then (⟨mostV l 4096, mostV (mostR l 4096) 4096, (tkC ty (mostR (mostR l 4096) 4096)).1, (tkC ty (tkC ty (mostR (mostR l 4096) 4096)).2.1).1⟩, (tkC ty (tkC ty (mostR (mostR l 4096) 4096)).2.1).2.1, (tkC ty (tkC ty (mostR (mostR l 4096) 4096)).2.1).2.2) else (⟨mostV l 4096, mostV (mostR l 4096) 4096, noCl, noCl⟩, mostR (mostR l 4096) 4096, mostB (mostR l 4096) 4096) := rfl
  generalize rdZ ty l = X at *
  have V2 := fun W s => below_any g (mostR l 4096) (mostB l 4096) 4097 W s (by omega)
  rw [show (4097 : Int) - 1 = 4096 by rfl] at V2
  generalize mostV l 4096 = r at *
  generalize hl1 : mostR l 4096 = l1 at *
  generalize hb1 : mostB l 4096 = b1 at *
  clear hl1 hb1
  generalize mostV l1 4096 = n at *
  generalize mostR l1 4096 = l2 at *
  generalize mostB l1 4096 = b2 at *
  clear h hA
  unfold znC noZn noCl at *
  dsimp only at *
  replace F0 := Lib.hid F0
  replace hB := Lib.hid hB
  replace hA0 := Lib.hid hA0
  replace h0 := Lib.hid h0
  replace V2 := Lib.hid V2
  go_enter Try.func38, Try.ntmps38
  go_wp2_with fail
  generalize hw : w.heap.size = R at *
  refine h0.out.mono ?_
  rintro e w1 ⟨rfl, s1, f1⟩
  have hB1 : ZnB w1 (R + 1) noZn := hB.out.fr f1 (fun e => by have : R + 1 = g := e; omega)
  have hA1 : ZnB w1 R noZn := hA0.out.fr f1 (fun e => by have : R = g := e; omega)
  have F1 := F0.out.any.trans f1
  clear h0 hB hA0 F0 f1
  have fs := (Fr.refl (One (R + 1)) w1).set1 0 (.int .i64 r)
  have hB2 := setRow_B hB1 r
  have hA2 : ZnB _ R noZn := hA1.fr fs (fun e => by have : R = R + 1 := e; omega)
  have s2 := s1.fr fs (fun e => by have : g = R + 1 := e; omega)
  have F2 := F1.fresh fs (fun k e => by have : k = R + 1 := e; omega)
  obtain ⟨a0, a1, a2, a3, a4, a5, a6, a7⟩ := znB_cells hB1
  obtain ⟨y0, y1, y2, y3, y4, y5, y6, y7⟩ := znB_froz hB1
  have V3 := V2.out _ s2
  clear hB1 hA1 F1 fs s1 s2 V2
  replace hB2 : Hid (ZnB _ _ _) := Lib.hid hB2
  replace hA2 : Hid (ZnB _ _ _) := Lib.hid hA2
  replace F2 := Lib.hid F2
  replace V3 := Lib.hid V3
  go_wp2_with fail
  refine V3.out.mono ?_
  rintro e w3 ⟨rfl, s3, f3⟩
  clear a0 a1 a2 a3 a4 a5 a6 a7 y0 y1 y2 y3 y4 y5 y6 y7
  have hB3 : ZnB w3 (R + 1) ⟨r, 0, noCl, noCl⟩ := hB2.out.fr f3 (fun e => by have : R + 1 = g := e; omega)
  have hA3 : ZnB w3 R noZn := hA2.out.fr f3 (fun e => by have : R = g := e; omega)
  have F3 := F2.out.trans f3
  clear hB2 hA2 F2 f3 V3
  have fs := (Fr.refl (One (R + 1)) w3).set1 1 (.int .i64 n)
  have hB4 : ZnB _ _ ⟨r, n, noCl, noCl⟩ := setNul_B hB3 n
  have hA4 : ZnB _ R noZn := hA3.fr fs (fun e => by have : R = R + 1 := e; omega)
  have s4 := s3.fr fs (fun e => by have : g = R + 1 := e; omega)
  have F4 := F3.fresh fs (fun k e => by have : k = R + 1 := e; omega)
  obtain ⟨a0, a1, a2, a3, a4, a5, a6, a7⟩ := znB_cells hB3
  obtain ⟨y0, y1, y2, y3, y4, y5, y6, y7⟩ := znB_froz hB3
  clear hB3 hA3 F3 fs s3
  have hB4c := hB4
  replace hB4 : Hid (ZnB _ _ _) := Lib.hid hB4
  replace hA4 : Hid (ZnB _ _ _) := Lib.hid hA4
  replace F4 := Lib.hid F4
  replace s4 := Lib.hid s4
  clear hB4c
  have B1 := fun W => bnd_any ⟨r, n, noCl, noCl⟩ W
  unfold znV znC noCl at B1
  dsimp only at B1
  replace B1 := Lib.hid B1
  have hbz : bndZ ⟨(r : Int), n, noCl, noCl⟩ = decide (n < r) := by unfold bndZ; simp
  unfold noCl at hbz
  rw [hbz] at B1
  clear hbz
  go_wp2_with fail
  refine (B1.out _).mono ?_
  rintro e w5 ⟨rfl, f5⟩
  clear a0 a1 a2 a3 a4 a5 a6 a7 y0 y1 y2 y3 y4 y5 y6 y7
  have hB5 : ZnB w5 (R + 1) ⟨r, n, noCl, noCl⟩ := hB4.out.fr f5 (fun e => e)
  have hA5 : ZnB w5 R noZn := hA4.out.fr f5 (fun e => e)
  have s5 := s4.out.fr f5 (fun e => e)
  have F5 := F4.out.then f5
  clear hB4 hA4 F4 s4 f5 B1
  by_cases hb : n < r
  · rw [if_pos hb] at HE0
    have hd : decide (n < r) = true := decide_eq_true hb
    replace HE0 := Lib.hid HE0
    have T1 := ctake_any g l2 b2 ty w5 s5
    have T2 := fun W s => ctake_any g (tkC ty l2).2.1 (tkC ty l2).2.2 ty W s
    generalize tkC ty l2 = p at *
    obtain ⟨lo, l3, b3⟩ := p
    dsimp only at T1 T2 HE0
    generalize tkC ty l3 = q at *
    obtain ⟨hi, l4, b4⟩ := q
    dsimp only at T2 HE0
    replace T1 := Lib.hid T1
    replace T2 := Lib.hid T2
    replace hB5 : Hid (ZnB _ _ _) := Lib.hid hB5
    replace hA5 : Hid (ZnB _ _ _) := Lib.hid hA5
    replace F5 := Lib.hid F5
    clear s5
    go_wp2_with fail
    refine T1.out.mono ?_
    rintro e w6 ⟨rfl, s6, f6⟩
    have hB6 : ZnB w6 (R + 1) ⟨r, n, noCl, noCl⟩ := hB5.out.fr f6 (fun e => by have : R + 1 = g := e; omega)
    have hA6 : ZnB w6 R noZn := hA5.out.fr f6 (fun e => by have : R = g := e; omega)
    have F6 := F5.out.trans f6
    clear hB5 hA5 F5 f6 T1
    have fs := setLow_fr w6 (R + 1) lo.null lo.num lo.txt
    have hB7 : ZnB (setLow w6 (R + 1) lo.null lo.num lo.txt) (R + 1) ⟨r, n, lo, noCl⟩ := setLow_B hB6 lo
    have hA7 : ZnB (setLow w6 (R + 1) lo.null lo.num lo.txt) R noZn := hA6.fr fs (fun e => by have : R = R + 1 := e; omega)
    have s7 := s6.fr fs (fun e => by have : g = R + 1 := e; omega)
    have F7 := F6.fresh fs (fun k e => by have : k = R + 1 := e; omega)
    obtain ⟨a0, a1, a2, a3, a4, a5, a6, a7⟩ := znB_cells hB6
    obtain ⟨y0, y1, y2, y3, y4, y5, y6, y7⟩ := znB_froz hB6
    have V7 := T2.out _ s7
    clear hB6 hA6 F6 fs s6 s7 T2
    unfold setLow at hB7 hA7 F7 V7
    unfold clV clC
    replace hB7 : Hid (ZnB _ _ _) := Lib.hid hB7
    replace hA7 : Hid (ZnB _ _ _) := Lib.hid hA7
    replace F7 := Lib.hid F7
    replace V7 := Lib.hid V7
    go_wp2_with fail
    refine V7.out.mono ?_
    rintro e w8 ⟨rfl, s8, f8⟩
    clear a0 a1 a2 a3 a4 a5 a6 a7 y0 y1 y2 y3 y4 y5 y6 y7
    have hB8 : ZnB w8 (R + 1) ⟨r, n, lo, noCl⟩ := hB7.out.fr f8 (fun e => by have : R + 1 = g := e; omega)
    have hA8 : ZnB w8 R noZn := hA7.out.fr f8 (fun e => by have : R = g := e; omega)
    have F8 := F7.out.trans f8
    clear hB7 hA7 F7 f8 V7
    have fs := setHigh_fr w8 (R + 1) hi.null hi.num hi.txt
    have hA9 : ZnB (setHigh w8 (R + 1) hi.null hi.num hi.txt) R noZn := hA8.fr fs (fun e => by have : R = R + 1 := e; omega)
    have s9 := s8.fr fs (fun e => by have : g = R + 1 := e; omega)
    have F9 := F8.fresh fs (fun k e => by have : k = R + 1 := e; omega)
    obtain ⟨b0, b1, b2, b3', b4', b5, b6, b7⟩ := znB_cells hA8
    obtain ⟨z0, z1, z2, z3, z4, z5, z6, z7⟩ := znB_froz hA8
    obtain ⟨a0, a1, a2, a3, a4, a5, a6, a7⟩ := znB_cells hB8
    obtain ⟨y0, y1, y2, y3, y4, y5, y6, y7⟩ := znB_froz hB8
    have HA := Lib.hid (setZn_B hA9 ⟨r, n, lo, hi⟩)
    have HS := Lib.hid (s9.fr (setZn_fr (setHigh w8 (R + 1) hi.null hi.num hi.txt) R ⟨r, n, lo, hi⟩) (fun e => by have : g = R := e; omega))
    have HF := Lib.hid (F9.fresh (setZn_fr (setHigh w8 (R + 1) hi.null hi.num hi.txt) R ⟨r, n, lo, hi⟩) (fun k e => by have : k = R := e; omega))
    clear hA8 hB8 F8 fs hA9 s8 s9 F9
    unfold clV clC
    go_wp2
    exact bodyPost_ret (v := znV ⟨r, n, lo, hi⟩) (ret_zn (p := 4) rfl _ _ R ⟨r, n, lo, hi⟩ rfl HA.out) rfl ⟨by rw [HE0.out], by rw [HE0.out]; exact HS.out, HF.out⟩
  · rw [if_neg hb] at HE0
    have hd : decide (n < r) = false := decide_eq_false hb
    replace HE0 := Lib.hid HE0
    obtain ⟨b0, b1, b2', b3, b4, b5, b6, b7⟩ := znB_cells hA5
    obtain ⟨z0, z1, z2, z3, z4, z5, z6, z7⟩ := znB_froz hA5
    obtain ⟨a0, a1, a2, a3, a4, a5, a6, a7⟩ := znB_cells hB5
    obtain ⟨y0, y1, y2, y3, y4, y5, y6, y7⟩ := znB_froz hB5
    have HA := Lib.hid (setZn_B hA5 ⟨r, n, noCl, noCl⟩)
    have HS := Lib.hid (s5.fr (setZn_fr w5 R ⟨r, n, noCl, noCl⟩) (fun e => by have : g = R := e; omega))
    have HF := Lib.hid (F5.fresh (setZn_fr w5 R ⟨r, n, noCl, noCl⟩) (fun k e => by have : k = R := e; omega))
    clear hA5 hB5 F5 s5
    go_wp2
    exact bodyPost_ret (v := znV ⟨r, n, noCl, noCl⟩) (ret_zn (p := 4) rfl _ _ R ⟨r, n, noCl, noCl⟩ rfl HA.out) rfl ⟨by rw [HE0.out]; rfl, by rw [HE0.out]; exact HS.out, HF.out⟩

set_option maxHeartbeats 4000000 in
theorem ztake_any (g : Nat) (l : List UInt8) (bad : Bool) (ty : Int) (w : World) (h : Src w g l bad) :
    Calls Try.prog 20 #[ptr g, .int .i64 ty] w fun e w' => e = .returned (znV (tkZ ty l).1) ∧ Src w' g (tkZ ty l).2.1 (tkZ ty l).2.2 ∧ Fr (One g) w w' := by
  have hg := h.1.lt
  have hA0 : ZnB (w.alloc (.cells (znC noZn) 28)) w.heap.size noZn := Blk.new _ _ _
  have F0 : Fr Non w _ := (Fr.refl Non w).alloc (.cells (znC noZn) 28)
  have h0 := zread_any g l bad ty _ (h.fr F0 (fun e => e))
  have HY := Lib.hid (tkZ_yes (ty := ty) (l := l))
  have HN1 := Lib.hid (tkZ_bad (ty := ty) (l := l))
  have HN2 := Lib.hid (tkZ_not (ty := ty) (l := l))
  generalize rdZ ty l = x at *
  obtain ⟨z, r, b⟩ := x
  dsimp only at h0 HY HN1 HN2
  have M1 := fun W => zmay_any ty z W
  unfold znV at M1 h0
  unfold znC noZn noCl at *
  dsimp only at *
  replace h0 := Lib.hid h0
  replace hA0 := Lib.hid hA0
  replace F0 := Lib.hid F0
  replace M1 := Lib.hid M1
  clear h
  go_enter Try.func20, Try.ntmps20
  go_wp2_with fail
  generalize hw : w.heap.size = R at *
  refine h0.out.mono ?_
  rintro e w1 ⟨rfl, s1, f1⟩
  have hA1 : ZnB w1 R noZn := hA0.out.fr f1 (fun e => by have : R = g := e; omega)
  have F1 := F0.out.any.trans f1
  have f2 := (Fr.refl Non w1).alloc (.cells (znC z) 28)
  have hB2 : ZnB (w1.alloc (.cells (znC z) 28)) w1.heap.size z := Blk.new _ _ _
  have hA2 : ZnB (w1.alloc (.cells (znC z) 28)) R noZn := hA1.fr f2 (fun e => e)
  have s2 := s1.fr f2 (fun e => e)
  have F2 := F1.then f2
  have hRw := hA1.lt
  have hgw := s1.1.lt
  clear hA0 F0 h0 f1 hA1 F1 f2 s1
  have K1 := ok_any g _ _ _ s2
  unfold znC at hB2 hA2 s2 F2 K1
  replace hB2 : Hid (ZnB _ _ _) := Lib.hid hB2
  replace hA2 : Hid (ZnB _ _ _) := Lib.hid hA2
  replace F2 := Lib.hid F2
  replace s2 := Lib.hid s2
  replace K1 := Lib.hid K1
  go_wp2_with fail
  refine K1.out.mono ?_
  rintro e w3 ⟨rfl, rfl⟩
  clear K1
  cases b
  · cases hm : mayZ ty z
    · replace HN2 := Lib.hid (HN2.out hm)
      rw [hm] at M1
      clear hm HN1 HY
      obtain ⟨a0, a1, a2, a3, a4, a5, a6, a7⟩ := znB_cells hB2.out
      go_wp2_with fail
      refine (M1.out _).mono ?_
      rintro e w4 ⟨rfl, f4⟩
      have hA4 : ZnB w4 R noZn := hA2.out.fr f4 (fun e => e)
      have s4 := s2.out.fr f4 (fun e => e)
      have F4 := F2.out.then f4
      have hB4 : ZnB w4 _ z := hB2.out.fr f4 (fun e => e)
      clear a0 a1 a2 a3 a4 a5 a6 a7 hA2 s2 F2 hB2 f4 M1
      replace hA4 : Hid (ZnB _ _ _) := Lib.hid hA4
      replace s4 := Lib.hid s4
      replace F4 := Lib.hid F4
      clear hB4
      go_wp2_with fail
      refine (fail_any g _ _ _ s4.out).mono ?_
      rintro e w5 ⟨rfl, s5, f5⟩
      have hA5 : ZnB w5 R noZn := hA4.out.fr f5 (fun e => by have : R = g := e; omega)
      have F5 := F4.out.trans f5
      obtain ⟨b0, b1, b2, b3, b4, b5, b6, b7⟩ := znB_cells hA5
      obtain ⟨z0, z1, z2, z3, z4, z5, z6, z7⟩ := znB_froz hA5
      have HA := Lib.hid (setZn_B hA5 noZn)
      have HS := Lib.hid (s5.fr (setZn_fr w5 R noZn) (fun e => by have : g = R := e; omega))
      have HF := Lib.hid (F5.fresh (setZn_fr w5 R noZn) (fun k e => by have : k = R := e; omega))
      clear hA5 s5 F5 f5
      go_wp2
      exact bodyPost_ret (v := znV noZn) (ret_zn (p := 4) rfl _ _ R noZn rfl HA.out) rfl ⟨by rw [HN2.out]; rfl, by rw [HN2.out]; exact HS.out, HF.out⟩
    · replace HY := Lib.hid (HY.out rfl hm)
      rw [hm] at M1
      clear hm HN1 HN2
      obtain ⟨a0, a1, a2, a3, a4, a5, a6, a7⟩ := znB_cells hB2.out
      go_wp2_with fail
      refine (M1.out _).mono ?_
      rintro e w4 ⟨rfl, f4⟩
      have hA4 : ZnB w4 R noZn := hA2.out.fr f4 (fun e => e)
      have s4 := s2.out.fr f4 (fun e => e)
      have F4 := F2.out.then f4
      have hB4 : ZnB w4 _ z := hB2.out.fr f4 (fun e => e)
      clear a0 a1 a2 a3 a4 a5 a6 a7 hA2 s2 F2 hB2 f4 M1
      obtain ⟨a0, a1, a2, a3, a4, a5, a6, a7⟩ := znB_cells hB4
      obtain ⟨b0, b1, b2, b3, b4, b5, b6, b7⟩ := znB_cells hA4
      obtain ⟨z0, z1, z2, z3, z4, z5, z6, z7⟩ := znB_froz hA4
      have HA := Lib.hid (setZn_B hA4 z)
      have HS := Lib.hid (s4.fr (setZn_fr w4 R z) (fun e => by have : g = R := e; omega))
      have HF := Lib.hid (F4.fresh (setZn_fr w4 R z) (fun k e => by have : k = R := e; omega))
      clear hA4 hB4 s4 F4
      go_wp2
      exact bodyPost_ret (v := znV z) (ret_zn (p := 4) rfl _ _ R z rfl HA.out) rfl ⟨by rw [HY.out], by rw [HY.out]; exact HS.out, HF.out⟩
  · replace HN1 := Lib.hid (HN1.out rfl)
    clear HY HN2 hB2 M1
    go_wp2_with fail
    refine (fail_any g _ _ _ s2.out).mono ?_
    rintro e w5 ⟨rfl, s5, f5⟩
    have hA5 : ZnB w5 R noZn := hA2.out.fr f5 (fun e => by have : R = g := e; omega)
    have F5 := F2.out.trans f5
    obtain ⟨b0, b1, b2, b3, b4, b5, b6, b7⟩ := znB_cells hA5
    obtain ⟨z0, z1, z2, z3, z4, z5, z6, z7⟩ := znB_froz hA5
    have HA := Lib.hid (setZn_B hA5 noZn)
    have HS := Lib.hid (s5.fr (setZn_fr w5 R noZn) (fun e => by have : g = R := e; omega))
    have HF := Lib.hid (F5.fresh (setZn_fr w5 R noZn) (fun k e => by have : k = R := e; omega))
    clear hA5 s5 F5 f5
    go_wp2
    exact bodyPost_ret (v := znV noZn) (ret_zn (p := 4) rfl _ _ R noZn rfl HA.out) rfl ⟨by rw [HN1.out]; rfl, by rw [HN1.out]; exact HS.out, HF.out⟩
end Go.Proofs.Ytihofmmbdedhbaa


namespace Go.Proofs.Ytihofmmbdedhbaa
set_option linter.unusedVariables false
set_option linter.unusedSimpArgs false
set_option maxRecDepth 100000
open Go.RowKit

/-- what the document's Take has read, ahead of its test -/
def rdR (ty : Int) (l : List UInt8) : Cl × List UInt8 × Bool :=
  if mostV l 1 = 0 then (⟨true, 0, []⟩, mostR l 1, mostB l 1)
  else if ty = 3 then (⟨false, 0, txtT (mostR l 1) 40⟩, txtR (mostR l 1) 40, txtB (mostR l 1) 40)
  else (⟨false, unzig (fstN (mostR l 1)), []⟩, rest (mostR l 1), fell (mostR l 1))
theorem rdR_null {ty : Int} {l : List UInt8} (h : mostV l 1 = 0) : rdR ty l = (⟨true, 0, []⟩, mostR l 1, mostB l 1) := by unfold rdR; rw [if_pos h]
theorem rdR_txt {l : List UInt8} (h : ¬ mostV l 1 = 0) : rdR 3 l = (⟨false, 0, txtT (mostR l 1) 40⟩, txtR (mostR l 1) 40, txtB (mostR l 1) 40) := by unfold rdR; rw [if_neg h, if_pos rfl]
theorem rdR_num {ty : Int} {l : List UInt8} (h : ¬ mostV l 1 = 0) (h3 : ¬ ty = 3) : rdR ty l = (⟨false, unzig (fstN (mostR l 1)), []⟩, rest (mostR l 1), fell (mostR l 1)) := by unfold rdR; rw [if_neg h, if_neg h3]
theorem tkC_R (ty : Int) (l : List UInt8) : tkC ty l = if (rdR ty l).2.2 = false ∧ mayC ty true (rdR ty l).1 = true then rdR ty l else (⟨false, 0, []⟩, [], true) := by
  have e : (ty = 1 ∨ ty = 2 ∨ ty = 3) ∨ ¬ (ty = 1 ∨ ty = 2 ∨ ty = 3) := by omega
  rcases e with e | e
  · have h : rdC ty l = rdR ty l := by
      unfold rdC rdR
      rcases e with e | e | e <;> subst e <;> simp
    unfold tkC; rw [h]
  · have h1 : ∀ c, mayC ty true c = false := fun c => mayC_no (by omega) (by omega) (by omega) true c
    unfold tkC
    rw [h1, h1]; simp
theorem mostV_sm (l : List UInt8) (m : Int) (hm : 0 ≤ m) : (mostV l m : Int) ≤ m := by
  unfold mostV
  split
  · rename_i h
    unfold mostOk at h
    simpa using (of_decide_eq_true h).2
  · simpa using hm
theorem mostR_sm (l : List UInt8) (m : Int) : (mostR l m).length ≤ l.length := by
  unfold mostR
  split
  · exact rest_le l
  · simp

theorem SAt.lt {w : World} {g : Nat} {S : Nat → Prop} {l : List UInt8} {bad : Bool} (h : SAt w g S l bad) : g < w.heap.size := by
  obtain ⟨v, h1, _⟩ := h; exact h1.lt
theorem SAt.non {w w' : World} {g : Nat} {S : Nat → Prop} {l : List UInt8} {bad : Bool} (h : SAt w g S l bad) (hf : Fr Non w w') : SAt w' g S l bad := h.fr hf (fun e => e) (fun _ e => e.elim)
/-- a cell stored whole in a block that was made behind the source's -/
theorem SAt.setCl {w : World} {g R : Nat} {S : Nat → Prop} {l : List UInt8} {bad : Bool} (h : SAt w g S l bad) (hn : g ≠ R) (hB : ∀ v, Blk w g 42 #[v, .bool bad] → ∀ k, v.ownBlock = some k → k ≠ R) (n : Bool) (i : Int) (t : List UInt8) : SAt (setCl w R n i t) g S l bad := by
  obtain ⟨v, h1, h2, h3, h4, h5⟩ := h
  exact ⟨v, h1.fr (setCl_fr _ _ _ _ _) (fun e => hn e), h2.fr (setCl_fr _ _ _ _ _) (fun k hk e => hB v h1 k hk e), h3, h4, h5⟩

set_option maxHeartbeats 4000000 in
theorem rctake_any (g : Nat) (S : Nat → Prop) (l : List UInt8) (bad : Bool) (ty : Int) (w : World) (h : SAt w g S l bad) (hl : l.length < 1000000000) (hS : ∀ k, w.heap.size ≤ k → S k) :
    Calls Try.prog 41 #[ptr g, .int .i64 ty] w fun e w' => e = .returned (clV (tkC ty l).1) ∧ SAt w' g S (tkC ty l).2.1 (tkC ty l).2.2 ∧ Fr (One g) w w' := by
  have hg := h.lt
  have hB0 := cl_new w ⟨false, 0, []⟩
  have f0 : Fr Non w (w.alloc (.cells #[.bool false, .int .i64 0, .string ⟨([] : List UInt8).toArray⟩] 26)) := (Fr.refl _ _).alloc _
  have h0 := rbelow_any g S l bad 2 _ (h.non f0) hl (by omega)
  rw [show (2 : Int) - 1 = 1 by rfl] at h0
  have hk1 := mostV_sm l 1 (by omega)
  have hrl := mostR_sm l 1
  generalize hRr : w.heap.size = R at *
  have hgw : R ≠ g := by omega
  have hR : R ≤ R := Nat.le_refl R
  have hSR := hS R hR
  have key : ∀ (k : Nat), mostV l 1 = k → Calls Try.prog 41 #[ptr g, .int .i64 ty] w fun e w' => e = .returned (clV (tkC ty l).1) ∧ SAt w' g S (tkC ty l).2.1 (tkC ty l).2.2 ∧ Fr (One g) w w' := by
    intro k hk
    rw [hk] at h0 hk1
    by_cases hk0 : k = 0
    · subst hk0
      have HT := Lib.hid (tkC_R ty l)
      have hT := HT.out
      rw [rdR_null hk] at hT
      clear hk hk1
      have HY : Hid _ := Lib.hid (fun (h1 : mostB l 1 = false) (h2 : mayC ty true ⟨true, 0, []⟩ = true) => hT.trans (if_pos ⟨h1, h2⟩))
      have HN1 : Hid _ := Lib.hid (fun (h1 : mostB l 1 = true) => hT.trans (if_neg (by rw [h1]; simp)))
      have HN2 : Hid _ := Lib.hid (fun (h1 : mayC ty true ⟨true, 0, []⟩ = false) => hT.trans (if_neg (by simp only [h1]; simp)))
      have hm := fun W => rmay_any ty true ⟨true, 0, []⟩ W
      unfold clV clC at hm
      dsimp only at hm
      clear hT HT
      go_enter Try.func41, Try.ntmps41
      go_wp2_with fail
      refine h0.mono ?_
      rintro e w1 ⟨rfl, s1, f1⟩
      have hB1 : ClB w1 R _ := hB0.fr f1 (fun e => hgw e)
      have hR1 := hB1.lt
      have f2 := (Fr.refl Non w1).alloc (.cells #[.bool true, .int .i64 0, .string ⟨([] : List UInt8).toArray⟩] 26)
      have hC := cl_new w1 ⟨true, 0, []⟩
      have hB : ClB _ R _ := hB1.fr f2 (fun e => e)
      have s4 := s1.non f2
      have F4 := (f0.any.trans f1).then f2
      generalize hR2 : w1.heap.size = R2 at *
      clear h0 hB0 hB1 f1 f2 s1 f0
      generalize mostR l 1 = r at *
      generalize mostB l 1 = b at *
      cases b
      · cases hmc : mayC ty true ⟨true, 0, []⟩
        · rw [hmc] at hm
          have HE := Lib.hid (HN2.out hmc)
          clear hmc
          obtain ⟨A4, q4, p0, p1, p2, _⟩ := s4.cells
          obtain ⟨d0, d1, d2, _, _, _⟩ := hC.facts
          dsimp only at d0 d1 d2
          go_wp2_with fail
          refine (hm _).mono ?_
          rintro e w5 ⟨rfl, f5⟩
          go_wp2_with fail
          refine (rfail_any g S _ _ w5 (s4.non f5)).mono ?_
          rintro e w6 ⟨rfl, s6, f6⟩
          have hB6 : ClB w6 R _ := (hB.fr f5 (fun e => e)).fr f6 (fun e => hgw e)
          obtain ⟨c0, c1, c2, z0, z1, z2⟩ := hB6.facts
          dsimp only at c0 c1 c2
          have HB := Lib.hid hB6
          have HF := Lib.hid ((F4.then f5).trans f6)
          have HS := Lib.hid s6
          clear hB hB6 f5 f6 s4 s6 F4 hC
          go_wp2
          exact bodyPost_ret (v := clV ⟨false, 0, []⟩) (ret_cl (p := 4) rfl _ _ R ⟨false, 0, []⟩ rfl (setCl_B HB.out false 0 [])) rfl ⟨by rw [HE.out], by rw [HE.out]; exact HS.out.fr (setCl_fr _ _ _ _ _) (fun e => hgw (Eq.symm e)) (fun k e => by rw [show k = R from e]; exact hSR), HF.out.fresh (setCl_fr _ _ _ _ _) (fun k e => by rw [show k = R from e]; omega)⟩
        · rw [hmc] at hm
          have HE := Lib.hid (HY.out rfl hmc)
          clear hmc
          obtain ⟨A4, q4, p0, p1, p2, _⟩ := s4.cells
          obtain ⟨d0, d1, d2, _, _, _⟩ := hC.facts
          dsimp only at d0 d1 d2
          go_wp2_with fail
          refine (hm _).mono ?_
          rintro e w5 ⟨rfl, f5⟩
          have hB5 : ClB w5 R _ := hB.fr f5 (fun e => e)
          obtain ⟨c0, c1, c2, z0, z1, z2⟩ := hB5.facts
          have hC5 : ClB w5 R2 _ := hC.fr f5 (fun e => e)
          clear d0 d1 d2
          obtain ⟨d0, d1, d2, _, _, _⟩ := hC5.facts
          dsimp only at c0 c1 c2 d0 d1 d2
          have HB := Lib.hid hB5
          have HF := Lib.hid (F4.then f5)
          have HS := Lib.hid (s4.non f5)
          clear hB hB5 f5 s4 F4 hC hC5
          go_wp2
          exact bodyPost_ret (v := clV ⟨true, 0, []⟩) (ret_cl (p := 4) rfl _ _ R ⟨true, 0, []⟩ rfl (setCl_B HB.out true 0 [])) rfl ⟨by rw [HE.out], by rw [HE.out]; exact HS.out.fr (setCl_fr _ _ _ _ _) (fun e => hgw (Eq.symm e)) (fun k e => by rw [show k = R from e]; exact hSR), HF.out.fresh (setCl_fr _ _ _ _ _) (fun k e => by rw [show k = R from e]; omega)⟩
      · have HE := Lib.hid (HN1.out rfl)
        obtain ⟨A4, q4, p0, p1, p2, _⟩ := s4.cells
        go_wp2_with fail
        refine (rfail_any g S _ _ _ s4).mono ?_
        rintro e w6 ⟨rfl, s6, f6⟩
        have hB6 : ClB w6 R _ := hB.fr f6 (fun e => hgw e)
        obtain ⟨c0, c1, c2, z0, z1, z2⟩ := hB6.facts
        dsimp only at c0 c1 c2
        have HB := Lib.hid hB6
        have HF := Lib.hid (F4.trans f6)
        have HS := Lib.hid s6
        clear hB hB6 f6 s4 s6 F4 hC
        go_wp2
        exact bodyPost_ret (v := clV ⟨false, 0, []⟩) (ret_cl (p := 4) rfl _ _ R ⟨false, 0, []⟩ rfl (setCl_B HB.out false 0 [])) rfl ⟨by rw [HE.out], by rw [HE.out]; exact HS.out.fr (setCl_fr _ _ _ _ _) (fun e => hgw (Eq.symm e)) (fun k e => by rw [show k = R from e]; exact hSR), HF.out.fresh (setCl_fr _ _ _ _ _) (fun k e => by rw [show k = R from e]; omega)⟩
    · obtain rfl : k = 1 := by omega
      have hk2 : ¬ mostV l 1 = 0 := by rw [hk]; decide
      by_cases h3 : ty = 3
      · subst h3
        have HT := Lib.hid (tkC_R 3 l)
        have hT := HT.out
        rw [rdR_txt hk2] at hT
        clear hk hk1 hk2 hk0
        have HY : Hid _ := Lib.hid (fun (h1 : txtB (mostR l 1) 40 = false) (h2 : mayC 3 true ⟨false, 0, txtT (mostR l 1) 40⟩ = true) => hT.trans (if_pos ⟨h1, h2⟩))
        have HN1 : Hid _ := Lib.hid (fun (h1 : txtB (mostR l 1) 40 = true) => hT.trans (if_neg (by rw [h1]; simp)))
        have HN2 : Hid _ := Lib.hid (fun (h1 : mayC 3 true ⟨false, 0, txtT (mostR l 1) 40⟩ = false) => hT.trans (if_neg (by simp only [h1]; simp)))
        have hm := fun W => rmay_any 3 true ⟨false, 0, txtT (mostR l 1) 40⟩ W
        unfold clV clC at hm
        dsimp only at hm
        clear hT HT
        go_enter Try.func41, Try.ntmps41
        go_wp2_with fail
        refine h0.mono ?_
        rintro e w1 ⟨rfl, s1, f1⟩
        have hB1 : ClB w1 R _ := hB0.fr f1 (fun e => hgw e)
        have hR1 := hB1.lt
        have f2 := (Fr.refl Non w1).alloc (.cells #[.bool false, .int .i64 0, .string ⟨([] : List UInt8).toArray⟩] 26)
        have hC2 := cl_new w1 ⟨false, 0, []⟩
        have hB2 : ClB _ R _ := hB1.fr f2 (fun e => e)
        have s2 := s1.non f2
        have F2 := (f0.any.trans f1).then f2
        have hg1 := s1.lt
        go_wp2_with fail
        refine (rstext_any g S _ _ 40 _ s2 (by omega) (by omega)).mono ?_
        rintro e w3 ⟨rfl, s3, f3⟩
        have hC3 : ClB w3 w1.heap.size _ := hC2.fr f3 (fun e => by have : w1.heap.size = g := e; omega)
        have hB3 : ClB w3 R _ := hB2.fr f3 (fun e => hgw e)
        obtain ⟨d0, d1, d2, y0, y1, y2⟩ := hC3.facts
        dsimp only at d0 d1 d2
        generalize txtT (mostR l 1) 40 = t at *
        generalize txtR (mostR l 1) 40 = r at *
        generalize txtB (mostR l 1) 40 = b at *
        have f4 := (Fr.refl (One w1.heap.size) w3).set1 2 (.string ⟨t.toArray⟩)
        have hC : ClB _ w1.heap.size ⟨false, 0, t⟩ := hC3.set 2 (.string ⟨t.toArray⟩)
        have hB : ClB _ R _ := hB3.fr f4 (fun e => by have : R = w1.heap.size := e; omega)
        have s4 := s3.fr f4 (fun e => by have : g = w1.heap.size := e; omega) (fun k e => by rw [show k = w1.heap.size from e]; exact hS _ (by omega))
        have F4 := (F2.trans f3).fresh f4 (fun k e => by rw [show k = w1.heap.size from e]; omega)
        generalize hR2 : w1.heap.size = R2 at *
        clear h0 hB0 hB1 f1 f2 s1 f0 hC2 hB2 s2 F2 f3 hC3 hB3 f4 s3
        cases b
        · cases hmc : mayC 3 true ⟨false, 0, t⟩
          · rw [hmc] at hm
            have HE := Lib.hid (HN2.out hmc)
            clear hmc
            obtain ⟨A4, q4, p0, p1, p2, _⟩ := s4.cells
            obtain ⟨d0, d1, d2, _, _, _⟩ := hC.facts
            dsimp only at d0 d1 d2
            go_wp2_with fail
            refine (hm _).mono ?_
            rintro e w5 ⟨rfl, f5⟩
            go_wp2_with fail
            refine (rfail_any g S _ _ w5 (s4.non f5)).mono ?_
            rintro e w6 ⟨rfl, s6, f6⟩
            have hB6 : ClB w6 R _ := (hB.fr f5 (fun e => e)).fr f6 (fun e => hgw e)
            obtain ⟨c0, c1, c2, z0, z1, z2⟩ := hB6.facts
            dsimp only at c0 c1 c2
            have HB := Lib.hid hB6
            have HF := Lib.hid ((F4.then f5).trans f6)
            have HS := Lib.hid s6
            clear hB hB6 f5 f6 s4 s6 F4 hC
            go_wp2
            exact bodyPost_ret (v := clV ⟨false, 0, []⟩) (ret_cl (p := 4) rfl _ _ R ⟨false, 0, []⟩ rfl (setCl_B HB.out false 0 [])) rfl ⟨by rw [HE.out], by rw [HE.out]; exact HS.out.fr (setCl_fr _ _ _ _ _) (fun e => hgw (Eq.symm e)) (fun k e => by rw [show k = R from e]; exact hSR), HF.out.fresh (setCl_fr _ _ _ _ _) (fun k e => by rw [show k = R from e]; omega)⟩
          · rw [hmc] at hm
            have HE := Lib.hid (HY.out rfl hmc)
            clear hmc
            obtain ⟨A4, q4, p0, p1, p2, _⟩ := s4.cells
            obtain ⟨d0, d1, d2, _, _, _⟩ := hC.facts
            dsimp only at d0 d1 d2
            go_wp2_with fail
            refine (hm _).mono ?_
            rintro e w5 ⟨rfl, f5⟩
            have hB5 : ClB w5 R _ := hB.fr f5 (fun e => e)
            obtain ⟨c0, c1, c2, z0, z1, z2⟩ := hB5.facts
            have hC5 : ClB w5 R2 _ := hC.fr f5 (fun e => e)
            clear d0 d1 d2
            obtain ⟨d0, d1, d2, _, _, _⟩ := hC5.facts
            dsimp only at c0 c1 c2 d0 d1 d2
            have HB := Lib.hid hB5
            have HF := Lib.hid (F4.then f5)
            have HS := Lib.hid (s4.non f5)
            clear hB hB5 f5 s4 F4 hC hC5
            go_wp2
            exact bodyPost_ret (v := clV ⟨false, 0, t⟩) (ret_cl (p := 4) rfl _ _ R ⟨false, 0, t⟩ rfl (setCl_B HB.out false 0 t)) rfl ⟨by rw [HE.out], by rw [HE.out]; exact HS.out.fr (setCl_fr _ _ _ _ _) (fun e => hgw (Eq.symm e)) (fun k e => by rw [show k = R from e]; exact hSR), HF.out.fresh (setCl_fr _ _ _ _ _) (fun k e => by rw [show k = R from e]; omega)⟩
        · have HE := Lib.hid (HN1.out rfl)
          obtain ⟨A4, q4, p0, p1, p2, _⟩ := s4.cells
          go_wp2_with fail
          refine (rfail_any g S _ _ _ s4).mono ?_
          rintro e w6 ⟨rfl, s6, f6⟩
          have hB6 : ClB w6 R _ := hB.fr f6 (fun e => hgw e)
          obtain ⟨c0, c1, c2, z0, z1, z2⟩ := hB6.facts
          dsimp only at c0 c1 c2
          have HB := Lib.hid hB6
          have HF := Lib.hid (F4.trans f6)
          have HS := Lib.hid s6
          clear hB hB6 f6 s4 s6 F4 hC
          go_wp2
          exact bodyPost_ret (v := clV ⟨false, 0, []⟩) (ret_cl (p := 4) rfl _ _ R ⟨false, 0, []⟩ rfl (setCl_B HB.out false 0 [])) rfl ⟨by rw [HE.out], by rw [HE.out]; exact HS.out.fr (setCl_fr _ _ _ _ _) (fun e => hgw (Eq.symm e)) (fun k e => by rw [show k = R from e]; exact hSR), HF.out.fresh (setCl_fr _ _ _ _ _) (fun k e => by rw [show k = R from e]; omega)⟩
      · have HT := Lib.hid (tkC_R ty l)
        have hT := HT.out
        rw [rdR_num hk2 h3] at hT
        clear hk hk1 hk2 hk0
        have HY : Hid _ := Lib.hid (fun (h1 : fell (mostR l 1) = false) (h2 : mayC ty true ⟨false, unzig (fstN (mostR l 1)), []⟩ = true) => hT.trans (if_pos ⟨h1, h2⟩))
        have HN1 : Hid _ := Lib.hid (fun (h1 : fell (mostR l 1) = true) => hT.trans (if_neg (by rw [h1]; simp)))
        have HN2 : Hid _ := Lib.hid (fun (h1 : mayC ty true ⟨false, unzig (fstN (mostR l 1)), []⟩ = false) => hT.trans (if_neg (by simp only [h1]; simp)))
        have hm := fun W => rmay_any ty true ⟨false, unzig (fstN (mostR l 1)), []⟩ W
        unfold clV clC at hm
        dsimp only at hm
        clear hT HT
        go_enter Try.func41, Try.ntmps41
        go_wp2_with fail
        refine h0.mono ?_
        rintro e w1 ⟨rfl, s1, f1⟩
        have hB1 : ClB w1 R _ := hB0.fr f1 (fun e => hgw e)
        have hR1 := hB1.lt
        have f2 := (Fr.refl Non w1).alloc (.cells #[.bool false, .int .i64 0, .string ⟨([] : List UInt8).toArray⟩] 26)
        have hC2 := cl_new w1 ⟨false, 0, []⟩
        have hB2 : ClB _ R _ := hB1.fr f2 (fun e => e)
        have s2 := s1.non f2
        have F2 := (f0.any.trans f1).then f2
        have hg1 := s1.lt
        go_wp2_with fail
        refine (rsint_any g S _ _ _ s2 (by omega)).mono ?_
        rintro e w3 ⟨rfl, s3, f3⟩
        have hC3 : ClB w3 w1.heap.size _ := hC2.fr f3 (fun e => by have : w1.heap.size = g := e; omega)
        have hB3 : ClB w3 R _ := hB2.fr f3 (fun e => hgw e)
        obtain ⟨d0, d1, d2, y0, y1, y2⟩ := hC3.facts
        dsimp only at d0 d1 d2
        generalize unzig (fstN (mostR l 1)) = i at *
        generalize rest (mostR l 1) = r at *
        generalize fell (mostR l 1) = b at *
        have f4 := (Fr.refl (One w1.heap.size) w3).set1 1 (.int .i64 i)
        have hC : ClB _ w1.heap.size ⟨false, i, []⟩ := hC3.set 1 (.int .i64 i)
        have hB : ClB _ R _ := hB3.fr f4 (fun e => by have : R = w1.heap.size := e; omega)
        have s4 := s3.fr f4 (fun e => by have : g = w1.heap.size := e; omega) (fun k e => by rw [show k = w1.heap.size from e]; exact hS _ (by omega))
        have F4 := (F2.trans f3).fresh f4 (fun k e => by rw [show k = w1.heap.size from e]; omega)
        generalize hR2 : w1.heap.size = R2 at *
        clear h0 hB0 hB1 f1 f2 s1 f0 hC2 hB2 s2 F2 f3 hC3 hB3 f4 s3
        cases b
        · cases hmc : mayC ty true ⟨false, i, []⟩
          · rw [hmc] at hm
            have HE := Lib.hid (HN2.out hmc)
            clear hmc
            obtain ⟨A4, q4, p0, p1, p2, _⟩ := s4.cells
            obtain ⟨d0, d1, d2, _, _, _⟩ := hC.facts
            dsimp only at d0 d1 d2
            go_wp2_with fail
            refine (hm _).mono ?_
            rintro e w5 ⟨rfl, f5⟩
            go_wp2_with fail
            refine (rfail_any g S _ _ w5 (s4.non f5)).mono ?_
            rintro e w6 ⟨rfl, s6, f6⟩
            have hB6 : ClB w6 R _ := (hB.fr f5 (fun e => e)).fr f6 (fun e => hgw e)
            obtain ⟨c0, c1, c2, z0, z1, z2⟩ := hB6.facts
            dsimp only at c0 c1 c2
            have HB := Lib.hid hB6
            have HF := Lib.hid ((F4.then f5).trans f6)
            have HS := Lib.hid s6
            clear hB hB6 f5 f6 s4 s6 F4 hC
            go_wp2
            exact bodyPost_ret (v := clV ⟨false, 0, []⟩) (ret_cl (p := 4) rfl _ _ R ⟨false, 0, []⟩ rfl (setCl_B HB.out false 0 [])) rfl ⟨by rw [HE.out], by rw [HE.out]; exact HS.out.fr (setCl_fr _ _ _ _ _) (fun e => hgw (Eq.symm e)) (fun k e => by rw [show k = R from e]; exact hSR), HF.out.fresh (setCl_fr _ _ _ _ _) (fun k e => by rw [show k = R from e]; omega)⟩
          · rw [hmc] at hm
            have HE := Lib.hid (HY.out rfl hmc)
            clear hmc
            obtain ⟨A4, q4, p0, p1, p2, _⟩ := s4.cells
            obtain ⟨d0, d1, d2, _, _, _⟩ := hC.facts
            dsimp only at d0 d1 d2
            go_wp2_with fail
            refine (hm _).mono ?_
            rintro e w5 ⟨rfl, f5⟩
            have hB5 : ClB w5 R _ := hB.fr f5 (fun e => e)
            obtain ⟨c0, c1, c2, z0, z1, z2⟩ := hB5.facts
            have hC5 : ClB w5 R2 _ := hC.fr f5 (fun e => e)
            clear d0 d1 d2
            obtain ⟨d0, d1, d2, _, _, _⟩ := hC5.facts
            dsimp only at c0 c1 c2 d0 d1 d2
            have HB := Lib.hid hB5
            have HF := Lib.hid (F4.then f5)
            have HS := Lib.hid (s4.non f5)
            clear hB hB5 f5 s4 F4 hC hC5
            go_wp2
            exact bodyPost_ret (v := clV ⟨false, i, []⟩) (ret_cl (p := 4) rfl _ _ R ⟨false, i, []⟩ rfl (setCl_B HB.out false i [])) rfl ⟨by rw [HE.out], by rw [HE.out]; exact HS.out.fr (setCl_fr _ _ _ _ _) (fun e => hgw (Eq.symm e)) (fun k e => by rw [show k = R from e]; exact hSR), HF.out.fresh (setCl_fr _ _ _ _ _) (fun k e => by rw [show k = R from e]; omega)⟩
        · have HE := Lib.hid (HN1.out rfl)
          obtain ⟨A4, q4, p0, p1, p2, _⟩ := s4.cells
          go_wp2_with fail
          refine (rfail_any g S _ _ _ s4).mono ?_
          rintro e w6 ⟨rfl, s6, f6⟩
          have hB6 : ClB w6 R _ := hB.fr f6 (fun e => hgw e)
          obtain ⟨c0, c1, c2, z0, z1, z2⟩ := hB6.facts
          dsimp only at c0 c1 c2
          have HB := Lib.hid hB6
          have HF := Lib.hid (F4.trans f6)
          have HS := Lib.hid s6
          clear hB hB6 f6 s4 s6 F4 hC
          go_wp2
          exact bodyPost_ret (v := clV ⟨false, 0, []⟩) (ret_cl (p := 4) rfl _ _ R ⟨false, 0, []⟩ rfl (setCl_B HB.out false 0 [])) rfl ⟨by rw [HE.out], by rw [HE.out]; exact HS.out.fr (setCl_fr _ _ _ _ _) (fun e => hgw (Eq.symm e)) (fun k e => by rw [show k = R from e]; exact hSR), HF.out.fresh (setCl_fr _ _ _ _ _) (fun k e => by rw [show k = R from e]; omega)⟩
  exact key _ rfl
end Go.Proofs.Ytihofmmbdedhbaa


namespace Go.Proofs.Ytihofmmbdedhbaa
set_option linter.unusedVariables false
set_option linter.unusedSimpArgs false
set_option maxRecDepth 100000
open Go.RowKit

theorem tkC_nil (ty : Int) : tkC ty [] = (⟨false, 0, []⟩, [], true) := by
  have h : (rdC ty []).2.2 = true := by
    have e1 : mostV [] 1 = 0 := by unfold mostV; split <;> rfl
    rw [rdC_null e1]
    unfold mostB; split <;> rfl
  exact tkC_bad h
theorem mostB_R {l : List UInt8} {m : Int} (h : mostB l m = true) : mostR l m = [] := by
  unfold mostB at h
  unfold mostR
  split
  · rename_i q; rw [if_pos q] at h; exact (fell_zero h).2
  · rfl
/-- a source that failed behind the numbers: nothing is taken -/
theorem tkZ_early {ty : Int} {l : List UInt8} (h : mostB (mostR l 4096) 4096 = true) : tkZ ty l = (noZn, [], true) := by
  apply tkZ_bad
  unfold rdZ
  rw [mostB_R h, tkC_nil, tkC_nil]
  split
  · rfl
  · exact h
/-- the document's source behind a store into a block of its own -/
theorem SAt.st {w w' : World} {g G : Nat} {S : Nat → Prop} {l : List UInt8} {bad : Bool} (h : SAt w g S l bad) (hf : Fr (One G) w w') (hn : g ≠ G) (hS : S G) : SAt w' g S l bad :=
  h.fr hf (fun e => hn e) (fun k e => by rw [show k = G from e]; exact hS)
theorem tkC_sm (ty : Int) (l : List UInt8) : (tkC ty l).2.1.length ≤ l.length := by
  have h : (rdC ty l).2.1.length ≤ l.length := by
    have h1 := mostR_sm l 1
    unfold rdC
    split
    · exact h1
    · split
      · exact Nat.le_trans (rest_le _) h1
      · split
        · refine Nat.le_trans ?_ h1
          show (txtR (mostR l 1) 40).length ≤ _
          have h2 := mostR_sm (mostR l 1) 40
          unfold txtR cutR
          split
          · rw [List.length_drop]; omega
          · simp
        · exact h1
  unfold tkC
  split
  · exact h
  · simp

set_option maxHeartbeats 4000000 in
theorem rztake_any (g : Nat) (S : Nat → Prop) (l : List UInt8) (bad : Bool) (ty : Int) (w : World) (h : SAt w g S l bad) (hl : l.length < 1000000000) (hS : ∀ k, w.heap.size ≤ k → S k) :
    Calls Try.prog 21 #[ptr g, .int .i64 ty] w fun e w' => e = .returned (znV (tkZ ty l).1) ∧ SAt w' g S (tkZ ty l).2.1 (tkZ ty l).2.2 ∧ Fr (One g) w w' := by
  have hg := h.lt
  have hA0 : ZnB (w.alloc (.cells (znC noZn) 28)) w.heap.size noZn := Blk.new _ _ _
  have F0 : Fr Non w _ := (Fr.refl Non w).alloc (.cells (znC noZn) 28)
  have h0 := rbelow_any g S l bad 4097 _ (h.non F0) hl (by omega)
  rw [show (4097 : Int) - 1 = 4096 by rfl] at h0
  have HQ : mostB (mostR l 4096) 4096 = true → tkZ ty l = (noZn, [], true) := tkZ_early
  have HE0 : rdZ ty l = if mostV (mostR l 4096) 4096 < mostV l 4096 then (⟨mostV l 4096, mostV (mostR l 4096) 4096, (tkC ty (mostR (mostR l 4096) 4096)).1, (tkC ty (tkC ty (mostR (mostR l 4096) 4096)).2.1).1⟩, (tkC ty (tkC ty (mostR (mostR l 4096) 4096)).2.1).2.1, (tkC ty (tkC ty (mostR (mostR l 4096) 4096)).2.1).2.2) else (⟨mostV l 4096, mostV (mostR l 4096) 4096, noCl, noCl⟩, mostR (mostR l 4096) 4096, mostB (mostR l 4096) 4096) := rfl
  have HY := (tkZ_yes (ty := ty) (l := l))
  have HN1 := (tkZ_bad (ty := ty) (l := l))
  have HN2 := (tkZ_not (ty := ty) (l := l))
  generalize rdZ ty l = X at *
  generalize tkZ ty l = Y at *
  have hl1 := mostR_sm l 4096
  have hl2 := mostR_sm (mostR l 4096) 4096
  have V2 := fun W s => rbelow_any g S (mostR l 4096) (mostB l 4096) 4097 W s (by omega) (by omega)
  rw [show (4097 : Int) - 1 = 4096 by rfl] at V2
  generalize mostV l 4096 = r at *
  generalize mostR l 4096 = l1 at *
  generalize mostB l 4096 = b1 at *
  generalize mostV l1 4096 = n at *
  generalize mostR l1 4096 = l2 at *
  generalize mostB l1 4096 = b2 at *
  clear h
  unfold znC noZn noCl at *
  dsimp only at *
  replace F0 := Lib.hid F0
  replace hA0 := Lib.hid hA0
  replace h0 := Lib.hid h0
  replace V2 := Lib.hid V2
  replace HQ := Lib.hid HQ
  replace HE0 := Lib.hid HE0
  replace HY := Lib.hid HY
  replace HN1 := Lib.hid HN1
  replace HN2 := Lib.hid HN2
  go_enter Try.func21, Try.ntmps21
  go_wp2_with fail
  generalize hw : w.heap.size = R at *
  replace hS := Lib.hid hS
  refine h0.out.mono ?_
  rintro e w1 ⟨rfl, s1, f1⟩
  have hA1 : ZnB w1 R noZn := hA0.out.fr f1 (fun e => by have : R = g := e; omega)
  have F1 := F0.out.any.trans f1
  have fa := (Fr.refl Non w1).alloc (.cells (znC ⟨r, 0, noCl, noCl⟩) 28)
  have hB2 : ZnB (w1.alloc (.cells (znC ⟨r, 0, noCl, noCl⟩) 28)) w1.heap.size ⟨r, 0, noCl, noCl⟩ := Blk.new _ _ _
  have hA2 : ZnB (w1.alloc (.cells (znC ⟨r, 0, noCl, noCl⟩) 28)) R noZn := hA1.fr fa (fun e => e)
  have s2 := s1.non fa
  have F2 := F1.then fa
  have hRw := hA1.lt
  have hgw := s1.lt
  have V3 := V2.out _ s2
  clear hA0 F0 h0 f1 hA1 F1 fa s1 s2 V2
  generalize hG : w1.heap.size = G at *
  have hSG : Hid (S G) := Lib.hid (hS.out G (by omega))
  have hSR : Hid (S R) := Lib.hid (hS.out R (Nat.le_refl _))
  unfold znC noCl at hB2 hA2 F2 V3
  dsimp only at hB2 hA2 F2 V3
  replace hB2 : Hid (ZnB _ _ ⟨r, 0, noCl, noCl⟩) := Lib.hid hB2
  replace hA2 : Hid (ZnB _ _ _) := Lib.hid hA2
  replace F2 := Lib.hid F2
  replace V3 := Lib.hid V3
  go_wp2_with fail
  refine V3.out.mono ?_
  rintro e w3 ⟨rfl, s3, f3⟩
  have hB3 : ZnB w3 G ⟨r, 0, noCl, noCl⟩ := hB2.out.fr f3 (fun e => by have : G = g := e; omega)
  have hA3 : ZnB w3 R noZn := hA2.out.fr f3 (fun e => by have : R = g := e; omega)
  have F3 := F2.out.trans f3
  clear hB2 hA2 F2 f3 V3
  have fs := (Fr.refl (One G) w3).set1 1 (.int .i64 n)
  have hB4 : ZnB _ G ⟨r, n, noCl, noCl⟩ := setNul_B hB3 n
  have hA4 : ZnB _ R noZn := hA3.fr fs (fun e => by have : R = G := e; omega)
  have s4 := s3.st fs (by omega) hSG.out
  have F4 := F3.fresh fs (fun k e => by have : k = G := e; omega)
  obtain ⟨a0, a1, a2, a3, a4, a5, a6, a7⟩ := znB_cells hB3
  obtain ⟨y0, y1, y2, y3, y4, y5, y6, y7⟩ := znB_froz hB3
  obtain ⟨A3, q3, p0, p1, p2, _⟩ := s3.cells
  have hG3 := hB3.lt
  clear hB3 hA3 F3 fs s3
  replace hB4 : Hid (ZnB _ _ _) := Lib.hid hB4
  replace hA4 : Hid (ZnB _ _ _) := Lib.hid hA4
  replace F4 := Lib.hid F4
  replace s4 := Lib.hid s4
  cases b2
  · clear HQ
    by_cases hb : n < r
    · have hd : decide (n < r) = true := decide_eq_true hb
      replace HE0 := Lib.hid (HE0.out.trans (if_pos hb))
      have T1 := rctake_any g S l2 false ty _ s4.out (by omega) (fun k hk => hS.out k (by simp at hk; omega))
      have hl3 := tkC_sm ty l2
      have T2 := fun W s hs => rctake_any g S (tkC ty l2).2.1 (tkC ty l2).2.2 ty W s (by omega) hs
      generalize tkC ty l2 = p at *
      obtain ⟨lo, l3, b3⟩ := p
      dsimp only at T1 T2 HE0 hl3
      generalize tkC ty l3 = q at *
      obtain ⟨hi, l4, b4⟩ := q
      dsimp only at T2 HE0
      have hX := HE0.out
      clear HE0
      subst hX
      dsimp only at HY HN1 HN2
      replace T1 := Lib.hid T1
      replace T2 := Lib.hid T2
      clear s4
      go_wp2_with fail
      refine T1.out.mono ?_
      rintro e w6 ⟨rfl, s6, f6⟩
      clear a0 a1 a2 a3 a4 a5 a6 a7 y0 y1 y2 y3 y4 y5 y6 y7 p0 p1 p2
      have hB6 : ZnB w6 G ⟨r, n, noCl, noCl⟩ := hB4.out.fr f6 (fun e => by have : G = g := e; omega)
      have hA6 : ZnB w6 R noZn := hA4.out.fr f6 (fun e => by have : R = g := e; omega)
      have F6 := F4.out.trans f6
      have hs6 := f6.size
      have hG6 := hB6.lt
      clear hB4 hA4 F4 f6 T1
      have fs := setLow_fr w6 G lo.null lo.num lo.txt
      have hB7 : ZnB (setLow w6 G lo.null lo.num lo.txt) G ⟨r, n, lo, noCl⟩ := setLow_B hB6 lo
      have hA7 : ZnB (setLow w6 G lo.null lo.num lo.txt) R noZn := hA6.fr fs (fun e => by have : R = G := e; omega)
      have s7 := s6.st fs (by omega) hSG.out
      have F7 := F6.fresh fs (fun k e => by have : k = G := e; omega)
      have hz7 : (setLow w6 G lo.null lo.num lo.txt).heap.size = w6.heap.size := by simp [setLow]
      obtain ⟨a0, a1, a2, a3, a4, a5, a6, a7⟩ := znB_cells hB6
      obtain ⟨y0, y1, y2, y3, y4, y5, y6, y7⟩ := znB_froz hB6
      have V7 := T2.out _ s7 (fun k hk => hS.out k (by omega))
      clear hB6 hA6 F6 fs s6 s7 T2 hz7
      unfold setLow at hB7 hA7 F7 V7
      unfold clV clC
      replace hB7 : Hid (ZnB _ _ _) := Lib.hid hB7
      replace hA7 : Hid (ZnB _ _ _) := Lib.hid hA7
      replace F7 := Lib.hid F7
      replace V7 := Lib.hid V7
      go_wp2_with fail
      refine V7.out.mono ?_
      rintro e w8 ⟨rfl, s8, f8⟩
      clear a0 a1 a2 a3 a4 a5 a6 a7 y0 y1 y2 y3 y4 y5 y6 y7
      have hB8 : ZnB w8 G ⟨r, n, lo, noCl⟩ := hB7.out.fr f8 (fun e => by have : G = g := e; omega)
      have hA8 : ZnB w8 R noZn := hA7.out.fr f8 (fun e => by have : R = g := e; omega)
      have F8 := F7.out.trans f8
      clear hB7 hA7 F7 f8 V7
      have fs := setHigh_fr w8 G hi.null hi.num hi.txt
      have hB9 : ZnB (setHigh w8 G hi.null hi.num hi.txt) G ⟨r, n, lo, hi⟩ := setHigh_B hB8 hi
      have hA9 : ZnB (setHigh w8 G hi.null hi.num hi.txt) R noZn := hA8.fr fs (fun e => by have : R = G := e; omega)
      have s9 := s8.st fs (by omega) hSG.out
      have F9 := F8.fresh fs (fun k e => by have : k = G := e; omega)
      obtain ⟨A8, q8, p0, p1, p2, _⟩ := s8.cells
      obtain ⟨a0, a1, a2, a3, a4, a5, a6, a7⟩ := znB_cells hB8
      obtain ⟨y0, y1, y2, y3, y4, y5, y6, y7⟩ := znB_froz hB8
      clear hB8 hA8 F8 fs s8
      unfold setHigh at hB9 hA9 F9 s9
      unfold clV clC
      replace hB9 : Hid (ZnB _ _ _) := Lib.hid hB9
      replace hA9 : Hid (ZnB _ _ _) := Lib.hid hA9
      replace F9 := Lib.hid F9
      replace s9 := Lib.hid s9
      cases b4
      · replace HY := Lib.hid (HY.out rfl)
        clear HN1
        have M1 := fun W => rzmay_any ty ⟨r, n, lo, hi⟩ W
        unfold znV znC at M1
        dsimp only at M1
        replace M1 := Lib.hid M1
        cases hm : mayZ ty ⟨r, n, lo, hi⟩
        · replace HN2 := Lib.hid (HN2.out hm)
          skip
          rw [hm] at M1
          clear hm HY
          go_wp2_with fail
          refine (M1.out _).mono ?_
          rintro e wm ⟨rfl, fm⟩
          have hAm : ZnB wm R noZn := hA9.out.fr fm (fun e => e)
          have sm := s9.out.non fm
          have Fm := F9.out.then fm
          have hBm : ZnB wm G ⟨r, n, lo, hi⟩ := hB9.out.fr fm (fun e => e)
          clear M1 fm s9 hA9 hB9 F9 a0 a1 a2 a3 a4 a5 a6 a7 y0 y1 y2 y3 y4 y5 y6 y7 p0 p1 p2
          replace hAm : Hid (ZnB _ _ _) := Lib.hid hAm
          replace sm := Lib.hid sm
          replace Fm := Lib.hid Fm
          clear hBm
          go_wp2_with fail
          refine (rfail_any g S _ _ _ sm.out).mono ?_
          rintro e wf ⟨rfl, sx, ff⟩
          have hAx : ZnB wf R noZn := hAm.out.fr ff (fun e => by have : R = g := e; omega)
          have Fx := Fm.out.trans ff
          obtain ⟨b0, b1, b2, b3, b4, b5, b6, b7⟩ := znB_cells hAx
          obtain ⟨z0, z1, z2, z3, z4, z5, z6, z7⟩ := znB_froz hAx
          have HA := Lib.hid (setZn_B hAx noZn)
          have HS := Lib.hid (sx.st (setZn_fr wf R noZn) (by omega) hSR.out)
          have HF := Lib.hid (Fx.fresh (setZn_fr wf R noZn) (fun k e => by have : k = R := e; omega))
          clear hAx sx Fx
          clear ff
          go_wp2
          exact bodyPost_ret (v := znV noZn) (ret_zn (p := 4) rfl _ _ R noZn rfl HA.out) rfl ⟨by rw [HN2.out]; rfl, by rw [HN2.out]; exact HS.out, HF.out⟩
        · replace HY := Lib.hid (HY.out hm)
          skip
          rw [hm] at M1
          clear hm HN2
          go_wp2_with fail
          refine (M1.out _).mono ?_
          rintro e wm ⟨rfl, fm⟩
          have hAm : ZnB wm R noZn := hA9.out.fr fm (fun e => e)
          have sm := s9.out.non fm
          have Fm := F9.out.then fm
          have hBm : ZnB wm G ⟨r, n, lo, hi⟩ := hB9.out.fr fm (fun e => e)
          clear M1 fm s9 hA9 hB9 F9 a0 a1 a2 a3 a4 a5 a6 a7 y0 y1 y2 y3 y4 y5 y6 y7 p0 p1 p2
          obtain ⟨a0, a1, a2, a3, a4, a5, a6, a7⟩ := znB_cells hBm
          have hAx := hAm
          have sx := sm
          have Fx := Fm
          clear hAm sm Fm hBm
          obtain ⟨b0, b1, b2, b3, b4, b5, b6, b7⟩ := znB_cells hAx
          obtain ⟨z0, z1, z2, z3, z4, z5, z6, z7⟩ := znB_froz hAx
          have HA := Lib.hid (setZn_B hAx ⟨r, n, lo, hi⟩)
          have HS := Lib.hid (sx.st (setZn_fr wm R ⟨r, n, lo, hi⟩) (by omega) hSR.out)
          have HF := Lib.hid (Fx.fresh (setZn_fr wm R ⟨r, n, lo, hi⟩) (fun k e => by have : k = R := e; omega))
          clear hAx sx Fx
          go_wp2
          exact bodyPost_ret (v := znV ⟨r, n, lo, hi⟩) (ret_zn (p := 4) rfl _ _ R ⟨r, n, lo, hi⟩ rfl HA.out) rfl ⟨by rw [HY.out]; try rfl, by rw [HY.out]; exact HS.out, HF.out⟩
      · replace HN1 := Lib.hid (HN1.out rfl)
        clear HY HN2 hB9
        go_wp2_with fail
        refine (rfail_any g S _ _ _ s9.out).mono ?_
        rintro e wf ⟨rfl, sx, ff⟩
        have hAx : ZnB wf R noZn := hA9.out.fr ff (fun e => by have : R = g := e; omega)
        have Fx := F9.out.trans ff
        obtain ⟨b0, b1, b2, b3, b4, b5, b6, b7⟩ := znB_cells hAx
        obtain ⟨z0, z1, z2, z3, z4, z5, z6, z7⟩ := znB_froz hAx
        have HA := Lib.hid (setZn_B hAx noZn)
        have HS := Lib.hid (sx.st (setZn_fr wf R noZn) (by omega) hSR.out)
        have HF := Lib.hid (Fx.fresh (setZn_fr wf R noZn) (fun k e => by have : k = R := e; omega))
        clear hAx sx Fx
        clear ff
        go_wp2
        exact bodyPost_ret (v := znV noZn) (ret_zn (p := 4) rfl _ _ R noZn rfl HA.out) rfl ⟨by rw [HN1.out]; rfl, by rw [HN1.out]; exact HS.out, HF.out⟩
    · have hd : decide (n < r) = false := decide_eq_false hb
      have hX := HE0.out.trans (if_neg hb)
      clear HE0 HN1
      subst hX
      dsimp only at HY HN2
      replace HY := Lib.hid (HY.out rfl)
      have M1 := fun W => rzmay_any ty ⟨r, n, noCl, noCl⟩ W
      unfold znV znC at M1
      unfold noCl at M1
      replace M1 := Lib.hid M1
      cases hm : mayZ ty ⟨r, n, noCl, noCl⟩
      · replace HN2 := Lib.hid (HN2.out hm)
        unfold noCl at hm
        rw [hm] at M1
        clear hm HY
        go_wp2_with fail
        refine (M1.out _).mono ?_
        rintro e wm ⟨rfl, fm⟩
        have hAm : ZnB wm R noZn := hA4.out.fr fm (fun e => e)
        have sm := s4.out.non fm
        have Fm := F4.out.then fm
        have hBm : ZnB wm G ⟨r, n, noCl, noCl⟩ := hB4.out.fr fm (fun e => e)
        clear M1 fm s4 hA4 hB4 F4 a0 a1 a2 a3 a4 a5 a6 a7 y0 y1 y2 y3 y4 y5 y6 y7 p0 p1 p2
        replace hAm : Hid (ZnB _ _ _) := Lib.hid hAm
        replace sm := Lib.hid sm
        replace Fm := Lib.hid Fm
        clear hBm
        go_wp2_with fail
        refine (rfail_any g S _ _ _ sm.out).mono ?_
        rintro e wf ⟨rfl, sx, ff⟩
        have hAx : ZnB wf R noZn := hAm.out.fr ff (fun e => by have : R = g := e; omega)
        have Fx := Fm.out.trans ff
        obtain ⟨b0, b1, b2, b3, b4, b5, b6, b7⟩ := znB_cells hAx
        obtain ⟨z0, z1, z2, z3, z4, z5, z6, z7⟩ := znB_froz hAx
        have HA := Lib.hid (setZn_B hAx noZn)
        have HS := Lib.hid (sx.st (setZn_fr wf R noZn) (by omega) hSR.out)
        have HF := Lib.hid (Fx.fresh (setZn_fr wf R noZn) (fun k e => by have : k = R := e; omega))
        clear hAx sx Fx
        clear ff
        go_wp2
        exact bodyPost_ret (v := znV noZn) (ret_zn (p := 4) rfl _ _ R noZn rfl HA.out) rfl ⟨by rw [HN2.out]; rfl, by rw [HN2.out]; exact HS.out, HF.out⟩
      · replace HY := Lib.hid (HY.out hm)
        unfold noCl at hm
        rw [hm] at M1
        clear hm HN2
        go_wp2_with fail
        refine (M1.out _).mono ?_
        rintro e wm ⟨rfl, fm⟩
        have hAm : ZnB wm R noZn := hA4.out.fr fm (fun e => e)
        have sm := s4.out.non fm
        have Fm := F4.out.then fm
        have hBm : ZnB wm G ⟨r, n, noCl, noCl⟩ := hB4.out.fr fm (fun e => e)
        clear M1 fm s4 hA4 hB4 F4 a0 a1 a2 a3 a4 a5 a6 a7 y0 y1 y2 y3 y4 y5 y6 y7 p0 p1 p2
        obtain ⟨a0, a1, a2, a3, a4, a5, a6, a7⟩ := znB_cells hBm
        have hAx := hAm
        have sx := sm
        have Fx := Fm
        clear hAm sm Fm hBm
        obtain ⟨b0, b1, b2, b3, b4, b5, b6, b7⟩ := znB_cells hAx
        obtain ⟨z0, z1, z2, z3, z4, z5, z6, z7⟩ := znB_froz hAx
        have HA := Lib.hid (setZn_B hAx ⟨r, n, noCl, noCl⟩)
        have HS := Lib.hid (sx.st (setZn_fr wm R ⟨r, n, noCl, noCl⟩) (by omega) hSR.out)
        have HF := Lib.hid (Fx.fresh (setZn_fr wm R ⟨r, n, noCl, noCl⟩) (fun k e => by have : k = R := e; omega))
        clear hAx sx Fx
        go_wp2
        exact bodyPost_ret (v := znV ⟨r, n, noCl, noCl⟩) (ret_zn (p := 4) rfl _ _ R ⟨r, n, noCl, noCl⟩ rfl HA.out) rfl ⟨by rw [HY.out]; try rfl, by rw [HY.out]; exact HS.out, HF.out⟩
  · replace HQ := Lib.hid (HQ.out rfl)
    clear HY HN1 HN2 HE0 hB4
    go_wp2_with fail
    refine (rfail_any g S _ _ _ s4.out).mono ?_
    rintro e wf ⟨rfl, sx, ff⟩
    have hAx : ZnB wf R noZn := hA4.out.fr ff (fun e => by have : R = g := e; omega)
    have Fx := F4.out.trans ff
    obtain ⟨b0, b1, b2, b3, b4, b5, b6, b7⟩ := znB_cells hAx
    obtain ⟨z0, z1, z2, z3, z4, z5, z6, z7⟩ := znB_froz hAx
    have HA := Lib.hid (setZn_B hAx noZn)
    have HS := Lib.hid (sx.st (setZn_fr wf R noZn) (by omega) hSR.out)
    have HF := Lib.hid (Fx.fresh (setZn_fr wf R noZn) (fun k e => by have : k = R := e; omega))
    clear hAx sx Fx
    clear ff
    go_wp2
    exact bodyPost_ret (v := znV noZn) (ret_zn (p := 4) rfl _ _ R noZn rfl HA.out) rfl ⟨by rw [HQ.out]; rfl, by rw [HQ.out]; exact HS.out, HF.out⟩
end Go.Proofs.Ytihofmmbdedhbaa


namespace Go.Proofs.Ytihofmmbdedhbaa
set_option linter.unusedVariables false
set_option linter.unusedSimpArgs false
set_option maxRecDepth 100000

/-! ### One text read -/
theorem txt_own {t r : List UInt8} {m : Int} (h : (t.length : Int) ≤ m) (h2 : t.length < two64) : txtT (textB t ++ r) m = t ∧ txtR (textB t ++ r) m = r ∧ txtB (textB t ++ r) m = false := by
  have hr : rd 0 0 (textB t ++ r) = some (t.length, t ++ r) := by
    unfold textB; rw [List.append_assoc]; exact rd_own h2 _
  obtain ⟨h1, h3, h4, _⟩ := rest_some hr
  have hm : mostOk (textB t ++ r) m = true := decide_eq_true ⟨by omega, by rw [h4]; exact h⟩
  have hc : cutOk (t ++ r) (t.length : Int) = true := decide_eq_true ⟨by omega, by rw [List.length_append]; omega⟩
  unfold txtT txtR txtB mostV mostR mostB
  rw [hm]
  simp only [if_true, h1, h3, h4]
  unfold cutT cutR cutB
  rw [hc]
  simp
end Go.Proofs.Ytihofmmbdedhbaa


namespace Go.Proofs.Ytihofmmbdedhbaa
set_option linter.unusedVariables false
set_option linter.unusedSimpArgs false
set_option maxRecDepth 100000
open Go.RowKit

theorem most_own {n : Nat} {m : Int} (hn : (n : Int) ≤ m) (h2 : n < two64) (r : List UInt8) : mostV (Lib.uvarint n ++ r) m = n ∧ mostR (Lib.uvarint n ++ r) m = r ∧ mostB (Lib.uvarint n ++ r) m = false := by
  obtain ⟨h1, h3, h4, _⟩ := rest_some (rd_own h2 r)
  have hm : mostOk (Lib.uvarint n ++ r) m = true := decide_eq_true ⟨by omega, by rw [h4]; exact hn⟩
  unfold mostV mostR mostB
  rw [hm]
  simp only [if_true, h1, h3, h4]
  exact ⟨trivial, trivial, trivial⟩
theorem uv_zero : Lib.uvarint 0 = [0] := by rw [Lib.uvarint_small (by omega)]; rfl
theorem uv_one : Lib.uvarint 1 = [1] := by rw [Lib.uvarint_small (by omega)]; rfl

/-- a cell that may be is read again out of its bytes -/
theorem tkC_own {ty : Int} {c : Cl} (hc : ClOk c) (hm : mayC ty true c = true) (r : List UInt8) : tkC ty (cellB ty c ++ r) = (c, r, false) := by
  have hrd : rdC ty (cellB ty c ++ r) = (c, r, false) := by
    obtain ⟨n, i, t⟩ := c
    have ht : ty = 1 ∨ ty = 2 ∨ ty = 3 := by
      by_cases h1 : ty = 1
      · exact .inl h1
      · by_cases h2 : ty = 2
        · exact .inr (.inl h2)
        · by_cases h3 : ty = 3
          · exact .inr (.inr h3)
          · rw [mayC_no h1 h2 h3] at hm; cases hm
    cases n
    · have h1 := fun x => most_own (n := 1) (m := 1) (by omega) (by decide) x
      rw [uv_one] at h1
      have hl := hc.lo; have hh := hc.hi
      dsimp only at hl hh
      by_cases h3 : ty = 3
      · subst h3
        simp [mayC, isTy] at hm
        obtain ⟨h0, h40⟩ := hm
        rw [cellB_txt rfl, List.append_assoc]
        obtain ⟨e1, e2, e3⟩ := h1 (textB t ++ r)
        obtain ⟨x1, x2, x3⟩ := txt_own (t := t) (r := r) (m := 40) (by omega) (by unfold two64; omega)
        rw [rdC_txt (by rw [e1]; decide), e2, x1, x2, x3, h0]
      · have h12 : ty = 1 ∨ ty = 2 := by omega
        have ht0 : t = [] := by
          rcases h12 with h | h <;> subst h <;> simp [mayC, isTy] at hm
          · exact hm
          · exact hm.1
        subst ht0
        rw [cellB_num rfl h12, List.append_assoc]
        obtain ⟨e1, e2, e3⟩ := h1 (Lib.uvarint (zig i) ++ r)
        obtain ⟨x1, x2, x3, _⟩ := rest_some (rd_own (zig_lt hl hh) r)
        rw [rdC_num (by rw [e1]; decide) h12, e2, x1, x2, x3, unzig_zig]
    · have h1 := most_own (n := 0) (m := 1) (by omega) (by decide) r
      rw [uv_zero] at h1
      have hz : i = 0 ∧ t = [] := by
        rcases ht with h | h | h <;> subst h <;> simp [mayC, isTy] at hm <;> exact hm
      obtain ⟨rfl, rfl⟩ := hz
      rw [cellB_null rfl, rdC_null h1.1, h1.2.1, h1.2.2]
  unfold tkC
  rw [hrd, if_pos ⟨rfl, hm⟩]

/-- behind an operation more may be held than ahead of it -/
theorem wpAnyH_more {P : Program} {md : Region.Mode} {ops : Array Oper} {Q : Exit → Act → World → Prop} {S S' : World → Prop} (h : ∀ w, S' w → S w) :
    ∀ (fuel : Nat) (listed : Array Bool) (a : Act) (w : World), wpAnyH P md ops Q S' fuel listed a w → wpAnyH P md ops Q S fuel listed a w
  | 0, _, _, _, hw => hw
  | fuel + 1, _, _, _, hw => ⟨hw.1, fun i hi => wpOp_mono (fun a' w' h' => ⟨h w' h'.1, wpAnyH_more h fuel _ a' w' h'.2⟩) (hw.2 i hi)⟩
end Go.Proofs.Ytihofmmbdedhbaa


namespace Go.Proofs.Ytihofmmbdedhbaa
set_option linter.unusedVariables false
set_option linter.unusedSimpArgs false
set_option maxRecDepth 100000
open Go.ChangeShapes Go.WideShapes Go.ChangeAt Go.RowKit

theorem frame_own : ownKnob Try.prog.godebug = none := by kernel_rfl
theorem frame_laidOut : laidOutB Try.prog = true := by kernel_rfl

/-- every argument reads as it did -/
theorem trodAll_below {H : Type} {enc : TypeId × Value → H} {W W' : World} (hb : Below W.heap.size W W') :
    ∀ (ts : List TypeId) (vs : List Value) (ds : List (DataW H)) (ps : List MemPlace), (∀ t ∈ ts, Try.prog.readableRec t = true ∧ t < Try.prog.types.size) →
      DataW.TrodAll enc Try.prog W 0 (fun _ => true) true ts vs ds ps → DataW.TrodAll enc Try.prog W' 0 (fun b => decide (b < W.heap.size)) true ts vs ds ps := by
  intro ts
  induction ts with
  | nil => intro vs ds ps _ h; cases vs <;> cases ds <;> simp_all [DataW.TrodAll]
  | cons t ts ih =>
    intro vs ds ps hr h
    cases vs with
    | nil => cases ds <;> simp_all [DataW.TrodAll]
    | cons v vs =>
      cases ds with
      | nil => simp_all [DataW.TrodAll]
      | cons d ds =>
        obtain ⟨p, q, h1, h2, rfl⟩ := h
        have hlt : ∀ x ∈ p, x.block < W.heap.size := by obtain ⟨m, hm⟩ := h1; exact DataW.trod_lt m _ _ _ hm
        have ht := hr t (List.mem_cons_self ..)
        exact ⟨p, q, Below.trod frame_laidOut ht.1 ht.2 h1 hb hlt, ih vs ds q (fun u hu => hr u (List.mem_cons_of_mem _ hu)) h2, rfl⟩

noncomputable def typesOk (ts : List TypeId) : Bool := ts.all fun t => Try.prog.readableRec t && decide (t < Try.prog.types.size)
theorem types_ok (ts : List TypeId) (h : typesOk ts = true) : ∀ t ∈ ts, Try.prog.readableRec t = true ∧ t < Try.prog.types.size := by
  intro t ht
  have := List.all_eq_true.1 h t ht
  simpa using this

/-- a slice that came in: nil, or it leads into a block that is there -/
theorem slice_in {W : World} {base : Nat} {t e : TypeId} {v : Value} (ht : Try.prog.underlying t = some (.slice e)) (hv : Value.okWide Try.prog W .any base t v) :
    v = .slice none 0 0 ∨ ∃ b o n c, v = .slice (some ⟨b, o, none⟩) n c ∧ n ≤ c ∧ b < W.heap.size := by
  obtain ⟨a, n, c, rfl⟩ := okWide_slice ht hv
  simp only [Value.okWide, ht, Cell.okWide] at hv
  cases a with
  | none =>
    left
    simp only [Cell.ok, ht] at hv
    cases n <;> cases c <;> simp_all
  | some a =>
    right
    simp only [Cell.ok, ht] at hv
    obtain ⟨h1, _, _, h2, row, cells, h3, _⟩ := hv
    obtain ⟨b, o, sp⟩ := a
    simp only at h2 h3
    subst h2
    refine ⟨b, o, n, c, rfl, h1, ?_⟩
    rcases Nat.lt_or_ge b W.heap.size with h | h
    · exact h
    · unfold World.shape? at h3
      rw [Array.getElem?_eq_none h] at h3
      cases h3

/-- bytes that came in -/
theorem bs_in {H : Type} {enc : TypeId × Value → H} {W : World} {base : Nat} {v : Value} {d : DataW H} {p : List MemPlace} (hv : Value.okWide Try.prog W .any base 36 v)
    (h : DataW.Trod enc Try.prog W 0 (fun _ => true) true 36 v d p) : ∃ l, Bs W v l ∧ l.length ≤ maxLen ∧ ∀ k, v.ownBlock = some k → k < W.heap.size := by
  rcases slice_in Try.underlying36 hv with rfl | ⟨b, o, len0, cap0, rfl, _, hblt⟩
  · exact ⟨[], Bs.nil_ W, Nat.zero_le _, fun _ h => by cases h⟩
  obtain ⟨fuel, hf⟩ := h
  rcases open_ints Try.underlying36 Try.underlying5 (by kernel_rfl) hf with ⟨hcs, _⟩ | ⟨x, l, c, zs, hcs, _, hl, hm, hz, _, hcell, hwz⟩
  · simp [Value.cells] at hcs
  · simp [Value.cells] at hcs
    obtain ⟨rfl, rfl, rfl⟩ := hcs
    have hzl : zs.length = cap0 := by simpa using hz
    have hlen : ((zs.take len0).map fun n => UInt8.ofNat n.toNat).length = len0 := by simp; omega
    refine ⟨(zs.take len0).map fun n => UInt8.ofNat n.toNat, ⟨_, cap0, by rw [hlen], by rw [hlen]; exact hl, (fun h => by cases h), fun a ha j hj => ?_⟩, by rw [hlen]; omega, fun k hk => ?_⟩
    · cases ha
      rw [hlen] at hj
      rw [hcell j (by omega)]
      have hw := hwz (zs.getD j 0) (by rw [← List.getElem_eq_getD (h := by omega) 0]; exact List.getElem_mem _)
      have hb : 0 ≤ zs.getD j 0 ∧ zs.getD j 0 ≤ 255 := by simpa [Lit.wf, IntKind.min, IntKind.max, IntKind.signed, IntKind.bits] using hw
      have he : ((zs.take len0).map fun n => UInt8.ofNat n.toNat)[j]'(by rw [hlen]; exact hj) = UInt8.ofNat (zs.getD j 0).toNat := by
        rw [List.getElem_map, List.getElem_take, ← List.getElem_eq_getD (h := by omega) 0]
      rw [he]
      unfold bv
      rw [show ((UInt8.ofNat (zs.getD j 0).toNat).toNat : Int) = zs.getD j 0 by rw [UInt8.toNat_ofNat']; omega]
    · simp [Value.ownBlock] at hk
      omega

theorem wf_i64_bd {n : Int} (h : (Lit.int .i64 n).wf = true) : -9223372036854775808 ≤ n ∧ n ≤ 9223372036854775807 := by
  simpa [Lit.wf, IntKind.min, IntKind.max, IntKind.signed, IntKind.bits] using h
end Go.Proofs.Ytihofmmbdedhbaa


namespace Go.Proofs.Ytihofmmbdedhbaa
set_option linter.unusedVariables false
set_option linter.unusedSimpArgs false
set_option maxRecDepth 100000
open Go.Joins Go.ChangeShapes Go.WideShapes Go.ChangeAt Go.RowKit Go.Deep

/-- a cell within its fields' ranges -/
structure ClWf (c : Cl) : Prop where
  lo : -9223372036854775808 ≤ c.num
  hi : c.num ≤ 9223372036854775807
  len : c.txt.length ≤ 9223372036854775807
end Go.Proofs.Ytihofmmbdedhbaa


namespace Go.Proofs.Ytihofmmbdedhbaa
set_option linter.unusedVariables false
set_option linter.unusedSimpArgs false
set_option maxRecDepth 100000
open Go.Joins Go.ChangeShapes Go.WideShapes Go.ChangeAt Go.RowKit Go.Deep

theorem cof_bool : Try.prog.cellsOf 4 = 1 := by kernel_rfl
theorem cof_i64 : Try.prog.cellsOf 2 = 1 := by kernel_rfl
theorem cof_int : Try.prog.cellsOf 3 = 1 := by kernel_rfl
theorem cof_str : Try.prog.cellsOf 9 = 1 := by kernel_rfl
theorem cof_cl : Try.prog.cellsOf 26 = 3 := by kernel_rfl
theorem cof_zn : Try.prog.cellsOf 28 = 8 := by kernel_rfl
theorem array8 {α : Type} {cs : Array α} (h : cs.size = 8) : ∃ c0 c1 c2 c3 c4 c5 c6 c7, cs = #[c0, c1, c2, c3, c4, c5, c6, c7] := by
  obtain ⟨l⟩ := cs
  match l, h with
  | [c0, c1, c2, c3, c4, c5, c6, c7], _ => exact ⟨c0, c1, c2, c3, c4, c5, c6, c7, rfl⟩
/-- three cells that are read as a cell -/
theorem cl_cells {H : Type} {enc : TypeId × Value → H} {W : World} {n : Nat} {x : DataW H × List MemPlace} {c2 c3 c4 : Value}
    (h : DataW.trod enc Try.prog W 0 (fun _ => true) true n 26 [c2, c3, c4] = some x) : ∃ c : Cl, c2 = .bool c.null ∧ c3 = .int .i64 c.num ∧ c4 = .string ⟨c.txt.toArray⟩ ∧ ClWf c := by
  obtain ⟨y0, y1, y2, m, rfl, _, h0, h1, h2⟩ := trod_struct3 Try.underlying26 h
  simp only [cof_bool, cof_i64, cof_str, List.drop_zero, List.drop_succ_cons, List.take_succ_cons, List.take_zero] at h0 h1 h2
  obtain ⟨b, e0, _⟩ := DataW.trod_bool Try.underlying4 h0
  obtain rfl := (List.cons.inj e0).1
  obtain ⟨i, e1, _, hi⟩ := DataW.trod_int Try.underlying2 h1
  obtain rfl := (List.cons.inj e1).1
  obtain ⟨s, e2, _, hs⟩ := DataW.trod_string Try.underlying9 h2
  obtain rfl := (List.cons.inj e2).1
  have hb := wf_i64_bd hi
  exact ⟨⟨b, i, s.data.toList⟩, rfl, rfl, by simp, ⟨hb.1, hb.2, by simpa [maxLen] using hs⟩⟩
/-- a zone within its fields' ranges -/
structure ZnWf (z : Zn) : Prop where
  rows : -9223372036854775808 ≤ z.rows ∧ z.rows ≤ 9223372036854775807
  nulls : -9223372036854775808 ≤ z.nulls ∧ z.nulls ≤ 9223372036854775807
  low : ClWf z.low
  high : ClWf z.high
theorem zn_in {H : Type} {enc : TypeId × Value → H} {W : World} {base : Nat} {v : Value} {d : DataW H} {p : List MemPlace} (hv : Value.okWide Try.prog W .any base 28 v)
    (h : DataW.Trod enc Try.prog W 0 (fun _ => true) true 28 v d p) : ∃ z, v = znV z ∧ ZnWf z := by
  obtain ⟨cs, rfl, hsz⟩ := okWide_struct Try.underlying28 hv
  obtain ⟨c0, c1, c2, c3, c4, c5, c6, c7, rfl⟩ := array8 (hsz.trans cof_zn)
  obtain ⟨fuel, hf⟩ := h
  obtain ⟨y0, y1, y2, y3, n, _, _, h0, h1, h2, h3⟩ := trod_struct4 Try.underlying28 hf
  simp only [Value.cells, cof_int, cof_cl, List.drop_zero, List.drop_succ_cons, List.take_succ_cons, List.take_zero] at h0 h1 h2 h3
  obtain ⟨i0, e0, _, w0⟩ := DataW.trod_int Try.underlying3 h0
  obtain rfl := (List.cons.inj e0).1
  obtain ⟨i1, e1, _, w1⟩ := DataW.trod_int Try.underlying3 h1
  obtain rfl := (List.cons.inj e1).1
  obtain ⟨lo, rfl, rfl, rfl, k1⟩ := cl_cells h2
  obtain ⟨hi, rfl, rfl, rfl, k2⟩ := cl_cells h3
  have q0 := wf_i64_bd w0
  have q1 := wf_i64_bd w1
  exact ⟨⟨i0, i1, lo, hi⟩, rfl, ⟨q0.1, q0.2⟩, ⟨q1.1, q1.2⟩, k1, k2⟩

end Go.Proofs.Ytihofmmbdedhbaa


namespace Go.Proofs.Ytihofmmbdedhbaa
set_option linter.unusedVariables false
set_option linter.unusedSimpArgs false
set_option maxRecDepth 100000
open Go.RowKit

theorem mayC_ft {ty : Int} {c : Cl} (h : mayC ty false c = true) : mayC ty true c = true := by
  unfold mayC at *
  cases hn : c.null with
  | true => rw [hn] at h; simp at h
  | false => rw [hn] at h; exact h
/-- a zone that may be is read again out of its bytes -/
theorem tkZ_own {ty : Int} {z : Zn} (hlo : ClOk z.low) (hhi : ClOk z.high) (hm : mayZ ty z = true) : tkZ ty (zoneB ty z) = (z, [], false) := by
  obtain ⟨q1, q2, q3⟩ := mayZ_cnt hm
  have hrd : rdZ ty (zoneB ty z) = (z, [], false) := by
    have hm2 := hm
    rw [mayZ_is] at hm2
    obtain ⟨r, n, lo, hi⟩ := z
    dsimp only at q1 q2 q3 hlo hhi
    obtain ⟨n, rfl⟩ := Int.eq_ofNat_of_zero_le q1
    obtain ⟨r, rfl⟩ := Int.eq_ofNat_of_zero_le (show 0 ≤ r by omega)
    have h1 := fun rest => most_own (n := r) (m := 4096) (by omega) (by unfold two64; omega) rest
    have h2 := fun rest => most_own (n := n) (m := 4096) (by omega) (by unfold two64; omega) rest
    cases hb : bndZ ⟨r, n, lo, hi⟩ with
    | true =>
      rw [zoneB_some hm hb]
      rw [hb] at hm2
      dsimp only [Int.toNat_natCast] at hm2 ⊢
      have hlt : n < r := by have := of_decide_eq_true hb; dsimp only at this; omega
      simp only [if_true, Bool.and_eq_true] at hm2
      obtain ⟨_, _, m1, m2, _⟩ := hm2
      have t1 := tkC_own hlo (mayC_ft m1) (cellB ty hi)
      have t2 := tkC_own hhi (mayC_ft m2) []
      rw [List.append_nil] at t2
      rw [show ((Lib.uvarint r ++ Lib.uvarint n) ++ cellB ty lo) ++ cellB ty hi = Lib.uvarint r ++ (Lib.uvarint n ++ (cellB ty lo ++ cellB ty hi)) by simp]
      unfold rdZ
      rw [(h1 _).1, (h1 _).2.1, (h2 _).1, (h2 _).2.1, t1]
      dsimp only
      rw [t2, if_pos hlt]
    | false =>
      rw [zoneB_none hm hb]
      rw [hb] at hm2
      dsimp only [Int.toNat_natCast] at hm2 ⊢
      have hlt : ¬ n < r := by have := of_decide_eq_false hb; dsimp only at this; omega
      simp only [Bool.false_eq_true, if_false, Bool.and_eq_true] at hm2
      obtain ⟨_, _, m1, m2⟩ := hm2
      have e1 := ceq_is m1
      have e2 := ceq_is m2
      have h2' := h2 []
      rw [List.append_nil] at h2'
      unfold rdZ
      rw [(h1 _).1, (h1 _).2.1, h2'.1, h2'.2.1, h2'.2.2, if_neg hlt, e1, e2]
  have e : mayZ ty (rdZ ty (zoneB ty z)).1 = true := by rw [hrd]; exact hm
  rw [tkZ_yes (by rw [hrd]) e, hrd]

set_option maxHeartbeats 4000000 in
theorem zoneBytes_walk (ty : Int) (z : Zn) (v : Value) (b : List UInt8) (w : World) (hz : ZnWf z) (hv : Bs w v b) (hvl : ∀ k, v.ownBlock = some k → k < w.heap.size) :
    Calls Try.prog 5 #[.int .i64 ty, znV z, v] w fun e w' => e = .returned (.bool true) ∧ Below w.heap.size w w' := by
  have H0 : ZnB (w.alloc (.cells (znC z) 28)) w.heap.size z := Blk.new _ _ _
  have HF0 := (Fr.refl Non w).alloc (.cells (znC z) 28)
  have HV := Lib.hid hv
  have HVl := Lib.hid hvl
  obtain ⟨A, k, rfl⟩ := hv.shape
  clear hv hvl
  have hs1 := slen z.low.txt
  have hs2 := slen z.high.txt
  unfold znV at *
  unfold znC at *
  by_cases l0 : 100 < z.low.txt.length
  · have d0 : decide (100 < (z.low.txt.length : Int)) = true := decide_eq_true (by omega)
    clear l0
    clear hz
    replace HF0 := Lib.hid HF0
    clear H0
    go_enter Try.func5, Try.ntmps5
    go_wp2_with fail
    refine (znlive_any _).mono ?_
    rintro e w9 ⟨rfl, f9⟩
    go_wp2
    go_ret
    exact ⟨rfl, (HF0.out.trans f9).below⟩
  · have d0 : decide (100 < (z.low.txt.length : Int)) = false := decide_eq_false (by omega)
    by_cases l1 : 100 < z.high.txt.length
    · have d1 : decide (100 < (z.high.txt.length : Int)) = true := decide_eq_true (by omega)
      clear l1
      clear hz
      replace HF0 := Lib.hid HF0
      clear H0
      go_enter Try.func5, Try.ntmps5
      go_wp2_with fail
      refine (znlive_any _).mono ?_
      rintro e w9 ⟨rfl, f9⟩
      go_wp2
      go_ret
      exact ⟨rfl, (HF0.out.trans f9).below⟩
    · have d1 : decide (100 < (z.high.txt.length : Int)) = false := decide_eq_false (by omega)
      by_cases l2 : 300 < b.length
      · have d2 : decide (300 < (b.length : Int)) = true := decide_eq_true (by omega)
        clear l2
        clear hz
        replace HF0 := Lib.hid HF0
        clear H0
        go_enter Try.func5, Try.ntmps5
        go_wp2_with fail
        refine (znlive_any _).mono ?_
        rintro e w9 ⟨rfl, f9⟩
        go_wp2
        go_ret
        exact ⟨rfl, (HF0.out.trans f9).below⟩
      · have d2 : decide (300 < (b.length : Int)) = false := decide_eq_false (by omega)
        have hokl : ClOk z.low := ⟨hz.low.lo, hz.low.hi, by omega⟩
        have hokh : ClOk z.high := ⟨hz.high.lo, hz.high.hi, by omega⟩
        have HOl := Lib.hid hokl
        have HOh := Lib.hid hokh
        have P1 := fun W => zput_any ty z W hokl hokh
        have P2 := fun W => rzput_any ty z W hokl hokh
        have M1 := fun W => rzmay_any ty z W
        unfold znV znC at P1 P2 M1
        have p1 := Lib.hid P1
        have p2 := Lib.hid P2
        have m1 := Lib.hid M1
        have hbl : b.length ≤ 300 := by omega
        clear P1 P2 M1 hokl hokh hz l0 l1 l2
        have q1 := fun W => run_neq_zn W (tkZ ty b).1 (tkZ ty b).1
        have q2 := fun W => run_eql_zn W z z
        simp only [zeq_self] at q1 q2
        go_enter Try.func5, Try.ntmps5
        go_wp2_with fail
        generalize w.alloc (.cells #[.int .i64 z.rows, .int .i64 z.nulls, .bool z.low.null, .int .i64 z.low.num, .string ⟨z.low.txt.toArray⟩, .bool z.high.null, .int .i64 z.high.num, .string ⟨z.high.txt.toArray⟩] 28) = W0 at *
        generalize hg : w.heap.size = g at *
        clear hs1 hs2 d0 d1 d2
        refine (p1.out _).mono ?_
        rintro e w2 ⟨v2, rfl, hown2, f2⟩
        obtain ⟨A2, k2, rfl⟩ := hown2.shape
        have F2 := HF0.trans f2
        go_wp2_with fail
        refine (from_any _ b w2 (HV.out.non F2)).mono ?_
        rintro e w3 ⟨rfl, s3, f3⟩
        have F3 := F2.trans f3
        have hlt3 := s3.1.lt
        have hc3 : ZnB w3 g z := (H0.fr f2 (fun e => e)).fr f3 (fun e => e)
        have hbox := (Fr.refl Non w3).alloc (.cells #[.slice A b.length k, .bool false] 42)
        have S4 : SAt (w3.alloc (.cells #[.slice A b.length k, .bool false] 42)) w3.heap.size (GeS g) b false :=
          ⟨_, Blk.new _ _ _, (HV.out.non F3).non hbox, (fun q hq e => by have := HVl.out q hq; unfold GeS at e; omega), by have := F3.size; unfold GeS; omega, fun h => by cases h⟩
        have s4 := s3.fr hbox (fun e => e)
        have F4 := F3.trans hbox
        have hc4 : ZnB _ g z := hc3.fr hbox (fun e => e)
        have hx4 := (hown2.bs.non f3).non hbox
        have hlt4 := S4.lt
        have hx2 := hown2.lt
        have hgg : g < w2.heap.size := (show ZnB w2 g z from H0.fr f2 (fun e => e)).lt
        go_wp2
        generalize w3.alloc (.cells #[.slice A b.length k, .bool false] 42) = W4 at *
        generalize hgs : w2.heap.size = gs at *
        generalize hgw : w3.heap.size = gw at *
        have hgs0 : g ≠ gs := by omega
        have hgw0 : g ≠ gw := by omega
        have hgsw : gs ≠ gw := by omega
        have hS5 : ∀ W : World, W0.heap.size ≤ W.heap.size → ∀ q, W.heap.size ≤ q → GeS g q := fun W h q hq => by have := HF0.size; unfold GeS; omega
        have T1 := fun W (h : Src W gs b false) => ztake_any gs b false ty W h
        have T2 := fun W (h : SAt W gw (GeS g) b false) (h' : W0.heap.size ≤ W.heap.size) => rztake_any gw (GeS g) b false ty W h (by omega) (hS5 W h')
        have hcD : ZnB W4.drew g z := hc4
        have hsD : Src W4.drew gs b false := s4
        have hSD : SAt W4.drew gw (GeS g) b false := S4
        have hxD : Bs W4.drew (.slice A2 (zoneB ty z).length k2) (zoneB ty z) := hx4
        have hFD : Fr Non w W4.drew := F4.drew
        have hzD : W0.heap.size ≤ W4.drew.heap.size := by have h2 := f2.size; have h3 := f3.size; have h4 := hbox.size; show W0.heap.size ≤ W4.heap.size; omega
        have hzg : gw < W4.heap.size := hlt4
        generalize tkZ ty b = x at *
        obtain ⟨⟨xr, xn, ⟨xln, xli, xlt⟩, ⟨xhn, xhi, xht⟩⟩, lx, bx⟩ := x
        unfold znV znC at T1 T2
        dsimp only at T1 T2 q1
        have t1 := Lib.hid T1
        have t2 := Lib.hid T2
        have hS6 := Lib.hid hS5
        have n1 : (zoneB ty z == zoneB ty z) = true := by simp
        have n2 : ((!bx) == bx) = false := by cases bx <;> rfl
        have n3 : ((lx.length : Int) != lx.length) = false := by simp
        have hx2g : ∀ q, (Value.slice A2 (zoneB ty z).length k2).ownBlock = some q → q ≠ gs := fun q hq e => by have := (hx2 q hq).2; omega
        have hx2w : ∀ q, (Value.slice A2 (zoneB ty z).length k2).ownBlock = some q → q ≠ gw := fun q hq e => by have := (hx2 q hq).2; omega
        clear T1 T2 hS5 hc4 s4 S4 hx4 F4 hc3 s3 hown2 hbox f2 f3 F2 F3 H0 HF0
        have a0 : W4.drew.cell? ⟨g, 0, none⟩ = some (.int .i64 z.rows) := hcD.cell 0
        have a1 : W4.drew.cell? ⟨g, 1, none⟩ = some (.int .i64 z.nulls) := hcD.cell 1
        have a2 : W4.drew.cell? ⟨g, 2, none⟩ = some (.bool z.low.null) := hcD.cell 2
        have a3 : W4.drew.cell? ⟨g, 3, none⟩ = some (.int .i64 z.low.num) := hcD.cell 3
        have a4 : W4.drew.cell? ⟨g, 4, none⟩ = some (.string ⟨z.low.txt.toArray⟩) := hcD.cell 4
        have a5 : W4.drew.cell? ⟨g, 5, none⟩ = some (.bool z.high.null) := hcD.cell 5
        have a6 : W4.drew.cell? ⟨g, 6, none⟩ = some (.int .i64 z.high.num) := hcD.cell 6
        have a7 : W4.drew.cell? ⟨g, 7, none⟩ = some (.string ⟨z.high.txt.toArray⟩) := hcD.cell 7
        refine wp_region_held_drew (S := (fun W => W.cell? ⟨g, 0, none⟩ = some (.int .i64 z.rows) ∧ W.cell? ⟨g, 1, none⟩ = some (.int .i64 z.nulls) ∧ W.cell? ⟨g, 2, none⟩ = some (.bool z.low.null) ∧ W.cell? ⟨g, 3, none⟩ = some (.int .i64 z.low.num) ∧ W.cell? ⟨g, 4, none⟩ = some (.string ⟨z.low.txt.toArray⟩) ∧ W.cell? ⟨g, 5, none⟩ = some (.bool z.high.null) ∧ W.cell? ⟨g, 6, none⟩ = some (.int .i64 z.high.num) ∧ W.cell? ⟨g, 7, none⟩ = some (.string ⟨z.high.txt.toArray⟩))) (by kernel_rfl) ⟨a0, a1, a2, a3, a4, a5, a6, a7⟩ (fun hHeld => ?_)
        refine wpAnyH_take (i := 0) (oi := ⟨some 37, _, _, _, _, none⟩) (v := ?v1) rfl (by kernel_rfl) (by kernel_rfl) (by kernel_rfl) (fun _ _ _ h => h) (Or.inl ⟨by rfl, ?hy1⟩) (by assumption) ?rest1
        case hy1 => (intro wS hSw; (try dsimp only at hSw); go_simp; (try with_reducible rfl))
        (try simp only [Act.put, List.setIfInBounds_toArray, List.set_cons_zero, List.set_cons_succ])
        refine wpAnyH_take (i := 1) (oi := ⟨some 38, _, _, _, _, none⟩) (v := ?v2) rfl (by kernel_rfl) (by kernel_rfl) (by kernel_rfl) (fun _ _ _ h => h) (Or.inl ⟨by rfl, ?hy2⟩) (by assumption) ?rest2
        case hy2 => (intro wS hSw; (try dsimp only at hSw); go_simp; (try with_reducible rfl))
        (try simp only [Act.put, List.setIfInBounds_toArray, List.set_cons_zero, List.set_cons_succ])
        refine wpAnyH_take (i := 2) (oi := ⟨some 39, _, _, _, _, none⟩) (v := ?v3) rfl (by kernel_rfl) (by kernel_rfl) (by kernel_rfl) (fun _ _ _ h => h) (Or.inl ⟨by rfl, ?hy3⟩) (by assumption) ?rest3
        case hy3 => (intro wS hSw; (try dsimp only at hSw); go_simp; (try with_reducible rfl))
        (try simp only [Act.put, List.setIfInBounds_toArray, List.set_cons_zero, List.set_cons_succ])
        refine wpAnyH_ready (rs := [3]) (by kernel_rfl) (by simp) ?_
        refine AllReadyH.cons (o := ⟨some 40, _, _, _, _, none⟩) rfl (fun K hK => ?_) AllReadyH.nil
        go_simp
        go_at_call 19
        refine (p2.out _).mono ?_
        rintro e w5 ⟨v5, rfl, hown5, f5⟩
        obtain ⟨A5, k5, rfl⟩ := hown5.shape
        have hc5 : ZnB w5 g z := hcD.fr f5 (fun e => e)
        have hs5 := hsD.fr f5 (fun e => e)
        have hS5 := hSD.non f5
        have hx5 := hxD.non f5
        have hy5 := hown5.bs
        have hz5 := f5.size
        have b0 : w5.cell? ⟨g, 0, none⟩ = some (.int .i64 z.rows) := hc5.cell 0
        have b1 : w5.cell? ⟨g, 1, none⟩ = some (.int .i64 z.nulls) := hc5.cell 1
        have b2 : w5.cell? ⟨g, 2, none⟩ = some (.bool z.low.null) := hc5.cell 2
        have b3 : w5.cell? ⟨g, 3, none⟩ = some (.int .i64 z.low.num) := hc5.cell 3
        have b4 : w5.cell? ⟨g, 4, none⟩ = some (.string ⟨z.low.txt.toArray⟩) := hc5.cell 4
        have b5 : w5.cell? ⟨g, 5, none⟩ = some (.bool z.high.null) := hc5.cell 5
        have b6 : w5.cell? ⟨g, 6, none⟩ = some (.int .i64 z.high.num) := hc5.cell 6
        have b7 : w5.cell? ⟨g, 7, none⟩ = some (.string ⟨z.high.txt.toArray⟩) := hc5.cell 7
        go_wp2_with fail
        refine hK.out _ _ ⟨b0, b1, b2, b3, b4, b5, b6, b7⟩ (fun hHeld => ?_)
        clear hK K
        (try simp only [Act.put, List.setIfInBounds_toArray, List.set_cons_zero, List.set_cons_succ])
        refine wpAnyH_ready (rs := [4]) (by kernel_rfl) (by simp) ?_
        refine AllReadyH.cons (o := ⟨some 41, _, _, _, _, none⟩) rfl (fun K hK => ?_) AllReadyH.nil
        go_simp
        go_at_call 18
        refine (same_any _ _ (zoneB ty z) (zoneB ty z) _ hx5 hy5).mono ?_
        rintro e w6 ⟨rfl, rfl⟩
        go_wp2_with fail
        refine hK.out _ _ ⟨b0, b1, b2, b3, b4, b5, b6, b7⟩ (fun hHeld => ?_)
        clear hK K
        (try simp only [Act.put, List.setIfInBounds_toArray, List.set_cons_zero, List.set_cons_succ])
        refine wpAnyH_take (i := 5) (oi := ⟨some 42, _, _, _, _, none⟩) (v := ?v4) rfl (by kernel_rfl) (by kernel_rfl) (by kernel_rfl) (fun _ _ _ h => h) (Or.inl ⟨by rfl, ?hy4⟩) (by assumption) ?rest4
        case hy4 => (intro wS hSw; (try dsimp only at hSw); go_simp; (try with_reducible rfl))
        (try simp only [Act.put, List.setIfInBounds_toArray, List.set_cons_zero, List.set_cons_succ])
        refine wpAnyH_take (i := 6) (oi := ⟨some 43, _, _, _, _, none⟩) (v := ?v5) rfl (by kernel_rfl) (by kernel_rfl) (by kernel_rfl) (fun _ _ _ h => h) (Or.inl ⟨by rfl, ?hy5⟩) (by assumption) ?rest5
        case hy5 => (intro wS hSw; (try dsimp only at hSw); go_simp; (try with_reducible rfl))
        (try simp only [Act.put, List.setIfInBounds_toArray, List.set_cons_zero, List.set_cons_succ])
        refine wpAnyH_take (i := 7) (oi := ⟨some 44, _, _, _, _, some (6, false)⟩) (v := ?v6) rfl (by kernel_rfl) (by kernel_rfl) (by kernel_rfl) (fun _ _ _ h => h) (Or.inl ⟨by rfl, ?hy6⟩) (by assumption) ?rest6
        case hy6 => (intro wS hSw; (try dsimp only at hSw); go_simp; (try with_reducible rfl))
        (try simp only [Act.put, List.setIfInBounds_toArray, List.set_cons_zero, List.set_cons_succ])
        refine wpAnyH_take (i := 8) (oi := ⟨some 45, _, _, _, _, some (6, false)⟩) (v := ?v7) rfl (by kernel_rfl) (by kernel_rfl) (by kernel_rfl) (fun _ _ _ h => h) (Or.inl ⟨by rfl, ?hy7⟩) (by assumption) ?rest7
        case hy7 => (intro wS hSw; (try dsimp only at hSw); go_simp; (try with_reducible rfl))
        (try simp only [Act.put, List.setIfInBounds_toArray, List.set_cons_zero, List.set_cons_succ])
        refine wpAnyH_take (i := 10) (oi := ⟨some 47, _, _, _, _, some (6, false)⟩) (v := ?v8) rfl (by kernel_rfl) (by kernel_rfl) (by kernel_rfl) (fun _ _ _ h => h) (Or.inl ⟨by rfl, ?hy8⟩) (by assumption) ?rest8
        case hy8 => (intro wS hSw; (try dsimp only at hSw); go_simp; (try with_reducible rfl))
        (try simp only [Act.put, List.setIfInBounds_toArray, List.set_cons_zero, List.set_cons_succ])
        refine wpAnyH_take (i := 11) (oi := ⟨some 48, _, _, _, _, some (6, false)⟩) (v := ?v9) rfl (by kernel_rfl) (by kernel_rfl) (by kernel_rfl) (fun _ _ _ h => h) (Or.inl ⟨by rfl, ?hy9⟩) (by assumption) ?rest9
        case hy9 => (intro wS hSw; (try dsimp only at hSw); go_simp; (try with_reducible rfl))
        (try simp only [Act.put, List.setIfInBounds_toArray, List.set_cons_zero, List.set_cons_succ])
        refine wpAnyH_ready (rs := [9]) (by kernel_rfl) (by simp) ?_
        refine AllReadyH.cons (o := ⟨some 46, _, _, _, _, some (6, false)⟩) rfl (fun K hK => ?_) AllReadyH.nil
        go_simp
        go_at_call 20
        refine (t1.out _ hs5).mono ?_
        rintro e w6 ⟨rfl, s6, f6⟩
        have hc6 : ZnB w6 g z := hc5.fr f6 (fun e => hgs0 e)
        have hT6 := hS5.fr f6 (fun e => hgsw e.symm) (fun q e => by rw [show q = gs from e]; unfold GeS; omega)
        have hz6 := f6.size
        have d0 : w6.cell? ⟨g, 0, none⟩ = some (.int .i64 z.rows) := hc6.cell 0
        have d1 : w6.cell? ⟨g, 1, none⟩ = some (.int .i64 z.nulls) := hc6.cell 1
        have d2 : w6.cell? ⟨g, 2, none⟩ = some (.bool z.low.null) := hc6.cell 2
        have d3 : w6.cell? ⟨g, 3, none⟩ = some (.int .i64 z.low.num) := hc6.cell 3
        have d4 : w6.cell? ⟨g, 4, none⟩ = some (.string ⟨z.low.txt.toArray⟩) := hc6.cell 4
        have d5 : w6.cell? ⟨g, 5, none⟩ = some (.bool z.high.null) := hc6.cell 5
        have d6 : w6.cell? ⟨g, 6, none⟩ = some (.int .i64 z.high.num) := hc6.cell 6
        have d7 : w6.cell? ⟨g, 7, none⟩ = some (.string ⟨z.high.txt.toArray⟩) := hc6.cell 7
        go_wp2_with fail
        refine hK.out _ _ ⟨d0, d1, d2, d3, d4, d5, d6, d7⟩ (fun hHeld => ?_)
        clear hK K
        (try simp only [Act.put, List.setIfInBounds_toArray, List.set_cons_zero, List.set_cons_succ])
        refine wpAnyH_ready (rs := [12]) (by kernel_rfl) (by simp) ?_
        refine AllReadyH.cons (o := ⟨some 49, _, _, _, _, some (6, false)⟩) rfl (fun K hK => ?_) AllReadyH.nil
        go_simp
        go_at_call 21
        refine (t2.out _ hT6 (by omega)).mono ?_
        rintro e w7 ⟨rfl, s7, f7⟩
        have hc7 : ZnB w7 g z := hc6.fr f7 (fun e => hgw0 e)
        have hs7 := s6.fr f7 (fun e => hgsw e)
        obtain ⟨A7, k7, u0, u1, _⟩ := s7.cells
        have e0 : w7.cell? ⟨g, 0, none⟩ = some (.int .i64 z.rows) := hc7.cell 0
        have e1 : w7.cell? ⟨g, 1, none⟩ = some (.int .i64 z.nulls) := hc7.cell 1
        have e2 : w7.cell? ⟨g, 2, none⟩ = some (.bool z.low.null) := hc7.cell 2
        have e3 : w7.cell? ⟨g, 3, none⟩ = some (.int .i64 z.low.num) := hc7.cell 3
        have e4 : w7.cell? ⟨g, 4, none⟩ = some (.string ⟨z.low.txt.toArray⟩) := hc7.cell 4
        have e5 : w7.cell? ⟨g, 5, none⟩ = some (.bool z.high.null) := hc7.cell 5
        have e6 : w7.cell? ⟨g, 6, none⟩ = some (.int .i64 z.high.num) := hc7.cell 6
        have e7 : w7.cell? ⟨g, 7, none⟩ = some (.string ⟨z.high.txt.toArray⟩) := hc7.cell 7
        go_wp2_with fail
        refine hK.out _ _ ⟨e0, e1, e2, e3, e4, e5, e6, e7⟩ (fun hHeld => ?_)
        clear hK K
        (try simp only [Act.put, List.setIfInBounds_toArray, List.set_cons_zero, List.set_cons_succ])
        refine wpAnyH_more (S' := (fun W => W.cell? ⟨gw, 0, none⟩ = some (.slice A7 lx.length k7) ∧ W.cell? ⟨gw, 1, none⟩ = some (.bool bx) ∧ W.cell? ⟨g, 0, none⟩ = some (.int .i64 z.rows) ∧ W.cell? ⟨g, 1, none⟩ = some (.int .i64 z.nulls) ∧ W.cell? ⟨g, 2, none⟩ = some (.bool z.low.null) ∧ W.cell? ⟨g, 3, none⟩ = some (.int .i64 z.low.num) ∧ W.cell? ⟨g, 4, none⟩ = some (.string ⟨z.low.txt.toArray⟩) ∧ W.cell? ⟨g, 5, none⟩ = some (.bool z.high.null) ∧ W.cell? ⟨g, 6, none⟩ = some (.int .i64 z.high.num) ∧ W.cell? ⟨g, 7, none⟩ = some (.string ⟨z.high.txt.toArray⟩))) (fun W h => h.2.2) _ _ _ _ ?_
        have hMore := And.intro u0 (And.intro u1 hHeld)
        refine wpAnyH_take (i := 13) (oi := ⟨some 50, _, _, _, _, some (6, false)⟩) (v := ?v10) rfl (by kernel_rfl) (by kernel_rfl) (by kernel_rfl) (fun _ _ _ h => h) (Or.inl ⟨by rfl, ?hy10⟩) (by assumption) ?rest10
        case hy10 => (intro wS hSw; (try dsimp only at hSw); go_simp; (try with_reducible rfl))
        (try simp only [Act.put, List.setIfInBounds_toArray, List.set_cons_zero, List.set_cons_succ])
        refine wpAnyH_take (i := 14) (oi := ⟨some 51, _, _, _, _, none⟩) (v := ?v11) rfl (by kernel_rfl) (by kernel_rfl) (by kernel_rfl) (fun _ _ _ h => h) (Or.inl ⟨by rfl, ?hy11⟩) (by assumption) ?rest11
        case hy11 => (intro wS hSw; (try dsimp only at hSw); go_simp; (try with_reducible rfl))
        (try simp only [Act.put, List.setIfInBounds_toArray, List.set_cons_zero, List.set_cons_succ])
        refine wpAnyH_take (i := 15) (oi := ⟨some 52, _, _, _, _, none⟩) (v := ?v12) rfl (by kernel_rfl) (by kernel_rfl) (by kernel_rfl) (fun _ _ _ h => h) (Or.inl ⟨by rfl, ?hy12⟩) (by assumption) ?rest12
        case hy12 => (intro wS hSw; (try dsimp only at hSw); go_simp; (try with_reducible rfl))
        (try simp only [Act.put, List.setIfInBounds_toArray, List.set_cons_zero, List.set_cons_succ])
        refine wpAnyH_take (i := 16) (oi := ⟨some 53, _, _, _, _, some (15, false)⟩) (v := ?v13) rfl (by kernel_rfl) (by kernel_rfl) (by kernel_rfl) (fun _ _ _ h => h) (Or.inl ⟨by rfl, ?hy13⟩) (by assumption) ?rest13
        case hy13 => (intro wS hSw; (try dsimp only at hSw); go_simp; (try with_reducible rfl))
        (try simp only [Act.put, List.setIfInBounds_toArray, List.set_cons_zero, List.set_cons_succ])
        refine wpAnyH_take (i := 18) (oi := ⟨some 55, _, _, _, _, some (15, false)⟩) (v := ?v14) rfl (by kernel_rfl) (by kernel_rfl) (by kernel_rfl) (fun _ _ _ h => h) (Or.inl ⟨by rfl, ?hy14⟩) (by assumption) ?rest14
        case hy14 => (intro wS hSw; (try dsimp only at hSw); go_simp; (try with_reducible rfl))
        (try simp only [Act.put, List.setIfInBounds_toArray, List.set_cons_zero, List.set_cons_succ])
        refine wpAnyH_take (i := 19) (oi := ⟨some 56, _, _, _, _, some (15, false)⟩) (v := ?v15) rfl (by kernel_rfl) (by kernel_rfl) (by kernel_rfl) (fun _ _ _ h => h) (Or.inl ⟨by rfl, ?hy15⟩) (by assumption) ?rest15
        case hy15 => (intro wS hSw; (try dsimp only at hSw); go_simp; (try with_reducible rfl))
        (try simp only [Act.put, List.setIfInBounds_toArray, List.set_cons_zero, List.set_cons_succ])
        refine wpAnyH_take (i := 20) (oi := ⟨some 57, _, _, _, _, some (15, false)⟩) (v := ?v16) rfl (by kernel_rfl) (by kernel_rfl) (by kernel_rfl) (fun _ _ _ h => h) (Or.inl ⟨by rfl, ?hy16⟩) (by assumption) ?rest16
        case hy16 => (intro wS hSw; (try dsimp only at hSw); go_simp; (try with_reducible rfl))
        (try simp only [Act.put, List.setIfInBounds_toArray, List.set_cons_zero, List.set_cons_succ])
        refine wpAnyH_take (i := 21) (oi := ⟨some 58, _, _, _, _, some (15, false)⟩) (v := ?v17) rfl (by kernel_rfl) (by kernel_rfl) (by kernel_rfl) (fun _ _ _ h => h) (Or.inl ⟨by rfl, ?hy17⟩) (by assumption) ?rest17
        case hy17 => (intro wS hSw; (try dsimp only at hSw); go_simp; (try with_reducible rfl))
        (try simp only [Act.put, List.setIfInBounds_toArray, List.set_cons_zero, List.set_cons_succ])
        refine wpAnyH_ready (rs := [17]) (by kernel_rfl) (by simp) ?_
        refine AllReadyH.cons (o := ⟨some 54, _, _, _, _, some (15, false)⟩) rfl (fun K hK => ?_) AllReadyH.nil
        go_simp
        go_at_call 22
        refine (ok_any _ _ _ _ hs7).mono ?_
        rintro e w8 ⟨rfl, rfl⟩
        go_wp2_with fail
        refine hK.out _ _ hMore (fun hHeld => ?_)
        clear hK K
        (try simp only [Act.put, List.setIfInBounds_toArray, List.set_cons_zero, List.set_cons_succ])
        refine wpAnyH_take (i := 22) (oi := ⟨some 59, _, _, _, _, some (15, false)⟩) (v := ?v18) rfl (by kernel_rfl) (by kernel_rfl) (by kernel_rfl) (fun _ _ _ h => h) (Or.inl ⟨by rfl, ?hy18⟩) (by assumption) ?rest18
        case hy18 => (intro wS hSw; (try dsimp only at hSw); go_simp; (try with_reducible rfl))
        (try simp only [Act.put, List.setIfInBounds_toArray, List.set_cons_zero, List.set_cons_succ])
        refine wpAnyH_take (i := 23) (oi := ⟨some 60, _, _, _, _, none⟩) (v := ?v19) rfl (by kernel_rfl) (by kernel_rfl) (by kernel_rfl) (fun _ _ _ h => h) (Or.inl ⟨by rfl, ?hy19⟩) (by assumption) ?rest19
        case hy19 => (intro wS hSw; (try dsimp only at hSw); go_simp; (try with_reducible rfl))
        (try simp only [Act.put, List.setIfInBounds_toArray, List.set_cons_zero, List.set_cons_succ])
        refine wpAnyH_take (i := 24) (oi := ⟨some 61, _, _, _, _, none⟩) (v := ?v20) rfl (by kernel_rfl) (by kernel_rfl) (by kernel_rfl) (fun _ _ _ h => h) (Or.inl ⟨by rfl, ?hy20⟩) (by assumption) ?rest20
        case hy20 => (intro wS hSw; (try dsimp only at hSw); go_simp; (try with_reducible rfl))
        (try simp only [Act.put, List.setIfInBounds_toArray, List.set_cons_zero, List.set_cons_succ])
        refine wpAnyH_take (i := 25) (oi := ⟨some 62, _, _, _, _, some (24, false)⟩) (v := ?v21) rfl (by kernel_rfl) (by kernel_rfl) (by kernel_rfl) (fun _ _ _ h => h) (Or.inl ⟨by rfl, ?hy21⟩) (by assumption) ?rest21
        case hy21 => (intro wS hSw; (try dsimp only at hSw); go_simp; (try with_reducible rfl))
        (try simp only [Act.put, List.setIfInBounds_toArray, List.set_cons_zero, List.set_cons_succ])
        refine wpAnyH_take (i := 27) (oi := ⟨some 64, _, _, _, _, some (24, false)⟩) (v := ?v22) rfl (by kernel_rfl) (by kernel_rfl) (by kernel_rfl) (fun _ _ _ h => h) (Or.inl ⟨by rfl, ?hy22⟩) (by assumption) ?rest22
        case hy22 => (intro wS hSw; (try dsimp only at hSw); go_simp; (try with_reducible rfl))
        (try simp only [Act.put, List.setIfInBounds_toArray, List.set_cons_zero, List.set_cons_succ])
        refine wpAnyH_take (i := 28) (oi := ⟨some 65, _, _, _, _, some (24, false)⟩) (v := ?v23) rfl (by kernel_rfl) (by kernel_rfl) (by kernel_rfl) (fun _ _ _ h => h) (Or.inl ⟨by rfl, ?hy23⟩) (by assumption) ?rest23
        case hy23 => (intro wS hSw; (try dsimp only at hSw); go_simp; (try with_reducible rfl))
        (try simp only [Act.put, List.setIfInBounds_toArray, List.set_cons_zero, List.set_cons_succ])
        refine wpAnyH_take (i := 29) (oi := ⟨some 66, _, _, _, _, some (24, false)⟩) (v := ?v24) rfl (by kernel_rfl) (by kernel_rfl) (by kernel_rfl) (fun _ _ _ h => h) (Or.inl ⟨by rfl, ?hy24⟩) (by assumption) ?rest24
        case hy24 => (intro wS hSw; (try dsimp only at hSw); go_simp; (try with_reducible rfl))
        (try simp only [Act.put, List.setIfInBounds_toArray, List.set_cons_zero, List.set_cons_succ])
        refine wpAnyH_take (i := 30) (oi := ⟨some 67, _, _, _, _, some (24, false)⟩) (v := ?v25) rfl (by kernel_rfl) (by kernel_rfl) (by kernel_rfl) (fun _ _ _ h => h) (Or.inl ⟨by rfl, ?hy25⟩) (by assumption) ?rest25
        case hy25 => (intro wS hSw; (try dsimp only at hSw); go_simp; (try with_reducible rfl))
        (try simp only [Act.put, List.setIfInBounds_toArray, List.set_cons_zero, List.set_cons_succ])
        refine wpAnyH_take (i := 31) (oi := ⟨some 68, _, _, _, _, some (24, false)⟩) (v := ?v26) rfl (by kernel_rfl) (by kernel_rfl) (by kernel_rfl) (fun _ _ _ h => h) (Or.inl ⟨by rfl, ?hy26⟩) (by assumption) ?rest26
        case hy26 => (intro wS hSw; (try dsimp only at hSw); go_simp; (try with_reducible rfl))
        (try simp only [Act.put, List.setIfInBounds_toArray, List.set_cons_zero, List.set_cons_succ])
        refine wpAnyH_ready (rs := [26]) (by kernel_rfl) (by simp) ?_
        refine AllReadyH.cons (o := ⟨some 63, _, _, _, _, some (24, false)⟩) rfl (fun K hK => ?_) AllReadyH.nil
        go_simp
        go_at_call 23
        refine (left_any _ _ _ _ hs7).mono ?_
        rintro e w8 ⟨rfl, rfl⟩
        go_wp2_with fail
        refine hK.out _ _ hMore (fun hHeld => ?_)
        clear hK K
        (try simp only [Act.put, List.setIfInBounds_toArray, List.set_cons_zero, List.set_cons_succ])
        refine wpAnyH_take (i := 32) (oi := ⟨some 69, _, _, _, _, some (24, false)⟩) (v := ?v27) rfl (by kernel_rfl) (by kernel_rfl) (by kernel_rfl) (fun _ _ _ h => h) (Or.inl ⟨by rfl, ?hy27⟩) (by assumption) ?rest27
        case hy27 => (intro wS hSw; (try dsimp only at hSw); go_simp; (try with_reducible rfl))
        (try simp only [Act.put, List.setIfInBounds_toArray, List.set_cons_zero, List.set_cons_succ])
        refine wpAnyH_take (i := 33) (oi := ⟨some 70, _, _, _, _, none⟩) (v := ?v28) rfl (by kernel_rfl) (by kernel_rfl) (by kernel_rfl) (fun _ _ _ h => h) (Or.inl ⟨by rfl, ?hy28⟩) (by assumption) ?rest28
        case hy28 => (intro wS hSw; (try dsimp only at hSw); go_simp; (try with_reducible rfl))
        (try simp only [Act.put, List.setIfInBounds_toArray, List.set_cons_zero, List.set_cons_succ])
        refine wpAnyH_done (by kernel_rfl) ?_ _
        go_wp2_with fail
        have F5 := (hFD.trans f5)
        have F7 : Fr Non w w7 := (F5.fresh f6 (fun q e => by rw [show q = gs from e]; omega)).fresh f7 (fun q e => by rw [show q = gw from e]; omega)
        cases hm : mayZ ty z
        · have M := m1.out w7
          rw [hm] at M
          have n4 : (((zoneB ty z).length : Int) == 0) = true := by rw [zoneB_no hm]; rfl
          refine M.mono ?_
          rintro e w8 ⟨rfl, f8⟩
          go_wp2_with fail
          refine (znlive_any _).mono ?_
          rintro e w9 ⟨rfl, f9⟩
          go_wp2
          go_ret
          exact ⟨rfl, ((F7.trans f8).trans f9).below⟩
        · have M := m1.out w7
          rw [hm] at M
          have HTk := Lib.hid (tkZ_own HOl.out HOh.out hm)
          refine M.mono ?_
          rintro e w8 ⟨rfl, f8⟩
          have hx8 := (((hxD.non f5).fr f6 (fun q hq e => hx2g q hq e)).fr f7 (fun q hq e => hx2w q hq e)).non f8
          have hc8 : ZnB w8 g z := hc7.fr f8 (fun e => e)
          go_wp2_with fail
          refine (from_any _ _ w8 hx8).mono ?_
          rintro e w9 ⟨rfl, s9, f9⟩
          have hc9 : ZnB w9.drew g z := (show ZnB w9 g z from hc8.fr f9 (fun e => e))
          have F9 : Fr Non w w9.drew := ((F7.trans f8).trans f9).drew
          have hg9 : g < w8.heap.size := hc8.lt
          have hgn : g ≠ w8.heap.size := by omega
          have hTk := fun W (h : Src W w8.heap.size (zoneB ty z) false) => ztake_any w8.heap.size (zoneB ty z) false ty W h
          rw [HTk.out] at hTk
          dsimp only at hTk
          unfold znV znC at hTk
          have t3 := Lib.hid hTk
          have s9D : Src w9.drew w8.heap.size (zoneB ty z) false := s9
          clear hTk hMore hHeld u0 u1 a0 b0 d0 e0 a1 b1 d1 e1 a2 b2 d2 e2 a3 b3 d3 e3 a4 b4 d4 e4 a5 b5 d5 e5 a6 b6 d6 e6 a7 b7 d7 e7
          generalize hgb : w8.heap.size = gb at *
          have a0 : w9.drew.cell? ⟨g, 0, none⟩ = some (.int .i64 z.rows) := hc9.cell 0
          have a1 : w9.drew.cell? ⟨g, 1, none⟩ = some (.int .i64 z.nulls) := hc9.cell 1
          have a2 : w9.drew.cell? ⟨g, 2, none⟩ = some (.bool z.low.null) := hc9.cell 2
          have a3 : w9.drew.cell? ⟨g, 3, none⟩ = some (.int .i64 z.low.num) := hc9.cell 3
          have a4 : w9.drew.cell? ⟨g, 4, none⟩ = some (.string ⟨z.low.txt.toArray⟩) := hc9.cell 4
          have a5 : w9.drew.cell? ⟨g, 5, none⟩ = some (.bool z.high.null) := hc9.cell 5
          have a6 : w9.drew.cell? ⟨g, 6, none⟩ = some (.int .i64 z.high.num) := hc9.cell 6
          have a7 : w9.drew.cell? ⟨g, 7, none⟩ = some (.string ⟨z.high.txt.toArray⟩) := hc9.cell 7
          go_wp2
          refine wp_region_held_drew (S := (fun W => W.cell? ⟨g, 0, none⟩ = some (.int .i64 z.rows) ∧ W.cell? ⟨g, 1, none⟩ = some (.int .i64 z.nulls) ∧ W.cell? ⟨g, 2, none⟩ = some (.bool z.low.null) ∧ W.cell? ⟨g, 3, none⟩ = some (.int .i64 z.low.num) ∧ W.cell? ⟨g, 4, none⟩ = some (.string ⟨z.low.txt.toArray⟩) ∧ W.cell? ⟨g, 5, none⟩ = some (.bool z.high.null) ∧ W.cell? ⟨g, 6, none⟩ = some (.int .i64 z.high.num) ∧ W.cell? ⟨g, 7, none⟩ = some (.string ⟨z.high.txt.toArray⟩))) (by kernel_rfl) ⟨a0, a1, a2, a3, a4, a5, a6, a7⟩ (fun hHeld => ?_)
          refine wpAnyH_take (i := 0) (oi := ⟨some 83, _, _, _, _, none⟩) (v := ?v29) rfl (by kernel_rfl) (by kernel_rfl) (by kernel_rfl) (fun _ _ _ h => h) (Or.inl ⟨by rfl, ?hy29⟩) (by assumption) ?rest29
          case hy29 => (intro wS hSw; (try dsimp only at hSw); go_simp; (try with_reducible rfl))
          (try simp only [Act.put, List.setIfInBounds_toArray, List.set_cons_zero, List.set_cons_succ])
          refine wpAnyH_take (i := 1) (oi := ⟨some 84, _, _, _, _, none⟩) (v := ?v30) rfl (by kernel_rfl) (by kernel_rfl) (by kernel_rfl) (fun _ _ _ h => h) (Or.inl ⟨by rfl, ?hy30⟩) (by assumption) ?rest30
          case hy30 => (intro wS hSw; (try dsimp only at hSw); go_simp; (try with_reducible rfl))
          (try simp only [Act.put, List.setIfInBounds_toArray, List.set_cons_zero, List.set_cons_succ])
          refine wpAnyH_take (i := 3) (oi := ⟨some 86, _, _, _, _, none⟩) (v := ?v31) rfl (by kernel_rfl) (by kernel_rfl) (by kernel_rfl) (fun _ _ _ h => h) (Or.inl ⟨by rfl, ?hy31⟩) (by assumption) ?rest31
          case hy31 => (intro wS hSw; (try dsimp only at hSw); go_simp; (try with_reducible rfl))
          (try simp only [Act.put, List.setIfInBounds_toArray, List.set_cons_zero, List.set_cons_succ])
          refine wpAnyH_ready (rs := [2]) (by kernel_rfl) (by simp) ?_
          refine AllReadyH.cons (o := ⟨some 85, _, _, _, _, none⟩) rfl (fun K hK => ?_) AllReadyH.nil
          go_simp
          go_at_call 20
          refine (t3.out _ s9D).mono ?_
          rintro e w10 ⟨rfl, s10, f10⟩
          have hc10 : ZnB w10 g z := hc9.fr f10 (fun e => hgn e)
          have b0 : w10.cell? ⟨g, 0, none⟩ = some (.int .i64 z.rows) := hc10.cell 0
          have b1 : w10.cell? ⟨g, 1, none⟩ = some (.int .i64 z.nulls) := hc10.cell 1
          have b2 : w10.cell? ⟨g, 2, none⟩ = some (.bool z.low.null) := hc10.cell 2
          have b3 : w10.cell? ⟨g, 3, none⟩ = some (.int .i64 z.low.num) := hc10.cell 3
          have b4 : w10.cell? ⟨g, 4, none⟩ = some (.string ⟨z.low.txt.toArray⟩) := hc10.cell 4
          have b5 : w10.cell? ⟨g, 5, none⟩ = some (.bool z.high.null) := hc10.cell 5
          have b6 : w10.cell? ⟨g, 6, none⟩ = some (.int .i64 z.high.num) := hc10.cell 6
          have b7 : w10.cell? ⟨g, 7, none⟩ = some (.string ⟨z.high.txt.toArray⟩) := hc10.cell 7
          go_wp2_with fail
          refine hK.out _ _ ⟨b0, b1, b2, b3, b4, b5, b6, b7⟩ (fun hHeld => ?_)
          clear hK K
          (try simp only [Act.put, List.setIfInBounds_toArray, List.set_cons_zero, List.set_cons_succ])
          refine wpAnyH_take (i := 4) (oi := ⟨some 87, _, _, _, _, none⟩) (v := ?v32) rfl (by kernel_rfl) (by kernel_rfl) (by kernel_rfl) (fun _ _ _ h => h) (Or.inl ⟨by rfl, ?hy32⟩) (by assumption) ?rest32
          case hy32 => (intro wS hSw; (try dsimp only at hSw); go_simp; (try with_reducible rfl))
          (try simp only [Act.put, List.setIfInBounds_toArray, List.set_cons_zero, List.set_cons_succ])
          refine wpAnyH_take (i := 5) (oi := ⟨some 88, _, _, _, _, none⟩) (v := ?v33) rfl (by kernel_rfl) (by kernel_rfl) (by kernel_rfl) (fun _ _ _ h => h) (Or.inl ⟨by rfl, ?hy33⟩) (by assumption) ?rest33
          case hy33 => (intro wS hSw; (try dsimp only at hSw); go_simp; (try with_reducible rfl))
          (try simp only [Act.put, List.setIfInBounds_toArray, List.set_cons_zero, List.set_cons_succ])
          refine wpAnyH_take (i := 6) (oi := ⟨some 89, _, _, _, _, some (5, true)⟩) (v := ?v34) rfl (by kernel_rfl) (by kernel_rfl) (by kernel_rfl) (fun _ _ _ h => h) (Or.inl ⟨by rfl, ?hy34⟩) (by assumption) ?rest34
          case hy34 => (intro wS hSw; (try dsimp only at hSw); go_simp; (try with_reducible rfl))
          (try simp only [Act.put, List.setIfInBounds_toArray, List.set_cons_zero, List.set_cons_succ])
          refine wpAnyH_ready (rs := [7]) (by kernel_rfl) (by simp) ?_
          refine AllReadyH.cons (o := ⟨some 90, _, _, _, _, some (5, true)⟩) rfl (fun K hK => ?_) AllReadyH.nil
          go_simp
          go_at_call 24
          refine (end_any _ _ _ _ s10).mono ?_
          rintro e w11 ⟨rfl, rfl⟩
          go_wp2_with fail
          refine hK.out _ _ ⟨b0, b1, b2, b3, b4, b5, b6, b7⟩ (fun hHeld => ?_)
          clear hK K
          (try simp only [Act.put, List.setIfInBounds_toArray, List.set_cons_zero, List.set_cons_succ])
          refine wpAnyH_take (i := 8) (oi := ⟨some 91, _, _, _, _, none⟩) (v := ?v35) rfl (by kernel_rfl) (by kernel_rfl) (by kernel_rfl) (fun _ _ _ h => h) (Or.inl ⟨by rfl, ?hy35⟩) (by assumption) ?rest35
          case hy35 => (intro wS hSw; (try dsimp only at hSw); go_simp; (try with_reducible rfl))
          (try simp only [Act.put, List.setIfInBounds_toArray, List.set_cons_zero, List.set_cons_succ])
          refine wpAnyH_take (i := 9) (oi := ⟨some 92, _, _, _, _, none⟩) (v := ?v36) rfl (by kernel_rfl) (by kernel_rfl) (by kernel_rfl) (fun _ _ _ h => h) (Or.inl ⟨by rfl, ?hy36⟩) (by assumption) ?rest36
          case hy36 => (intro wS hSw; (try dsimp only at hSw); go_simp; (try with_reducible rfl))
          (try simp only [Act.put, List.setIfInBounds_toArray, List.set_cons_zero, List.set_cons_succ])
          have f10' := F9.fresh f10 (fun q e => by rw [show q = gb from e]; omega)
          refine wpAnyH_ready (rs := [10]) (by kernel_rfl) (by simp) ?_
          refine AllReadyH.cons (o := ⟨some 93, _, _, _, _, some (9, true)⟩) rfl (fun K hK => ?_) AllReadyH.nil
          go_simp
          go_at_call 7
          refine (znlive_any _).mono ?_
          rintro e w12 ⟨rfl, f12⟩
          have hc12 : ZnB w12 g z := hc10.fr f12 (fun e => e)
          have d0 : w12.cell? ⟨g, 0, none⟩ = some (.int .i64 z.rows) := hc12.cell 0
          have d1 : w12.cell? ⟨g, 1, none⟩ = some (.int .i64 z.nulls) := hc12.cell 1
          have d2 : w12.cell? ⟨g, 2, none⟩ = some (.bool z.low.null) := hc12.cell 2
          have d3 : w12.cell? ⟨g, 3, none⟩ = some (.int .i64 z.low.num) := hc12.cell 3
          have d4 : w12.cell? ⟨g, 4, none⟩ = some (.string ⟨z.low.txt.toArray⟩) := hc12.cell 4
          have d5 : w12.cell? ⟨g, 5, none⟩ = some (.bool z.high.null) := hc12.cell 5
          have d6 : w12.cell? ⟨g, 6, none⟩ = some (.int .i64 z.high.num) := hc12.cell 6
          have d7 : w12.cell? ⟨g, 7, none⟩ = some (.string ⟨z.high.txt.toArray⟩) := hc12.cell 7
          go_wp2_with fail
          refine hK.out _ _ ⟨d0, d1, d2, d3, d4, d5, d6, d7⟩ (fun hHeld => ?_)
          clear hK K
          (try simp only [Act.put, List.setIfInBounds_toArray, List.set_cons_zero, List.set_cons_succ])
          refine wpAnyH_take (i := 11) (oi := ⟨some 94, _, _, _, _, none⟩) (v := ?v37) rfl (by kernel_rfl) (by kernel_rfl) (by kernel_rfl) (fun _ _ _ h => h) (Or.inl ⟨by rfl, ?hy37⟩) (by assumption) ?rest37
          case hy37 => (intro wS hSw; (try dsimp only at hSw); go_simp; (try with_reducible rfl))
          (try simp only [Act.put, List.setIfInBounds_toArray, List.set_cons_zero, List.set_cons_succ])
          refine wpAnyH_take (i := 12) (oi := ⟨some 6, _, _, _, _, none⟩) (v := ?v38) rfl (by kernel_rfl) (by kernel_rfl) (by kernel_rfl) (fun _ _ _ h => h) (Or.inl ⟨by rfl, ?hy38⟩) (by assumption) ?rest38
          case hy38 => (intro wS hSw; (try dsimp only at hSw); go_simp; (try with_reducible rfl))
          (try simp only [Act.put, List.setIfInBounds_toArray, List.set_cons_zero, List.set_cons_succ])
          refine wpAnyH_done (by kernel_rfl) ?_ _
          go_wp2
          go_ret
          exact ⟨rfl, (f10'.trans f12).below⟩
end Go.Proofs.Ytihofmmbdedhbaa
