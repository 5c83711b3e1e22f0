/-
  Layer 9: a cell read by the document's own source.
-/
import Derived.Test.YtkmgplgokhjmjaaCell4
namespace Go.Proofs.Ytkmgplgokhjmjaa
set_option linter.unusedVariables false
set_option linter.unusedSimpArgs false
set_option maxRecDepth 100000
open Go.RowKit

/-- what the document's Take has read, ahead of its test -/
def rdR (ty : Int) (l : List UInt8) : Cl × List UInt8 × Bool :=
  if mostV l 1 = 0 then (⟨true, 0, []⟩, mostR l 1, mostB l 1)
  else if ty = 3 then (⟨false, 0, txtT (mostR l 1) 40⟩, txtR (mostR l 1) 40, txtB (mostR l 1) 40)
  else (⟨false, unzig (fstN (mostR l 1)), []⟩, rest (mostR l 1), fell (mostR l 1))
theorem rdR_null {ty : Int} {l : List UInt8} (h : mostV l 1 = 0) : rdR ty l = (⟨true, 0, []⟩, mostR l 1, mostB l 1) := by unfold rdR; rw [if_pos h]
theorem rdR_txt {l : List UInt8} (h : ¬ mostV l 1 = 0) : rdR 3 l = (⟨false, 0, txtT (mostR l 1) 40⟩, txtR (mostR l 1) 40, txtB (mostR l 1) 40) := by unfold rdR; rw [if_neg h, if_pos rfl]
theorem rdR_num {ty : Int} {l : List UInt8} (h : ¬ mostV l 1 = 0) (h3 : ¬ ty = 3) : rdR ty l = (⟨false, unzig (fstN (mostR l 1)), []⟩, rest (mostR l 1), fell (mostR l 1)) := by unfold rdR; rw [if_neg h, if_neg h3]
theorem tkC_R (ty : Int) (l : List UInt8) : tkC ty l = if (rdR ty l).2.2 = false ∧ mayC ty true (rdR ty l).1 = true then rdR ty l else (⟨false, 0, []⟩, [], true) := by
  have e : (ty = 1 ∨ ty = 2 ∨ ty = 3) ∨ ¬ (ty = 1 ∨ ty = 2 ∨ ty = 3) := by omega
  rcases e with e | e
  · have h : rdC ty l = rdR ty l := by
      unfold rdC rdR
      rcases e with e | e | e <;> subst e <;> simp
    unfold tkC; rw [h]
  · have h1 : ∀ c, mayC ty true c = false := fun c => mayC_no (by omega) (by omega) (by omega) true c
    unfold tkC
    rw [h1, h1]; simp
theorem mostV_sm (l : List UInt8) (m : Int) (hm : 0 ≤ m) : (mostV l m : Int) ≤ m := by
  unfold mostV
  split
  · rename_i h
    unfold mostOk at h
    simpa using (of_decide_eq_true h).2
  · simpa using hm
theorem mostR_sm (l : List UInt8) (m : Int) : (mostR l m).length ≤ l.length := by
  unfold mostR
  split
  · exact rest_le l
  · simp

theorem SAt.lt {w : World} {g : Nat} {S : Nat → Prop} {l : List UInt8} {bad : Bool} (h : SAt w g S l bad) : g < w.heap.size := by
  obtain ⟨v, h1, _⟩ := h; exact h1.lt
theorem SAt.non {w w' : World} {g : Nat} {S : Nat → Prop} {l : List UInt8} {bad : Bool} (h : SAt w g S l bad) (hf : Fr Non w w') : SAt w' g S l bad := h.fr hf (fun e => e) (fun _ e => e.elim)
/-- a cell stored whole in a block that was made behind the source's -/
theorem SAt.setCl {w : World} {g R : Nat} {S : Nat → Prop} {l : List UInt8} {bad : Bool} (h : SAt w g S l bad) (hn : g ≠ R) (hB : ∀ v, Blk w g 36 #[v, .bool bad] → ∀ k, v.ownBlock = some k → k ≠ R) (n : Bool) (i : Int) (t : List UInt8) : SAt (setCl w R n i t) g S l bad := by
  obtain ⟨v, h1, h2, h3, h4, h5⟩ := h
  exact ⟨v, h1.fr (setCl_fr _ _ _ _ _) (fun e => hn e), h2.fr (setCl_fr _ _ _ _ _) (fun k hk e => hB v h1 k hk e), h3, h4, h5⟩

set_option maxHeartbeats 4000000 in
theorem rctake_any (g : Nat) (S : Nat → Prop) (l : List UInt8) (bad : Bool) (ty : Int) (w : World) (h : SAt w g S l bad) (hl : l.length < 1000000000) (hS : ∀ k, w.heap.size ≤ k → S k) :
    Calls Try.prog 18 #[ptr g, .int .i64 ty] w fun e w' => e = .returned (clV (tkC ty l).1) ∧ SAt w' g S (tkC ty l).2.1 (tkC ty l).2.2 ∧ Fr (One g) w w' := by
  have hg := h.lt
  have hB0 := cl_new w ⟨false, 0, []⟩
  have f0 : Fr Non w (w.alloc (.cells #[.bool false, .int .i64 0, .string ⟨([] : List UInt8).toArray⟩] 23)) := (Fr.refl _ _).alloc _
  have h0 := rbelow_any g S l bad 2 _ (h.non f0) hl (by omega)
  rw [show (2 : Int) - 1 = 1 by rfl] at h0
  have hk1 := mostV_sm l 1 (by omega)
  have hrl := mostR_sm l 1
  generalize hRr : w.heap.size = R at *
  have hgw : R ≠ g := by omega
  have hR : R ≤ R := Nat.le_refl R
  have hSR := hS R hR
  have key : ∀ (k : Nat), mostV l 1 = k → Calls Try.prog 18 #[ptr g, .int .i64 ty] w fun e w' => e = .returned (clV (tkC ty l).1) ∧ SAt w' g S (tkC ty l).2.1 (tkC ty l).2.2 ∧ Fr (One g) w w' := by
    intro k hk
    rw [hk] at h0 hk1
    by_cases hk0 : k = 0
    · subst hk0
      have HT := Lib.hid (tkC_R ty l)
      have hT := HT.out
      rw [rdR_null hk] at hT
      clear hk hk1
      have HY : Hid _ := Lib.hid (fun (h1 : mostB l 1 = false) (h2 : mayC ty true ⟨true, 0, []⟩ = true) => hT.trans (if_pos ⟨h1, h2⟩))
      have HN1 : Hid _ := Lib.hid (fun (h1 : mostB l 1 = true) => hT.trans (if_neg (by rw [h1]; simp)))
      have HN2 : Hid _ := Lib.hid (fun (h1 : mayC ty true ⟨true, 0, []⟩ = false) => hT.trans (if_neg (by simp only [h1]; simp)))
      have hm := fun W => rmay_any ty true ⟨true, 0, []⟩ W
      unfold clV clC at hm
      dsimp only at hm
      clear hT HT
      go_enter Try.func18, Try.ntmps18
      go_wp2_with fail
      refine h0.mono ?_
      rintro e w1 ⟨rfl, s1, f1⟩
      have hB1 : ClB w1 R _ := hB0.fr f1 (fun e => hgw e)
      have hR1 := hB1.lt
      have f2 := (Fr.refl Non w1).alloc (.cells #[.bool true, .int .i64 0, .string ⟨([] : List UInt8).toArray⟩] 23)
      have hC := cl_new w1 ⟨true, 0, []⟩
      have hB : ClB _ R _ := hB1.fr f2 (fun e => e)
      have s4 := s1.non f2
      have F4 := (f0.any.trans f1).then f2
      generalize hR2 : w1.heap.size = R2 at *
      clear h0 hB0 hB1 f1 f2 s1 f0
      generalize mostR l 1 = r at *
      generalize mostB l 1 = b at *
      cases b
      · cases hmc : mayC ty true ⟨true, 0, []⟩
        · rw [hmc] at hm
          have HE := Lib.hid (HN2.out hmc)
          clear hmc
          obtain ⟨A4, q4, p0, p1, p2, _⟩ := s4.cells
          obtain ⟨d0, d1, d2, _, _, _⟩ := hC.facts
          dsimp only at d0 d1 d2
          go_wp2_with fail
          refine (hm _).mono ?_
          rintro e w5 ⟨rfl, f5⟩
          go_wp2_with fail
          refine (rfail_any g S _ _ w5 (s4.non f5)).mono ?_
          rintro e w6 ⟨rfl, s6, f6⟩
          have hB6 : ClB w6 R _ := (hB.fr f5 (fun e => e)).fr f6 (fun e => hgw e)
          obtain ⟨c0, c1, c2, z0, z1, z2⟩ := hB6.facts
          dsimp only at c0 c1 c2
          have HB := Lib.hid hB6
          have HF := Lib.hid ((F4.then f5).trans f6)
          have HS := Lib.hid s6
          clear hB hB6 f5 f6 s4 s6 F4 hC
          go_wp2
          exact bodyPost_ret (v := clV ⟨false, 0, []⟩) (ret_cl (p := 4) rfl _ _ R ⟨false, 0, []⟩ rfl (setCl_B HB.out false 0 [])) rfl ⟨by rw [HE.out], by rw [HE.out]; exact HS.out.fr (setCl_fr _ _ _ _ _) (fun e => hgw (Eq.symm e)) (fun k e => by rw [show k = R from e]; exact hSR), HF.out.fresh (setCl_fr _ _ _ _ _) (fun k e => by rw [show k = R from e]; omega)⟩
        · rw [hmc] at hm
          have HE := Lib.hid (HY.out rfl hmc)
          clear hmc
          obtain ⟨A4, q4, p0, p1, p2, _⟩ := s4.cells
          obtain ⟨d0, d1, d2, _, _, _⟩ := hC.facts
          dsimp only at d0 d1 d2
          go_wp2_with fail
          refine (hm _).mono ?_
          rintro e w5 ⟨rfl, f5⟩
          have hB5 : ClB w5 R _ := hB.fr f5 (fun e => e)
          obtain ⟨c0, c1, c2, z0, z1, z2⟩ := hB5.facts
          have hC5 : ClB w5 R2 _ := hC.fr f5 (fun e => e)
          clear d0 d1 d2
          obtain ⟨d0, d1, d2, _, _, _⟩ := hC5.facts
          dsimp only at c0 c1 c2 d0 d1 d2
          have HB := Lib.hid hB5
          have HF := Lib.hid (F4.then f5)
          have HS := Lib.hid (s4.non f5)
          clear hB hB5 f5 s4 F4 hC hC5
          go_wp2
          exact bodyPost_ret (v := clV ⟨true, 0, []⟩) (ret_cl (p := 4) rfl _ _ R ⟨true, 0, []⟩ rfl (setCl_B HB.out true 0 [])) rfl ⟨by rw [HE.out], by rw [HE.out]; exact HS.out.fr (setCl_fr _ _ _ _ _) (fun e => hgw (Eq.symm e)) (fun k e => by rw [show k = R from e]; exact hSR), HF.out.fresh (setCl_fr _ _ _ _ _) (fun k e => by rw [show k = R from e]; omega)⟩
      · have HE := Lib.hid (HN1.out rfl)
        obtain ⟨A4, q4, p0, p1, p2, _⟩ := s4.cells
        go_wp2_with fail
        refine (rfail_any g S _ _ _ s4).mono ?_
        rintro e w6 ⟨rfl, s6, f6⟩
        have hB6 : ClB w6 R _ := hB.fr f6 (fun e => hgw e)
        obtain ⟨c0, c1, c2, z0, z1, z2⟩ := hB6.facts
        dsimp only at c0 c1 c2
        have HB := Lib.hid hB6
        have HF := Lib.hid (F4.trans f6)
        have HS := Lib.hid s6
        clear hB hB6 f6 s4 s6 F4 hC
        go_wp2
        exact bodyPost_ret (v := clV ⟨false, 0, []⟩) (ret_cl (p := 4) rfl _ _ R ⟨false, 0, []⟩ rfl (setCl_B HB.out false 0 [])) rfl ⟨by rw [HE.out], by rw [HE.out]; exact HS.out.fr (setCl_fr _ _ _ _ _) (fun e => hgw (Eq.symm e)) (fun k e => by rw [show k = R from e]; exact hSR), HF.out.fresh (setCl_fr _ _ _ _ _) (fun k e => by rw [show k = R from e]; omega)⟩
    · obtain rfl : k = 1 := by omega
      have hk2 : ¬ mostV l 1 = 0 := by rw [hk]; decide
      by_cases h3 : ty = 3
      · subst h3
        have HT := Lib.hid (tkC_R 3 l)
        have hT := HT.out
        rw [rdR_txt hk2] at hT
        clear hk hk1 hk2 hk0
        have HY : Hid _ := Lib.hid (fun (h1 : txtB (mostR l 1) 40 = false) (h2 : mayC 3 true ⟨false, 0, txtT (mostR l 1) 40⟩ = true) => hT.trans (if_pos ⟨h1, h2⟩))
        have HN1 : Hid _ := Lib.hid (fun (h1 : txtB (mostR l 1) 40 = true) => hT.trans (if_neg (by rw [h1]; simp)))
        have HN2 : Hid _ := Lib.hid (fun (h1 : mayC 3 true ⟨false, 0, txtT (mostR l 1) 40⟩ = false) => hT.trans (if_neg (by simp only [h1]; simp)))
        have hm := fun W => rmay_any 3 true ⟨false, 0, txtT (mostR l 1) 40⟩ W
        unfold clV clC at hm
        dsimp only at hm
        clear hT HT
        go_enter Try.func18, Try.ntmps18
        go_wp2_with fail
        refine h0.mono ?_
        rintro e w1 ⟨rfl, s1, f1⟩
        have hB1 : ClB w1 R _ := hB0.fr f1 (fun e => hgw e)
        have hR1 := hB1.lt
        have f2 := (Fr.refl Non w1).alloc (.cells #[.bool false, .int .i64 0, .string ⟨([] : List UInt8).toArray⟩] 23)
        have hC2 := cl_new w1 ⟨false, 0, []⟩
        have hB2 : ClB _ R _ := hB1.fr f2 (fun e => e)
        have s2 := s1.non f2
        have F2 := (f0.any.trans f1).then f2
        have hg1 := s1.lt
        go_wp2_with fail
        refine (rstext_any g S _ _ 40 _ s2 (by omega) (by omega)).mono ?_
        rintro e w3 ⟨rfl, s3, f3⟩
        have hC3 : ClB w3 w1.heap.size _ := hC2.fr f3 (fun e => by have : w1.heap.size = g := e; omega)
        have hB3 : ClB w3 R _ := hB2.fr f3 (fun e => hgw e)
        obtain ⟨d0, d1, d2, y0, y1, y2⟩ := hC3.facts
        dsimp only at d0 d1 d2
        generalize txtT (mostR l 1) 40 = t at *
        generalize txtR (mostR l 1) 40 = r at *
        generalize txtB (mostR l 1) 40 = b at *
        have f4 := (Fr.refl (One w1.heap.size) w3).set1 2 (.string ⟨t.toArray⟩)
        have hC : ClB _ w1.heap.size ⟨false, 0, t⟩ := hC3.set 2 (.string ⟨t.toArray⟩)
        have hB : ClB _ R _ := hB3.fr f4 (fun e => by have : R = w1.heap.size := e; omega)
        have s4 := s3.fr f4 (fun e => by have : g = w1.heap.size := e; omega) (fun k e => by rw [show k = w1.heap.size from e]; exact hS _ (by omega))
        have F4 := (F2.trans f3).fresh f4 (fun k e => by rw [show k = w1.heap.size from e]; omega)
        generalize hR2 : w1.heap.size = R2 at *
        clear h0 hB0 hB1 f1 f2 s1 f0 hC2 hB2 s2 F2 f3 hC3 hB3 f4 s3
        cases b
        · cases hmc : mayC 3 true ⟨false, 0, t⟩
          · rw [hmc] at hm
            have HE := Lib.hid (HN2.out hmc)
            clear hmc
            obtain ⟨A4, q4, p0, p1, p2, _⟩ := s4.cells
            obtain ⟨d0, d1, d2, _, _, _⟩ := hC.facts
            dsimp only at d0 d1 d2
            go_wp2_with fail
            refine (hm _).mono ?_
            rintro e w5 ⟨rfl, f5⟩
            go_wp2_with fail
            refine (rfail_any g S _ _ w5 (s4.non f5)).mono ?_
            rintro e w6 ⟨rfl, s6, f6⟩
            have hB6 : ClB w6 R _ := (hB.fr f5 (fun e => e)).fr f6 (fun e => hgw e)
            obtain ⟨c0, c1, c2, z0, z1, z2⟩ := hB6.facts
            dsimp only at c0 c1 c2
            have HB := Lib.hid hB6
            have HF := Lib.hid ((F4.then f5).trans f6)
            have HS := Lib.hid s6
            clear hB hB6 f5 f6 s4 s6 F4 hC
            go_wp2
            exact bodyPost_ret (v := clV ⟨false, 0, []⟩) (ret_cl (p := 4) rfl _ _ R ⟨false, 0, []⟩ rfl (setCl_B HB.out false 0 [])) rfl ⟨by rw [HE.out], by rw [HE.out]; exact HS.out.fr (setCl_fr _ _ _ _ _) (fun e => hgw (Eq.symm e)) (fun k e => by rw [show k = R from e]; exact hSR), HF.out.fresh (setCl_fr _ _ _ _ _) (fun k e => by rw [show k = R from e]; omega)⟩
          · rw [hmc] at hm
            have HE := Lib.hid (HY.out rfl hmc)
            clear hmc
            obtain ⟨A4, q4, p0, p1, p2, _⟩ := s4.cells
            obtain ⟨d0, d1, d2, _, _, _⟩ := hC.facts
            dsimp only at d0 d1 d2
            go_wp2_with fail
            refine (hm _).mono ?_
            rintro e w5 ⟨rfl, f5⟩
            have hB5 : ClB w5 R _ := hB.fr f5 (fun e => e)
            obtain ⟨c0, c1, c2, z0, z1, z2⟩ := hB5.facts
            have hC5 : ClB w5 R2 _ := hC.fr f5 (fun e => e)
            clear d0 d1 d2
            obtain ⟨d0, d1, d2, _, _, _⟩ := hC5.facts
            dsimp only at c0 c1 c2 d0 d1 d2
            have HB := Lib.hid hB5
            have HF := Lib.hid (F4.then f5)
            have HS := Lib.hid (s4.non f5)
            clear hB hB5 f5 s4 F4 hC hC5
            go_wp2
            exact bodyPost_ret (v := clV ⟨false, 0, t⟩) (ret_cl (p := 4) rfl _ _ R ⟨false, 0, t⟩ rfl (setCl_B HB.out false 0 t)) rfl ⟨by rw [HE.out], by rw [HE.out]; exact HS.out.fr (setCl_fr _ _ _ _ _) (fun e => hgw (Eq.symm e)) (fun k e => by rw [show k = R from e]; exact hSR), HF.out.fresh (setCl_fr _ _ _ _ _) (fun k e => by rw [show k = R from e]; omega)⟩
        · have HE := Lib.hid (HN1.out rfl)
          obtain ⟨A4, q4, p0, p1, p2, _⟩ := s4.cells
          go_wp2_with fail
          refine (rfail_any g S _ _ _ s4).mono ?_
          rintro e w6 ⟨rfl, s6, f6⟩
          have hB6 : ClB w6 R _ := hB.fr f6 (fun e => hgw e)
          obtain ⟨c0, c1, c2, z0, z1, z2⟩ := hB6.facts
          dsimp only at c0 c1 c2
          have HB := Lib.hid hB6
          have HF := Lib.hid (F4.trans f6)
          have HS := Lib.hid s6
          clear hB hB6 f6 s4 s6 F4 hC
          go_wp2
          exact bodyPost_ret (v := clV ⟨false, 0, []⟩) (ret_cl (p := 4) rfl _ _ R ⟨false, 0, []⟩ rfl (setCl_B HB.out false 0 [])) rfl ⟨by rw [HE.out], by rw [HE.out]; exact HS.out.fr (setCl_fr _ _ _ _ _) (fun e => hgw (Eq.symm e)) (fun k e => by rw [show k = R from e]; exact hSR), HF.out.fresh (setCl_fr _ _ _ _ _) (fun k e => by rw [show k = R from e]; omega)⟩
      · have HT := Lib.hid (tkC_R ty l)
        have hT := HT.out
        rw [rdR_num hk2 h3] at hT
        clear hk hk1 hk2 hk0
        have HY : Hid _ := Lib.hid (fun (h1 : fell (mostR l 1) = false) (h2 : mayC ty true ⟨false, unzig (fstN (mostR l 1)), []⟩ = true) => hT.trans (if_pos ⟨h1, h2⟩))
        have HN1 : Hid _ := Lib.hid (fun (h1 : fell (mostR l 1) = true) => hT.trans (if_neg (by rw [h1]; simp)))
        have HN2 : Hid _ := Lib.hid (fun (h1 : mayC ty true ⟨false, unzig (fstN (mostR l 1)), []⟩ = false) => hT.trans (if_neg (by simp only [h1]; simp)))
        have hm := fun W => rmay_any ty true ⟨false, unzig (fstN (mostR l 1)), []⟩ W
        unfold clV clC at hm
        dsimp only at hm
        clear hT HT
        go_enter Try.func18, Try.ntmps18
        go_wp2_with fail
        refine h0.mono ?_
        rintro e w1 ⟨rfl, s1, f1⟩
        have hB1 : ClB w1 R _ := hB0.fr f1 (fun e => hgw e)
        have hR1 := hB1.lt
        have f2 := (Fr.refl Non w1).alloc (.cells #[.bool false, .int .i64 0, .string ⟨([] : List UInt8).toArray⟩] 23)
        have hC2 := cl_new w1 ⟨false, 0, []⟩
        have hB2 : ClB _ R _ := hB1.fr f2 (fun e => e)
        have s2 := s1.non f2
        have F2 := (f0.any.trans f1).then f2
        have hg1 := s1.lt
        go_wp2_with fail
        refine (rsint_any g S _ _ _ s2 (by omega)).mono ?_
        rintro e w3 ⟨rfl, s3, f3⟩
        have hC3 : ClB w3 w1.heap.size _ := hC2.fr f3 (fun e => by have : w1.heap.size = g := e; omega)
        have hB3 : ClB w3 R _ := hB2.fr f3 (fun e => hgw e)
        obtain ⟨d0, d1, d2, y0, y1, y2⟩ := hC3.facts
        dsimp only at d0 d1 d2
        generalize unzig (fstN (mostR l 1)) = i at *
        generalize rest (mostR l 1) = r at *
        generalize fell (mostR l 1) = b at *
        have f4 := (Fr.refl (One w1.heap.size) w3).set1 1 (.int .i64 i)
        have hC : ClB _ w1.heap.size ⟨false, i, []⟩ := hC3.set 1 (.int .i64 i)
        have hB : ClB _ R _ := hB3.fr f4 (fun e => by have : R = w1.heap.size := e; omega)
        have s4 := s3.fr f4 (fun e => by have : g = w1.heap.size := e; omega) (fun k e => by rw [show k = w1.heap.size from e]; exact hS _ (by omega))
        have F4 := (F2.trans f3).fresh f4 (fun k e => by rw [show k = w1.heap.size from e]; omega)
        generalize hR2 : w1.heap.size = R2 at *
        clear h0 hB0 hB1 f1 f2 s1 f0 hC2 hB2 s2 F2 f3 hC3 hB3 f4 s3
        cases b
        · cases hmc : mayC ty true ⟨false, i, []⟩
          · rw [hmc] at hm
            have HE := Lib.hid (HN2.out hmc)
            clear hmc
            obtain ⟨A4, q4, p0, p1, p2, _⟩ := s4.cells
            obtain ⟨d0, d1, d2, _, _, _⟩ := hC.facts
            dsimp only at d0 d1 d2
            go_wp2_with fail
            refine (hm _).mono ?_
            rintro e w5 ⟨rfl, f5⟩
            go_wp2_with fail
            refine (rfail_any g S _ _ w5 (s4.non f5)).mono ?_
            rintro e w6 ⟨rfl, s6, f6⟩
            have hB6 : ClB w6 R _ := (hB.fr f5 (fun e => e)).fr f6 (fun e => hgw e)
            obtain ⟨c0, c1, c2, z0, z1, z2⟩ := hB6.facts
            dsimp only at c0 c1 c2
            have HB := Lib.hid hB6
            have HF := Lib.hid ((F4.then f5).trans f6)
            have HS := Lib.hid s6
            clear hB hB6 f5 f6 s4 s6 F4 hC
            go_wp2
            exact bodyPost_ret (v := clV ⟨false, 0, []⟩) (ret_cl (p := 4) rfl _ _ R ⟨false, 0, []⟩ rfl (setCl_B HB.out false 0 [])) rfl ⟨by rw [HE.out], by rw [HE.out]; exact HS.out.fr (setCl_fr _ _ _ _ _) (fun e => hgw (Eq.symm e)) (fun k e => by rw [show k = R from e]; exact hSR), HF.out.fresh (setCl_fr _ _ _ _ _) (fun k e => by rw [show k = R from e]; omega)⟩
          · rw [hmc] at hm
            have HE := Lib.hid (HY.out rfl hmc)
            clear hmc
            obtain ⟨A4, q4, p0, p1, p2, _⟩ := s4.cells
            obtain ⟨d0, d1, d2, _, _, _⟩ := hC.facts
            dsimp only at d0 d1 d2
            go_wp2_with fail
            refine (hm _).mono ?_
            rintro e w5 ⟨rfl, f5⟩
            have hB5 : ClB w5 R _ := hB.fr f5 (fun e => e)
            obtain ⟨c0, c1, c2, z0, z1, z2⟩ := hB5.facts
            have hC5 : ClB w5 R2 _ := hC.fr f5 (fun e => e)
            clear d0 d1 d2
            obtain ⟨d0, d1, d2, _, _, _⟩ := hC5.facts
            dsimp only at c0 c1 c2 d0 d1 d2
            have HB := Lib.hid hB5
            have HF := Lib.hid (F4.then f5)
            have HS := Lib.hid (s4.non f5)
            clear hB hB5 f5 s4 F4 hC hC5
            go_wp2
            exact bodyPost_ret (v := clV ⟨false, i, []⟩) (ret_cl (p := 4) rfl _ _ R ⟨false, i, []⟩ rfl (setCl_B HB.out false i [])) rfl ⟨by rw [HE.out], by rw [HE.out]; exact HS.out.fr (setCl_fr _ _ _ _ _) (fun e => hgw (Eq.symm e)) (fun k e => by rw [show k = R from e]; exact hSR), HF.out.fresh (setCl_fr _ _ _ _ _) (fun k e => by rw [show k = R from e]; omega)⟩
        · have HE := Lib.hid (HN1.out rfl)
          obtain ⟨A4, q4, p0, p1, p2, _⟩ := s4.cells
          go_wp2_with fail
          refine (rfail_any g S _ _ _ s4).mono ?_
          rintro e w6 ⟨rfl, s6, f6⟩
          have hB6 : ClB w6 R _ := hB.fr f6 (fun e => hgw e)
          obtain ⟨c0, c1, c2, z0, z1, z2⟩ := hB6.facts
          dsimp only at c0 c1 c2
          have HB := Lib.hid hB6
          have HF := Lib.hid (F4.trans f6)
          have HS := Lib.hid s6
          clear hB hB6 f6 s4 s6 F4 hC
          go_wp2
          exact bodyPost_ret (v := clV ⟨false, 0, []⟩) (ret_cl (p := 4) rfl _ _ R ⟨false, 0, []⟩ rfl (setCl_B HB.out false 0 [])) rfl ⟨by rw [HE.out], by rw [HE.out]; exact HS.out.fr (setCl_fr _ _ _ _ _) (fun e => hgw (Eq.symm e)) (fun k e => by rw [show k = R from e]; exact hSR), HF.out.fresh (setCl_fr _ _ _ _ _) (fun k e => by rw [show k = R from e]; omega)⟩
  exact key _ rfl
end Go.Proofs.Ytkmgplgokhjmjaa
