/-
  Joined: Layer 19: the document's reader: an aggregate. · A region that draws, walked by hand: what all steps keep but the last one, which waits for all that reads. · Layer 19: the document's reader: what is asked for. · Layer 16: the document's quoted, mark. · Layer 16: the first word (the document's). · Layer 16: all the words of a text (the document's).
-/
import Derived.Deep.Slices
import Derived.Laws.StructEq
import Derived.Laws.Rows
import Derived.Laws.ResultCell
import Derived.Lib.Zigzag
import Derived.Laws.Cover1
import Derived.Deep.QuietTactic
import Derived.BigQuiet
import Derived.Deep.RegionHeld3
import Derived.Deep.DrawnRows
import Derived.Test.YtipgaafgnefmdaaGreatDoorZ7
import Derived.Test.YtipgaafgnefmdaaGreatDoorZ4
import Derived.Test.YtipgaafgnefmdaaGreatDoorZ1
import Derived.StillTail
import Derived.Test.YtipgaafgnefmdaaGreatDoorZ5

namespace Go.Proofs.YtipgaafgnefmdaaGreatDoor
set_option linter.unusedVariables false
set_option linter.unusedSimpArgs false
set_option maxRecDepth 100000
open Go.RowKit

/-- which aggregate's word is next -/
def agJ (σ : Sg) : Nat := match σ with | .ok r => if (hdT r).kind = 1 then (aggW (hdT r).txt).toNat else 0 | .error _ => 0
theorem agJ_at (σ : Sg) (n : Nat) (h : n < aggsL.length) : isX 1 aggsL[n] σ = decide (agJ σ = n + 1) := by
  have h6 : n < 5 := h
  cases σ with
  | error z => unfold isX agJ; simp
  | ok r =>
    unfold isX isK agJ
    dsimp only
    by_cases hk : (hdT r).kind = 1
    · simp only [hk, decide_true, Bool.true_and, if_true]
      generalize (hdT r).txt = t
      have : n = 0 ∨ n = 1 ∨ n = 2 ∨ n = 3 ∨ n = 4 := by omega
      unfold aggW
      by_cases t1 : t = [99, 111, 117, 110, 116]
      · subst t1; rcases this with rfl | rfl | rfl | rfl | rfl <;> rfl
      · by_cases t2 : t = [104, 97, 115]
        · subst t2; rcases this with rfl | rfl | rfl | rfl | rfl <;> rfl
        · by_cases t3 : t = [115, 117, 109]
          · subst t3; rcases this with rfl | rfl | rfl | rfl | rfl <;> rfl
          · by_cases t4 : t = [109, 105, 110]
            · subst t4; rcases this with rfl | rfl | rfl | rfl | rfl <;> rfl
            · by_cases t5 : t = [109, 97, 120]
              · subst t5; rcases this with rfl | rfl | rfl | rfl | rfl <;> rfl
              · rcases this with rfl | rfl | rfl | rfl | rfl <;> simp [aggsL, t1, t2, t3, t4, t5]
    · simp [hk]
theorem agJ_le (σ : Sg) : agJ σ ≤ 5 := by
  unfold agJ aggW
  repeat' split
  all_goals decide
theorem agg_none {σ : Sg} (hj : agJ σ = 0) : dropV (onS σ aggK) = onM σ errK ∧ ∀ b r, onS σ aggK = .ok (b, r) → (⟨0, []⟩ : Ag) = b := by
  cases σ with
  | error z => exact ⟨rfl, fun b r e => by cases e⟩
  | ok l =>
    have e : aggK l = errK l := by
      rw [aggK_is, if_neg]
      rintro ⟨hk, hs⟩
      unfold agJ at hj
      dsimp only at hj
      rw [if_pos hk] at hj
      revert hs hj
      unfold aggW
      repeat' split
      all_goals simp
    unfold onS onM
    dsimp only
    rw [e]
    exact ⟨rfl, fun b r e => by cases e⟩
theorem agg_some {σ : Sg} (hj : agJ σ ≠ 0) : onS σ aggK = onS (.ok (tailX σ)) (aggK2 (agJ σ : Int)) := by
  cases σ with
  | error z => exact absurd rfl hj
  | ok l =>
    have hk : (hdT l).kind = 1 := by
      unfold agJ at hj
      dsimp only at hj
      by_cases h : (hdT l).kind = 1
      · exact h
      · rw [if_neg h] at hj; exact absurd rfl hj
    have hs : 0 ≤ aggW (hdT l).txt := by unfold aggW; repeat' split
                                         all_goals decide
    have he : (agJ (.ok l) : Int) = aggW (hdT l).txt := by unfold agJ; dsimp only; rw [if_pos hk]; omega
    unfold onS tailX
    dsimp only
    rw [aggK_is, if_pos ⟨hk, by omega⟩, he]
/-- how the loop over the words stands -/
def AgI (σ : Sg) (n : Nat) (σ' : Sg) (op : Int) : Prop := ((agJ σ = 0 ∨ n < agJ σ) ∧ σ' = σ ∧ op = 0) ∨ ((1 ≤ agJ σ ∧ agJ σ ≤ n) ∧ σ' = .ok (tailX σ) ∧ op = (agJ σ : Int))
/-- a step of the document's reader, by a function of the reader alone -/
def StepT1 {α : Type} (B g : Nat) (F : Nat) (step : List Tk → Rd α) (Q : Nat → α → World → Value → Prop) : Prop :=
  ∀ W σ, TX B g W σ → Calls Tryz.prog F #[.pointer (some ⟨g, 0, none⟩)] W fun e w' => EndX (TX B g) (onS σ step) (Q W.heap.size) e w' ∧ Fr (One g) W w'
def AgE (a : Ag) (w : World) (v : Value) : Prop := v = agV a
set_option maxHeartbeats 4000000 in
theorem tagg_any (B g : Nat) : StepT1 B g 56 aggK (fun _ => AgE) := by
  intro w σ h
  have HL := Lib.hid h.lt
  have F1 : Fr Non w ((w.alloc (.cells #[.int .i64 0, .string ⟨#[]⟩] 69)).alloc (.cells #[.string ⟨#[99, 111, 117, 110, 116]⟩, .string ⟨#[104, 97, 115]⟩, .string ⟨#[115, 117, 109]⟩, .string ⟨#[109, 105, 110]⟩, .string ⟨#[109, 97, 120]⟩] 9)) := ((Fr.refl Non w).alloc _).alloc _
  have F3 : Fr Non w (((w.alloc (.cells #[.int .i64 0, .string ⟨#[]⟩] 69)).alloc (.cells #[.string ⟨#[99, 111, 117, 110, 116]⟩, .string ⟨#[104, 97, 115]⟩, .string ⟨#[115, 117, 109]⟩, .string ⟨#[109, 105, 110]⟩, .string ⟨#[109, 97, 120]⟩] 9)).alloc (.cells #[.int .i64 0, .string ⟨#[]⟩] 69)) := F1.alloc _
  have VA : Hid (Vs sv (((w.alloc (.cells #[.int .i64 0, .string ⟨#[]⟩] 69)).alloc (.cells #[.string ⟨#[99, 111, 117, 110, 116]⟩, .string ⟨#[104, 97, 115]⟩, .string ⟨#[115, 117, 109]⟩, .string ⟨#[109, 105, 110]⟩, .string ⟨#[109, 97, 120]⟩] 9)).alloc (.cells #[.int .i64 0, .string ⟨#[]⟩] 69)) (.slice (some ⟨w.heap.size + 1, 0, none⟩) 5 5) aggsL) := Lib.hid (by
    have := vs_row (f := sv) (w.alloc (.cells #[.int .i64 0, .string ⟨#[]⟩] 69)) aggsL 9 (0, 0)
    rw [show (w.alloc (.cells #[.int .i64 0, .string ⟨#[]⟩] 69)).heap.size = w.heap.size + 1 by simp] at this
    exact this.non ((Fr.refl Non _).alloc _))
  have HZ4 : Hid (AgB (((w.alloc (.cells #[.int .i64 0, .string ⟨#[]⟩] 69)).alloc (.cells #[.string ⟨#[99, 111, 117, 110, 116]⟩, .string ⟨#[104, 97, 115]⟩, .string ⟨#[115, 117, 109]⟩, .string ⟨#[109, 105, 110]⟩, .string ⟨#[109, 97, 120]⟩] 9)).alloc (.cells #[.int .i64 0, .string ⟨#[]⟩] 69)) w.heap.size ⟨0, []⟩) := Lib.hid ((ag_new w _ ⟨0, []⟩ rfl).fr (((Fr.refl Non _).alloc _).alloc _) (fun e => e))
  have HP4 : Hid (AgB (((w.alloc (.cells #[.int .i64 0, .string ⟨#[]⟩] 69)).alloc (.cells #[.string ⟨#[99, 111, 117, 110, 116]⟩, .string ⟨#[104, 97, 115]⟩, .string ⟨#[115, 117, 109]⟩, .string ⟨#[109, 105, 110]⟩, .string ⟨#[109, 97, 120]⟩] 9)).alloc (.cells #[.int .i64 0, .string ⟨#[]⟩] 69)) (w.heap.size + 2) ⟨0, []⟩) := Lib.hid (ag_new ((w.alloc (.cells #[.int .i64 0, .string ⟨#[]⟩] 69)).alloc (.cells #[.string ⟨#[99, 111, 117, 110, 116]⟩, .string ⟨#[104, 97, 115]⟩, .string ⟨#[115, 117, 109]⟩, .string ⟨#[109, 105, 110]⟩, .string ⟨#[109, 97, 120]⟩] 9)) _ ⟨0, []⟩ (by simp))
  have HT4 := Lib.hid (h.non F3)
  have HF4 : Hid (Fr (One g) w (((w.alloc (.cells #[.int .i64 0, .string ⟨#[]⟩] 69)).alloc (.cells #[.string ⟨#[99, 111, 117, 110, 116]⟩, .string ⟨#[104, 97, 115]⟩, .string ⟨#[115, 117, 109]⟩, .string ⟨#[109, 105, 110]⟩, .string ⟨#[109, 97, 120]⟩] 9)).alloc (.cells #[.int .i64 0, .string ⟨#[]⟩] 69))) := Lib.hid F3.any
  have HE1 := Lib.hid (fun e => agg_none (σ := σ) e)
  have HE2 := Lib.hid (fun e => agg_some (σ := σ) e)
  have HI4 : Hid (AgI σ 0 σ 0) := Lib.hid (.inl ⟨by omega, rfl, rfl⟩)
  clear h F1 F3
  generalize onS σ aggK = X at *
  go_enter Tryz.func56, Tryz.ntmps56
  go_upto_region 3 with fail
  generalize hW : (((w.alloc (.cells #[.int .i64 0, .string ⟨#[]⟩] 69)).alloc (.cells #[.string ⟨#[99, 111, 117, 110, 116]⟩, .string ⟨#[104, 97, 115]⟩, .string ⟨#[115, 117, 109]⟩, .string ⟨#[109, 105, 110]⟩, .string ⟨#[109, 97, 120]⟩] 9)).alloc (.cells #[.int .i64 0, .string ⟨#[]⟩] 69)) = W4 at *
  clear hW
  go_wp2
  go_loopw [5] (fun i wr => ∃ (n : Nat) (σ' : Sg) (op : Int), n ≤ 5 ∧ i = .int .i64 n ∧ Hid (TX B g wr σ') ∧ Hid (AgB wr (w.heap.size + 2) ⟨op, []⟩) ∧ Hid (AgI σ n σ' op) ∧ Hid (Vs sv wr (.slice (some ⟨w.heap.size + 1, 0, none⟩) 5 5) aggsL) ∧ Hid (AgB wr w.heap.size ⟨0, []⟩) ∧ Hid (Fr (One g) w wr)) (fun i _ => 5 - (intOf i).toNat)
  case atStart => exact ⟨0, σ, 0, by omega, rfl, HT4, HP4, HI4, VA, HZ4, HF4⟩
  case round =>
    obtain ⟨n, σ', op, hn5, rfl, HT, HP, HI, HV, HZ, HF⟩ := hrel
    clear HT4 HP4 HI4 VA HZ4 HF4
    by_cases hlt : n < 5
    · obtain ⟨a, ha, -, -, hcell⟩ := HV.out.addr (by omega)
      obtain rfl := Option.some.inj ha
      have e0 := hcell n hlt
      rw [show (⟨w.heap.size + 1, 0, none⟩ : Addr).add n = ⟨w.heap.size + 1, n, none⟩ by simp [Addr.add]; exact fun e => e.symm] at e0
      have IX := Lib.hid (xis_any B g 1 (aggsL[n]'hlt) σ' wr HT.out)
      have HJ : Hid (isX 1 (aggsL[n]'hlt) σ = decide (agJ σ = n + 1)) := Lib.hid (agJ_at σ n hlt)
      clear hcell
      generalize (aggsL[n]'hlt) = s at *
      unfold sv at e0
      obtain ⟨p0, p1⟩ := agB_cells HP.out
      try dsimp only at p0 p1
      rcases HI.out with ⟨h1, rfl, rfl⟩ | ⟨h1, rfl, rfl⟩
      · rw [HJ.out] at IX
        by_cases hj : agJ σ' = n + 1
        · rw [decide_eq_true hj] at IX HJ
          obtain ⟨r, rfl, _⟩ := isX_ok HJ.out
          have TK := Lib.hid (xtake_any B g r wr HT.out)
          have HI2 : Hid (AgI (.ok r) (n + 1) (.ok (tlK r)) ((n : Int) + 1)) := Lib.hid (.inr ⟨⟨by omega, by omega⟩, rfl, by omega⟩)
          clear hj h1 HI HJ
          go_wp2_with fail
          refine IX.out.mono ?_
          rintro e w2 ⟨rfl, rfl⟩
          go_wp2_with fail
          refine TK.out.mono ?_
          rintro e w5 ⟨⟨tv, rfl⟩, hT, hF⟩
          have HP5 := Lib.hid (HP.out.fr hF (fun e => by have : w.heap.size + 2 = g := e; have := HL.out; omega))
          have FS := ((Fr.refl (One (w.heap.size + 2)) w5).set1 0 (.int .i64 ((n : Int) + 1)))
          have T6 := Lib.hid (hT.fresh FS (fun k e => by have : k = w.heap.size + 2 := e; have := HL.out; omega))
          have P6 : Hid (AgB (w5.setCell ⟨w.heap.size + 2, 0, none⟩ (.int .i64 ((n : Int) + 1))) (w.heap.size + 2) ⟨(n : Int) + 1, []⟩) := Lib.hid (HP5.out.set 0 (.int .i64 ((n : Int) + 1)))
          have V6 := Lib.hid ((HV.out.fr hF (fun b hb e => by have e1 : w.heap.size + 1 = b := by simpa [Value.ownBlock] using hb
                                                              have : b = g := e; have := HL.out; omega)).fr FS (fun b hb e => by
            have e1 : w.heap.size + 1 = b := by simpa [Value.ownBlock] using hb
            have : b = w.heap.size + 2 := e; omega))
          have Z6 := Lib.hid ((HZ.out.fr hF (fun e => by have : w.heap.size = g := e; have := HL.out; omega)).fr FS (fun e => by have : w.heap.size = w.heap.size + 2 := e; omega))
          have F6 := Lib.hid ((HF.out.trans hF).fresh FS (fun k e => by have : k = w.heap.size + 2 := e; omega))
          have q0 := HP5.out.frozen 0
          clear p0 p1 e0
          have p0 := (agB_cells HP5.out).1
          try dsimp only at p0
          clear hT hF FS IX TK HT HP HV HZ HF HP5
          go_wp2
          go_roundw
          case rel => exact ⟨n + 1, _, (n : Int) + 1, by omega, by go_num, T6, P6, HI2, V6, Z6, F6⟩
          case measure => simp [intOf]; omega
        · rw [decide_eq_false hj] at IX
          have HI2 : Hid (AgI σ' (n + 1) σ' 0) := Lib.hid (.inl ⟨by omega, rfl, rfl⟩)
          clear hj h1 HI HJ
          go_wp2_with fail
          refine IX.out.mono ?_
          rintro e w2 ⟨rfl, rfl⟩
          clear IX
          go_wp2
          go_roundw
          case rel => exact ⟨n + 1, _, 0, by omega, by go_num, HT, HP, HI2, HV, HZ, HF⟩
          case measure => simp [intOf]; omega
      · have HI2 : Hid (AgI σ (n + 1) (.ok (tailX σ)) (agJ σ : Int)) := Lib.hid (.inr ⟨⟨by omega, by omega⟩, rfl, rfl⟩)
        have hjb : ((agJ σ : Int) == 0) = false := by rw [beq_eq_false_iff_ne]; omega
        clear h1 HI HJ IX
        generalize agJ σ = jj at *
        go_wp2
        go_roundw
        case rel => exact ⟨n + 1, _, _, by omega, by go_num, HT, HP, HI2, HV, HZ, HF⟩
        case measure => simp [intOf]; omega
    · have hn : n = 5 := by omega
      subst hn
      clear hlt hn5 HV
      obtain ⟨p0, p1⟩ := agB_cells HP.out
      try dsimp only at p0 p1
      have HJL := Lib.hid (agJ_le σ)
      rcases HI.out with ⟨h1, rfl, rfl⟩ | ⟨h1, rfl, rfl⟩
      · have HX := Lib.hid (HE1.out (by have := HJL.out; omega))
        have FL := Lib.hid (xfail_any B g σ' wr HT.out)
        clear HE1 HE2 HI h1 HJL
        go_wp2_with fail
        refine FL.out.mono ?_
        rintro e w5 ⟨rfl, hT, hF⟩
        have HP6 := Lib.hid (HP.out.fr hF (fun e => by have : w.heap.size + 2 = g := e; have := HL.out; omega))
        have HZ6 := Lib.hid (HZ.out.fr hF (fun e => by have : w.heap.size = g := e; have := HL.out; omega))
        have E5 := Lib.hid (setAg_B (x := ⟨0, []⟩) HZ6.out ⟨0, []⟩)
        have T5 := Lib.hid (hT.fresh (setAg_fr w5 w.heap.size ⟨0, []⟩) (fun k e => by have : k = w.heap.size := e; have := HL.out; omega))
        have G5 := Lib.hid ((HF.out.trans hF).fresh (setAg_fr w5 w.heap.size ⟨0, []⟩) (fun k e => by have : k = w.heap.size := e; omega))
        clear p0 p1
        obtain ⟨p0, p1⟩ := agB_cells HP6.out
        obtain ⟨r0, r1⟩ := agB_cells HZ6.out
        have f0 := HZ6.out.frozen 0
        have f1 := HZ6.out.frozen 1
        try dsimp only at p0 p1 r0 r1
        clear HP HP6 HZ HZ6 HF HT FL hT hF
        unfold setAg at E5 T5 G5
        dsimp only at E5 T5 G5
        go_wp2
        exact bodyPost_ret (ret_ag (p := 2) rfl _ _ w.heap.size ⟨0, []⟩ rfl E5.out) rfl ⟨⟨⟨0, []⟩, _, rfl, rfl, by rw [HX.out.1]; exact T5.out, HX.out.2⟩, G5.out⟩
      · have HX := Lib.hid (HE2.out (by omega))
        have hjb : ((agJ σ : Int) == 0) = false := by rw [beq_eq_false_iff_ne]; omega
        have hj1 : 1 ≤ agJ σ := h1.1
        clear HE1 HE2 HI h1 HJL
        have ND := Lib.hid (xmust_any B g 4 [40] _ _ HT.out)
        generalize hσ2 : onM (.ok (tailX σ)) (mustK 4 [40]) = σ2 at *
        have HSIG2 := Lib.hid hσ2
        clear hσ2
        generalize agJ σ = jj at *
        go_wp2_with fail
        refine ND.out.mono ?_
        rintro e w3 ⟨rfl, hT, hF⟩
        have HT3 := Lib.hid hT
        have HF3 := Lib.hid (HF.out.trans hF)
        have HZ3 := Lib.hid (HZ.out.fr hF (fun e => by have : w.heap.size = g := e; have := HL.out; omega))
        have HP3 := Lib.hid (HP.out.fr hF (fun e => by have : w.heap.size + 2 = g := e; have := HL.out; omega))
        clear hT hF ND HT HF HZ HP p0 p1
        obtain ⟨p0, p1⟩ := agB_cells HP3.out
        try dsimp only at p0 p1
        by_cases hi : jj = 1
        · subst hi
          obtain ⟨a1, a2⟩ := agg_count (.ok (tailX σ))
          rw [HSIG2.out] at a1
          have A1 := Lib.hid a1
          have A2 := Lib.hid a2
          clear a1 a2 HSIG2 hj1 hjb
          have N2 := Lib.hid (xmust_any B g 4 [42] _ _ HT3.out)
          go_wp2_with fail
          refine N2.out.mono ?_
          rintro e w4 ⟨rfl, hT, hF⟩
          have HT4 := Lib.hid hT
          have HF4 := Lib.hid (HF3.out.trans hF)
          have HZ4 := Lib.hid (HZ3.out.fr hF (fun e => by have : w.heap.size = g := e; have := HL.out; omega))
          have HP4 := Lib.hid (HP3.out.fr hF (fun e => by have : w.heap.size + 2 = g := e; have := HL.out; omega))
          clear hT hF N2 HT3 HF3 HZ3 HP3 p0 p1
          have N3 := Lib.hid (xmust_any B g 4 [41] _ _ HT4.out)
          go_wp2_with fail
          refine N3.out.mono ?_
          rintro e w5 ⟨rfl, hT, hF⟩
          have HT5 := Lib.hid hT
          have HF5 := Lib.hid (HF4.out.trans hF)
          have HZ5 := Lib.hid (HZ4.out.fr hF (fun e => by have : w.heap.size = g := e; have := HL.out; omega))
          have HP5 := Lib.hid (HP4.out.fr hF (fun e => by have : w.heap.size + 2 = g := e; have := HL.out; omega))
          clear hT hF N3 HT4 HF4 HZ4 HP4
          obtain ⟨p0, p1⟩ := agB_cells HP5.out
          obtain ⟨r0, r1⟩ := agB_cells HZ5.out
          have f0 := HZ5.out.frozen 0
          have f1 := HZ5.out.frozen 1
          try dsimp only at p0 p1 r0 r1
          have E5 := Lib.hid (setAg_B (x := ⟨0, []⟩) HZ5.out ⟨1, []⟩)
          have T5 := Lib.hid (HT5.out.fresh (setAg_fr w5 w.heap.size ⟨1, []⟩) (fun k e => by have : k = w.heap.size := e; have := HL.out; omega))
          have G5 := Lib.hid (HF5.out.fresh (setAg_fr w5 w.heap.size ⟨1, []⟩) (fun k e => by have : k = w.heap.size := e; omega))
          clear HT5 HF5 HZ5 HP5
          unfold setAg at E5 T5 G5
          dsimp only at E5 T5 G5
          go_wp2
          exact bodyPost_ret (ret_ag (p := 2) rfl _ _ w.heap.size ⟨1, []⟩ rfl E5.out) rfl ⟨⟨⟨1, []⟩, _, rfl, rfl, by rw [HX.out]; show TX B g _ (dropV (onS (.ok (tailX σ)) (aggK2 1))); rw [A1.out]; exact T5.out, fun b r e => A2.out b r (HX.out.symm.trans e)⟩, G5.out⟩
        · obtain ⟨a1, a2⟩ := agg_other (.ok (tailX σ)) (jj : Int) (by omega)
          rw [HSIG2.out] at a1 a2
          have A1 := Lib.hid a1
          have A2 := Lib.hid a2
          have hib : ((jj : Int) == 1) = false := by rw [beq_eq_false_iff_ne]; omega
          clear a1 a2 HSIG2 hi hj1
          have N2 := Lib.hid (xname_any B g _ _ HT3.out)
          generalize onS σ2 nameK = y at *
          go_wp2_with fail
          refine N2.out.mono ?_
          rintro e w4 ⟨⟨c, v, rfl, rfl, hT, hA⟩, hF⟩
          have A3 := Lib.hid (A2.out c hA)
          have HT4 := Lib.hid hT
          have HF4 := Lib.hid (HF3.out.trans hF)
          have HZ4 := Lib.hid (HZ3.out.fr hF (fun e => by have : w.heap.size = g := e; have := HL.out; omega))
          have HP4 := Lib.hid (HP3.out.fr hF (fun e => by have : w.heap.size + 2 = g := e; have := HL.out; omega))
          clear hT hF hA N2 HT3 HF3 HZ3 HP3 p0 p1 A2
          generalize dropV y = σ3 at *
          clear y
          have FS := Lib.hid ((Fr.refl (One (w.heap.size + 2)) w4).set1 1 (.string ⟨c.toArray⟩))
          have HP5 : Hid (AgB (w4.setCell ⟨w.heap.size + 2, 1, none⟩ (.string ⟨c.toArray⟩)) (w.heap.size + 2) ⟨(jj : Int), c⟩) := Lib.hid (HP4.out.set 1 (.string ⟨c.toArray⟩))
          have HZ5 := Lib.hid (HZ4.out.fr FS.out (fun e => by have : w.heap.size = w.heap.size + 2 := e; omega))
          have HT5 := Lib.hid (HT4.out.fresh FS.out (fun k e => by have : k = w.heap.size + 2 := e; have := HL.out; omega))
          have HF5 := Lib.hid (HF4.out.fresh FS.out (fun k e => by have : k = w.heap.size + 2 := e; omega))
          have p1 := (agB_cells HP4.out).2
          have q1 := HP4.out.frozen 1
          try dsimp only at p1
          clear FS HT4 HF4 HZ4 HP4
          go_upto_region 16 with fail
          clear p1 q1
          generalize w4.setCell ⟨w.heap.size + 2, 1, none⟩ (.string ⟨c.toArray⟩) = W5 at *
          have N3 := Lib.hid (xmust_any B g 4 [41] _ _ HT5.out)
          go_wp2_with fail
          refine N3.out.mono ?_
          rintro e w5 ⟨rfl, hT, hF⟩
          have HT6 := Lib.hid hT
          have HF6 := Lib.hid (HF5.out.trans hF)
          have HZ6 := Lib.hid (HZ5.out.fr hF (fun e => by have : w.heap.size = g := e; have := HL.out; omega))
          have HP6 := Lib.hid (HP5.out.fr hF (fun e => by have : w.heap.size + 2 = g := e; have := HL.out; omega))
          clear hT hF N3 HT5 HF5 HZ5 HP5
          obtain ⟨p0, p1⟩ := agB_cells HP6.out
          obtain ⟨r0, r1⟩ := agB_cells HZ6.out
          have f0 := HZ6.out.frozen 0
          have f1 := HZ6.out.frozen 1
          try dsimp only at p0 p1 r0 r1
          have E5 := Lib.hid (setAg_B (x := ⟨0, []⟩) HZ6.out ⟨(jj : Int), c⟩)
          have T5 := Lib.hid (HT6.out.fresh (setAg_fr w5 w.heap.size ⟨(jj : Int), c⟩) (fun k e => by have : k = w.heap.size := e; have := HL.out; omega))
          have G5 := Lib.hid (HF6.out.fresh (setAg_fr w5 w.heap.size ⟨(jj : Int), c⟩) (fun k e => by have : k = w.heap.size := e; omega))
          clear HT6 HF6 HZ6 HP6
          unfold setAg at E5 T5 G5
          dsimp only at E5 T5 G5
          go_wp2
          exact bodyPost_ret (ret_ag (p := 2) rfl _ _ w.heap.size ⟨(jj : Int), c⟩ rfl E5.out) rfl ⟨⟨⟨(jj : Int), c⟩, _, rfl, rfl, by rw [HX.out, A1.out]; exact T5.out, fun b r e => A3.out b r (by rw [← HX.out]; exact e)⟩, G5.out⟩
end Go.Proofs.YtipgaafgnefmdaaGreatDoor


namespace Go.Proofs.YtipgaafgnefmdaaGreatDoor
set_option linter.unusedVariables false
set_option linter.unusedSimpArgs false
set_option maxRecDepth 100000
open Go.RowKit

section
variable {P : Program} {ops : Array Oper} {Q : Exit → Act → World → Prop} {md : Region.Mode} {S : World → Prop} {last : Nat}
/-- whatever order is picked; S holds behind every operation but 'last' -/
def wpAnyK (P : Program) (md : Region.Mode) (ops : Array Oper) (Q : Exit → Act → World → Prop) (S : World → Prop) (last : Nat) : Nat → Array Bool → Act → World → Prop
  | 0, listed, a, w => Region.ready md ops listed = [] ∧ Q .normal a w
  | fuel + 1, listed, a, w =>
    (Region.ready md ops listed = [] → Q .normal a w) ∧
    ∀ i ∈ Region.ready md ops listed, wpOp P ops Q i (fun a' w' => (i ≠ last → S w') ∧ wpAnyK P md ops Q S last fuel (listed.setIfInBounds i true) a' w') a w
theorem wpAny_of_K : ∀ (fuel : Nat) (listed : Array Bool) (a : Act) (w : World), wpAnyK P md ops Q S last fuel listed a w → wpAny P md ops Q fuel listed a w
  | 0, _, _, _, h => h
  | fuel + 1, _, _, _, h => ⟨h.1, fun i hi => wpOp_mono (fun a' w' h' => wpAny_of_K fuel _ a' w' h'.2) (h.2 i hi)⟩
theorem wpAnyK_first {i : Nat} {oi : Oper} {v : Value} (hi : ops[i]? = some oi) (hsel : ∀ (j : Nat) (o : Oper) cs b, ops[j]? = some o → o.op ≠ .select cs b)
    (hQ : ∀ c a w, Q (.panic c) (a.put oi.dst v) w → Q (.panic c) a w) (hw : Region.waitsFor md ops last i = true) (hl : i ≠ last) :
    ∀ (fuel : Nat) (listed : Array Bool) (a : Act) (w : World),
      (∀ j oj, ops[j]? = some oj → j ≠ i → listed.getD j true = false → (∀ e ∈ oj.after, Region.binds md e = true → e.on ≠ i) → oi.apart ops oj = true) →
      i ∈ Region.ready md ops listed → YieldsIf P ops S oi v a → S w →
      wpAnyK P md ops Q S last fuel (listed.setIfInBounds i true) (a.put oi.dst v) w → wpAnyK P md ops Q S last (fuel + 1) listed a w := by
  intro fuel
  induction fuel with
  | zero =>
    intro listed a w _ hr hy hS H
    refine ⟨fun h => (by rw [h] at hr; cases hr), fun j hj => ?_⟩
    by_cases hji : j = i
    · subst hji; exact hy.wpOp hi hS ⟨fun _ => hS, H⟩
    · have := ready_mono hj hji
      rw [H.1] at this
      cases this
  | succ fuel ih =>
    intro listed a w hfree hr hy hS H
    refine ⟨fun h => (by rw [h] at hr; cases hr), fun j hj => ?_⟩
    by_cases hji : j = i
    · subst hji; exact hy.wpOp hi hS ⟨fun _ => hS, H⟩
    · have h1 := H.2 j (ready_mono hj hji)
      obtain ⟨hjun, oj, hoj, hall⟩ := mem_ready.1 hj
      have hnot : ∀ e ∈ oj.after, Region.binds md e = true → e.on ≠ i := fun e he hb heq => by
        have h1 := hall e he hb
        have h0 := (mem_ready.1 hr).1
        rw [heq] at h1
        rcases Nat.lt_or_ge i listed.size with h' | h'
        · simp [h'] at h0 h1; rw [h0] at h1; cases h1
        · simp [Array.getElem?_eq_none h'] at h1
      have hjl : j ≠ last := by
        intro e
        subst e
        obtain ⟨oj', hj', e, he, hb, hon⟩ := Region.waitsFor_spec hw
        obtain rfl : oj' = oj := Option.some.inj (hj'.symm.trans hoj)
        exact hnot e he hb hon
      have h2 := wpOp_putIf hoj (hfree j oj hoj hji hjun hnot) (fun cs b => hsel i oi cs b hi) (fun cs b => hsel j oj cs b hoj) hQ hy h1
      have hfree' : ∀ k ok, ops[k]? = some ok → k ≠ i → (listed.setIfInBounds j true).getD k true = false →
          (∀ e ∈ ok.after, Region.binds md e = true → e.on ≠ i) → oi.apart ops ok = true := fun k ok hk hki hun hno => by
        refine hfree k ok hk hki ?_ hno
        by_cases hjk : j = k
        · subst hjk; exact hjun
        · rw [getD_set_ne true hjk] at hun; exact hun
      refine wpOp_mono (fun a' w' h3 => ⟨h3.2.1, ih (listed.setIfInBounds j true) a' w' hfree' (ready_mono hr (Ne.symm hji)) h3.1 (h3.2.1 hjl) ?_⟩) h2
      rw [Array.setIfInBounds_comm _ _ hji]
      exact h3.2.2
theorem wpAnyK_take {i : Nat} {oi : Oper} {v : Value} {fuel : Nat} {listed : Array Bool} {a : Act} {w : World} (hi : ops[i]? = some oi)
    (hs : Region.noSelect ops = true) (hf : Region.free md ops listed i = true) (hr : (Region.ready md ops listed).contains i = true)
    (hQ : ∀ c a w, Q (.panic c) (a.put oi.dst v) w → Q (.panic c) a w) (hw : Region.waitsFor md ops last i = true) (hl : i ≠ last) (hy : YieldsIf P ops S oi v a) (hS : S w)
    (h : wpAnyK P md ops Q S last fuel (listed.setIfInBounds i true) (a.put oi.dst v) w) : wpAnyK P md ops Q S last (fuel + 1) listed a w :=
  wpAnyK_first hi (Region.noSelect_spec hs) hQ hw hl fuel listed a w (Region.free_spec hi hf) (by simpa using hr) hy hS h
/-- the only operation that may come up now -/
theorem wpAnyK_one {i : Nat} {o : Oper} {fuel : Nat} {listed : Array Bool} {a : Act} {w : World} (hr : Region.ready md ops listed = [i]) (ho : ops[i]? = some o)
    (h : ∀ K' : Act → World → Prop, Shut (∀ a w, (i ≠ last → S w) → wpAnyK P md ops Q S last fuel (listed.setIfInBounds i true) a w → K' a w) → if Region.wanted o (yielded ops a.tmps) = true then Oper.wp P o a w K' Q else K' (a.put o.dst undef) w) :
    wpAnyK P md ops Q S last (fuel + 1) listed a w := by
  refine ⟨fun h0 => absurd (hr.symm.trans h0) (by simp), fun j hj => ?_⟩
  rw [hr] at hj
  obtain rfl := List.mem_singleton.1 hj
  exact wpOp_step ho (fun K' hK => h K' (fun a w hS hW => hK a w ⟨hS, hW⟩))
theorem wpAnyK_done {listed : Array Bool} {a : Act} {w : World} (hr : Region.ready md ops listed = []) (h : Q .normal a w) : ∀ fuel, wpAnyK P md ops Q S last fuel listed a w
  | 0 => ⟨hr, h⟩
  | _ + 1 => ⟨fun _ => h, by rw [hr]; simp⟩
theorem wp_region_K {id : Nat} {a : Act} {w : World} (S : World → Prop) (last : Nat) (hm : P.follows .mixedOrders = true)
    (h : wpAnyK P .any ops Q S last ops.size (Array.replicate ops.size false) a w.drew) : (Code.region id ops true).wp P Q a w :=
  wp_region_any hm (wpAny_of_K _ _ _ _ h)
end
end Go.Proofs.YtipgaafgnefmdaaGreatDoor


namespace Go.Proofs.YtipgaafgnefmdaaGreatDoor
set_option linter.unusedVariables false
set_option linter.unusedSimpArgs false
set_option maxRecDepth 100000
open Go.RowKit

/-- of the old blocks only these two may have changed -/
def ReQ (g q : Nat) : Nat → Prop := fun k => k = g ∨ k = q
theorem step_appN {α : Type} {f : α → List Value} {k : Nat} {T E : TypeId} {z : Value} {by_ : Nat} (hF : Fd f k) (hE : Eln T E z k by_) {w : World} {ops : Array Oper} {o : Oper} {a : Act} {K : Act → World → Prop} {Q : Exit → Act → World → Prop} {Els : Prop} (hgd : o.guard = none) (s x : Operand)
    (ho : o.op = .call { callee := .builtin .append, args := #[s, x], argTypes := #[T, T] })
    (B : Nat) (v y : Value) (l m : List α) (hs : a.eval s = v) (hown : No f k E w B v l) (hx : a.eval x = y) (hy : Ns f k w y m)
    (hl : l.length + m.length < 68719476736) (hB : B ≤ w.heap.size)
    (h : ∀ v' w', No f k E w' B v' (l ++ m) → Fr (fun b => v.ownBlock = some b) w w' → K (a.put o.dst v') w') : if Region.wanted o (yielded ops a.tmps) = true then Oper.wp Tryz.prog o a w K Q else Els := by
  have hw : Region.wanted o (yielded ops a.tmps) = true := by simp [Region.wanted, hgd]
  rw [if_pos hw]
  exact wp_appN hF hE s x ho B v y l m hs hown hx hy hl hB h
/-- how what ends -/
def WhatE (B g Q : Nat) (W : World) (X : Rd (List Tx × List Ag)) (e : Ending) (w' : World) : Prop :=
  e = .returned (.tuple #[]) ∧ TX B g w' (dropV X) ∧ (∃ c cv gs gv, QB w' Q ⟨[], c, allPd, gs, []⟩ cv noKv gv ∧ IsV X (c, gs) ∧ Vs sv w' cv c ∧ (∀ b, cv.ownBlock = some b → W.heap.size ≤ b) ∧ Gs w' gv gs ∧ (∀ b, gv.ownBlock = some b → W.heap.size ≤ b)) ∧ Fr (ReQ g Q) W w'
theorem set1_frT (w : World) (b i : Nat) (u : Value) : Fr (One b) w (w.setCell ⟨b, i, none⟩ u) := (Fr.refl (One b) w).set1 i u
theorem Fr.two {g q : Nat} {w w' : World} (h : Fr (One g) w w') : Fr (ReQ g q) w w' := h.mono fun k _ e => .inl e
theorem Fr.twoQ {g q : Nat} {w w' : World} (h : Fr (One q) w w') : Fr (ReQ g q) w w' := h.mono fun k _ e => .inr e
theorem eln_ag0 : Eln 29 69 (.agg #[.int .i64 0, .string ⟨#[]⟩]) 2 24 := ⟨Tryz.underlying29, by kernel_rfl, rfl, by decide⟩
set_option maxHeartbeats 4000000 in
theorem twhat_names (B g Q : Nat) (σ : Sg) (w : World) (h : TX B g w σ) (hQ : QB w Q ⟨[], [], allPd, [], []⟩ nilV noKv nilV) (hB : B ≤ Q) (h1 : isX 4 [42] σ = false) (h2 : namedX σ = true) :
    Calls Tryz.prog 23 #[.pointer (some ⟨g, 0, none⟩), .pointer (some ⟨Q, 0, none⟩)] w (WhatE B g Q w (onS σ whatK)) := by
  have HL := Lib.hid h.lt
  have HBQ := Lib.hid hB
  have HQN2 : Hid (¬ w.heap.size ≤ Q) := Lib.hid (by have := hQ.lt; omega)
  have HQ0 := Lib.hid hQ
  have HX : Hid (onS σ whatK = mapR (fun c => (c, ([] : List Ag))) (onS σ (someK 4 [44] nameK))) := Lib.hid (what_names h1 h2)
  have I1 := Lib.hid (xis_any B g 4 [42] σ w h)
  rw [h1] at I1
  have NMD := Lib.hid (xnamed_any B g σ w h)
  rw [h2] at NMD
  have HLV := Lib.hid (fun a ha => lv_start (a := a) (k := 4) (s := [44]) reads_name h.finX ha)
  clear h hQ hB h1 h2
  generalize onS σ whatK = XW at *
  generalize onS σ (someK 4 [44] nameK) = X at *
  have HDX := Lib.hid (drop_mapT (fun c => (c, ([] : List Ag))) X)
  go_enter Tryz.func23, Tryz.ntmps23
  go_wp2_with fail
  refine I1.out.mono ?_
  rintro e wx ⟨rfl, rfl⟩
  clear I1
  go_wp2_with fail
  refine NMD.out.mono ?_
  rintro e w0 ⟨rfl, hT, hF⟩
  have NM0 := Lib.hid (xname_any B g _ _ hT)
  have HF0 := Lib.hid hF
  have HQ1 := Lib.hid (HQ0.out.fr hF (fun e => e))
  clear hT hF NMD HQ0
  generalize onS σ nameK = x0 at *
  go_wp2_with fail
  refine NM0.out.mono ?_
  rintro e w2 ⟨⟨p, v, rfl, rfl, hT, hA⟩, hF⟩
  have LV1 := Lib.hid (HLV.out p hA)
  have HQ2 := Lib.hid (HQ1.out.fr hF (fun e => by have : Q = g := e; have := HL.out; have := HBQ.out; omega))
  have HF2 := Lib.hid (HF0.out.any.trans (Fr.two (q := Q) hF))
  have HSZ2 : w.heap.size ≤ w2.heap.size := HF2.out.size
  have HR3 : Hid (Ow sv 9 (w2.alloc (.cells #[.string ⟨p.toArray⟩] 9)) w.heap.size (.slice (some ⟨w2.heap.size, 0, none⟩) [p].length 1) [p]) := Lib.hid (ow_lit w2 w.heap.size _ [p] #[.string ⟨p.toArray⟩] rfl rfl (by omega) (by simp [maxLen]))
  have FA : Fr Non w2 (w2.alloc (.cells #[.string ⟨p.toArray⟩] 9)) := (Fr.refl Non w2).alloc _
  have HQ3 := Lib.hid (HQ2.out.fr FA (fun e => e))
  have HT3 := Lib.hid (hT.non FA)
  have HF3 := Lib.hid (HF2.out.trans FA.any)
  clear hT hA hF NM0 HLV HF0 HQ1 HQ2 HF2 FA HSZ2
  skip
  have c0 := (qB_cells HQ3.out).2.1
  have f0 := HQ3.out.frozen 1
  dsimp only [nilV] at c0
  have FS := Lib.hid (set1_frT (w2.alloc (.cells #[.string ⟨p.toArray⟩] 9)) Q 1 (.slice (some ⟨w2.heap.size, 0, none⟩) 1 1))
  have HQ4 := Lib.hid (qB_cols (HQ3.out) (.slice (some ⟨w2.heap.size, 0, none⟩) 1 1) [p])
  have HR4 := Lib.hid (Ow.fr HR3.out FS.out (fun b hb e => by have := (Ow.lt HR3.out b hb).1; have : b = Q := e; exact HQN2.out (by omega)))
  have HT4 := Lib.hid (HT3.out.fresh FS.out (fun k e => by have : k = Q := e; have := HBQ.out; omega))
  have HF4 := Lib.hid (HF3.out.trans (Fr.twoQ (g := g) FS.out))
  clear FS HQ3 HR3 HT3 HF3
  go_upto_region 4 with fail
  clear c0 f0
  generalize hW : (w2.alloc _).setCell _ _ = W4 at *
  clear hW
  go_wp2
  go_loopw [16] (fun qv wr => ∃ (ps : List Tx) (σ' : Sg) (A : Option Addr) (c : Nat), True ∧ Hid (Ow sv 9 wr w.heap.size (.slice A ps.length c) ps) ∧ Hid (QB wr Q ⟨[], ps, allPd, [], []⟩ (.slice A ps.length c) noKv nilV) ∧ Hid (Lv 4 [44] nameK X ps σ') ∧ Hid (TX B g wr σ') ∧ Hid (Fr (ReQ g Q) w wr) ∧ 1 ≤ ps.length) (fun _ wr => 403 - slLen ((wr.cell? ⟨Q, 1, none⟩).getD (.bool true)))
  case atStart => exact ⟨[p], dropV x0, _, _, trivial, HR4, HQ4, LV1, HT4, HF4, by simp⟩
  case round =>
    obtain ⟨ps, σ', A, c, -, HR, HQ, HV, HT, HG, hp1⟩ := hrel
    clear HR4 HQ4 LV1 HT4 HF4
    have I := Lib.hid (xis_any B g 4 [44] σ' wr HT.out)
    generalize hbx : isX 4 [44] σ' = b at I
    have HBX := Lib.hid hbx
    clear hbx
    go_wp2_with fail
    refine I.out.mono ?_
    rintro e w2 ⟨rfl, rfl⟩
    clear I
    cases b
    · obtain ⟨e1, e2⟩ := lv_end HV.out HBX.out
      have E1 := Lib.hid e1
      have HM := Lib.hid (map_okT (f := (fun c => (c, ([] : List Ag)))) e2)
      clear e1 e2
      go_wp2
      go_end0
      exact ⟨rfl, by rw [HX.out, HDX.out, E1.out]; exact HT.out, ⟨_, _, _, _, HQ.out, by rw [HX.out]; exact HM.out, Ow.vs HR.out, fun b hb => (Ow.lt HR.out b hb).1, nil_gs _, nil_own⟩, HG.out⟩
    · obtain ⟨r, rfl, hi⟩ := isX_ok HBX.out
      have TK := Lib.hid (xtake_any B g r wr HT.out)
      have LV2 := Lib.hid (fun a ha => lv_more (k := 4) (by decide) reads_name HV.out hi (a := a) ha)
      have HPL := Lib.hid HV.out.1
      have tcr := (qB_cells HQ.out).2.1
      try dsimp only at tcr
      clear hi HBX HT
      go_wp2_with fail
      refine TK.out.mono ?_
      rintro e w1 ⟨⟨tv, rfl⟩, hT, hF⟩
      have HT1 := Lib.hid (hT.non (Fr.refl Non w1).drew)
      have NM := Lib.hid (xname_any B g _ _ HT1.out)
      have HG1 : Hid (Fr (ReQ g Q) w w1.drew) := Lib.hid ((HG.out.trans (Fr.two (q := Q) hF)).drew)
      have HR1 : Hid (Ow sv 9 w1.drew w.heap.size (.slice A ps.length c) ps) := Lib.hid (Ow.drew (Ow.fr HR.out hF (fun b h1 e => by have : b = g := e; have := (Ow.lt HR.out b h1).1; have := HL.out; omega)))
      have HQ1 : Hid (QB w1.drew Q ⟨[], ps, allPd, [], []⟩ (.slice A ps.length c) noKv nilV) := Lib.hid (HQ.out.fr hF (fun e => by have : Q = g := e; have := HL.out; have := HBQ.out; omega)).drew
      have HSZ1 : Hid (w.heap.size ≤ w1.drew.heap.size) := Lib.hid HG1.out.size
      have HRL : Hid (∀ b, (Value.slice A ps.length c).ownBlock = some b → w.heap.size ≤ b) := Lib.hid (fun b hb => (Ow.lt HR1.out b hb).1)
      have HQN : Hid (¬ w.heap.size ≤ Q) := Lib.hid HQN2.out
      have tc0 := (qB_cells HQ1.out).2.1
      have fz0 := HQ1.out.frozen 1
      try dsimp only at tc0
      have hle := HPL.out
      clear hT hF TK HG HR HQ HV
      go_upto_region 6 with fail
      refine wp_region_K (fun (W : World) => W.cell? ⟨Q, 1, none⟩ = some (.slice A ps.length c)) 11 (by kernel_rfl) ?_
      have hHeld : (fun (W : World) => W.cell? ⟨Q, 1, none⟩ = some (.slice A ps.length c)) (w1.drew) := tc0
      refine wpAnyK_take (i := 0) (oi := ⟨some 20, _, _, _, _, none⟩) (v := ?v1) rfl (by kernel_rfl) (by kernel_rfl) (by kernel_rfl) (fun _ _ _ h => h) (by kernel_rfl) (by decide) (Or.inl ⟨by rfl, ?hy1⟩) (by assumption) ?rest1
      case hy1 => (intro wS hSw; (try dsimp only at hSw); go_simp; (try with_reducible rfl))
      (try simp only [Act.put, List.setIfInBounds_toArray, List.set_cons_zero, List.set_cons_succ])
      refine wpAnyK_take (i := 1) (oi := ⟨some 21, _, _, _, _, none⟩) (v := ?v2) rfl (by kernel_rfl) (by kernel_rfl) (by kernel_rfl) (fun _ _ _ h => h) (by kernel_rfl) (by decide) (Or.inl ⟨by rfl, ?hy2⟩) (by assumption) ?rest2
      case hy2 => (intro wS hSw; (try dsimp only at hSw); go_simp; (try with_reducible rfl))
      (try simp only [Act.put, List.setIfInBounds_toArray, List.set_cons_zero, List.set_cons_succ])
      refine wpAnyK_take (i := 2) (oi := ⟨some 22, _, _, _, _, none⟩) (v := ?v3) rfl (by kernel_rfl) (by kernel_rfl) (by kernel_rfl) (fun _ _ _ h => h) (by kernel_rfl) (by decide) (Or.inl ⟨by rfl, ?hy3⟩) (by assumption) ?rest3
      case hy3 => (intro wS hSw; (try dsimp only at hSw); go_simp; (try with_reducible rfl))
      (try simp only [Act.put, List.setIfInBounds_toArray, List.set_cons_zero, List.set_cons_succ])
      refine wpAnyK_take (i := 3) (oi := ⟨some 23, _, _, _, _, none⟩) (v := ?v4) rfl (by kernel_rfl) (by kernel_rfl) (by kernel_rfl) (fun _ _ _ h => h) (by kernel_rfl) (by decide) (Or.inl ⟨by rfl, ?hy4⟩) (by assumption) ?rest4
      case hy4 => (intro wS hSw; (try dsimp only at hSw); go_simp; (try with_reducible rfl))
      (try simp only [Act.put, List.setIfInBounds_toArray, List.set_cons_zero, List.set_cons_succ])
      refine wpAnyK_take (i := 4) (oi := ⟨some 24, _, _, _, _, none⟩) (v := ?v5) rfl (by kernel_rfl) (by kernel_rfl) (by kernel_rfl) (fun _ _ _ h => h) (by kernel_rfl) (by decide) (Or.inl ⟨by rfl, ?hy5⟩) (by assumption) ?rest5
      case hy5 => (intro wS hSw; (try dsimp only at hSw); go_simp; (try with_reducible rfl))
      (try simp only [Act.put, List.setIfInBounds_toArray, List.set_cons_zero, List.set_cons_succ])
      refine wpAnyK_take (i := 5) (oi := ⟨some 25, _, _, _, _, none⟩) (v := ?v6) rfl (by kernel_rfl) (by kernel_rfl) (by kernel_rfl) (fun _ _ _ h => h) (by kernel_rfl) (by decide) (Or.inl ⟨by rfl, ?hy6⟩) (by assumption) ?rest6
      case hy6 => (intro wS hSw; (try dsimp only at hSw); go_simp; (try with_reducible rfl))
      (try simp only [Act.put, List.setIfInBounds_toArray, List.set_cons_zero, List.set_cons_succ])
      refine wpAnyK_one (i := 6) (o := ⟨some 26, _, _, _, _, none⟩) (by kernel_rfl) rfl (fun K hK => ?_)
      go_simp
      refine NM.out.mono ?_
      rintro e w2 ⟨⟨p2, v2, rfl, rfl, hT, hA⟩, hF⟩
      have LV3 := Lib.hid (LV2.out p2 hA)
      have HT3 := Lib.hid hT
      have HF3 := Lib.hid hF
      have HQ3 := Lib.hid (HQ1.out.fr hF (fun e => by have : Q = g := e; have := HL.out; have := HBQ.out; omega))
      have HR3 := Lib.hid (Ow.fr HR1.out hF (fun b h1 e => by have : b = g := e; have := (Ow.lt HR1.out b h1).1; have := HL.out; omega))
      have HSZ3 := Lib.hid (Nat.le_trans HSZ1.out hF.size)
      clear hT hA hF NM LV2 HR1 HQ1 HT1
      have FA : Fr Non w2 (w2.alloc (.cells #[.string ⟨p2.toArray⟩] 9)) := (Fr.refl Non w2).alloc _
      have HQ4 := Lib.hid (HQ3.out.fr FA (fun e => e))
      have HR4 := Lib.hid (Ow.non HR3.out FA)
      have HT4 := Lib.hid (HT3.out.non FA)
      have HFA := Lib.hid FA
      have tc3 := (qB_cells HQ3.out).2.1
      have tc4 := (qB_cells HQ4.out).2.1
      have fz4 := HQ4.out.frozen 1
      try dsimp only at tc3 tc4
      clear FA HQ3 HR3 HT3
      go_wp2_with fail
      refine hK.out _ _ (fun _ => tc3) ?_
      clear hK K
      (try simp only [Act.put, List.setIfInBounds_toArray, List.set_cons_zero, List.set_cons_succ])
      clear hHeld
      have hHeld : (fun (W : World) => W.cell? ⟨Q, 1, none⟩ = some (.slice A ps.length c)) w2 := tc3
      refine wpAnyK_one (i := 7) (o := ⟨some 27, _, _, _, _, none⟩) (by kernel_rfl) rfl (fun K hK => ?_)
      go_simp
      refine hK.out _ _ (fun _ => tc4) ?_
      clear hK K
      (try simp only [Act.put, List.setIfInBounds_toArray, List.set_cons_zero, List.set_cons_succ])
      clear hHeld
      have hHeld : (fun (W : World) => W.cell? ⟨Q, 1, none⟩ = some (.slice A ps.length c)) (w2.alloc (.cells #[.string ⟨p2.toArray⟩] 9)) := tc4
      refine wpAnyK_one (i := 8) (o := ⟨some 28, _, _, _, _, none⟩) (by kernel_rfl) rfl (fun K hK => ?_)
      refine step_appG el_str sv_one rfl (.tmp 24) (.tmp 27) rfl w.heap.size (.slice A ps.length c) (.slice (some ⟨w2.heap.size, 0, none⟩) 1 1) ps [p2] rfl HR4.out rfl (vs_row w2 [p2] 9 (0, 0)) (by simp; omega) (Nat.le_trans HSZ3.out HFA.out.size) ?_
      intro v5 w5 ho5 f5
      obtain ⟨A5, c5, hv5⟩ := (Ow.vs ho5).shape
      have hv6 : v5 = .slice A5 (ps.length + 1) c5 := by rw [hv5]; simp
      clear hv5
      subst hv6
      have HQ5 := Lib.hid (HQ4.out.fr f5 (fun e => HQN.out (HRL.out _ e)))
      have tc5 := (qB_cells HQ5.out).2.1
      have fz5 := HQ5.out.frozen 1
      try dsimp only at tc5
      refine hK.out _ _ (fun _ => tc5) ?_
      clear hK K
      (try simp only [Act.put, List.setIfInBounds_toArray, List.set_cons_zero, List.set_cons_succ])
      clear hHeld
      have hHeld : (fun (W : World) => W.cell? ⟨Q, 1, none⟩ = some (.slice A ps.length c)) w5 := tc5
      refine wpAnyK_one (i := 9) (o := ⟨some 29, _, _, _, _, none⟩) (by kernel_rfl) rfl (fun K hK => ?_)
      go_simp
      refine hK.out _ _ (fun _ => tc5) ?_
      clear hK K
      (try simp only [Act.put, List.setIfInBounds_toArray, List.set_cons_zero, List.set_cons_succ])
      clear hHeld
      have hHeld : (fun (W : World) => W.cell? ⟨Q, 1, none⟩ = some (.slice A ps.length c)) w5 := tc5
      refine wpAnyK_one (i := 10) (o := ⟨some 30, _, _, _, _, none⟩) (by kernel_rfl) rfl (fun K hK => ?_)
      go_simp
      refine hK.out _ _ (fun _ => tc5) ?_
      clear hK K
      (try simp only [Act.put, List.setIfInBounds_toArray, List.set_cons_zero, List.set_cons_succ])
      clear hHeld
      have hHeld : (fun (W : World) => W.cell? ⟨Q, 1, none⟩ = some (.slice A ps.length c)) w5 := tc5
      refine wpAnyK_one (i := 11) (o := ⟨none, _, _, _, _, none⟩) (by kernel_rfl) rfl (fun K hK => ?_)
      go_simp
      refine hK.out _ _ (fun h => absurd rfl h) ?_
      clear hK K
      (try simp only [Act.put, List.setIfInBounds_toArray, List.set_cons_zero, List.set_cons_succ])
      refine wpAnyK_done (by kernel_rfl) ?_ _
      have HO5 := Lib.hid ho5
      have FS := Lib.hid (set1_frT w5 Q 1 (.slice A5 (ps.length + 1) c5))
      have LT5 := Lib.hid (Ow.lt ho5)
      have RL := Lib.hid HRL.out
      have QN5 : Hid (∀ b, (Value.slice A5 (ps.length + 1) c5).ownBlock = some b → b ≠ Q) := Lib.hid (fun b hb e => by
        have := (LT5.out b hb).1
        exact HQN2.out (by omega))
      have HQ6 := Lib.hid (qB_cols (HQ5.out) (.slice A5 (ps.length + 1) c5) (ps ++ [p2]))
      have HT6 := Lib.hid ((HT4.out.fresh f5 (fun b e => by have := (HRL.out b e); have := HL.out; omega)).fresh FS.out (fun k e => by have : k = Q := e; have := HBQ.out; omega))
      have HF6 := Lib.hid ((((HG1.out.trans (Fr.two (q := Q) HF3.out)).trans HFA.out.any).fresh f5 (fun b e => HRL.out b e)).trans (Fr.twoQ (g := g) FS.out))
      have HR6 := Lib.hid (Ow.fr HO5.out FS.out (fun b hb e => QN5.out b hb e))
      have SZ6 := Lib.hid HF6.out.size
      have tc6 := (qB_cells HQ6.out).2.1
      try dsimp only at tc6
      clear ho5 f5 fz4 fz5 tc3 tc4 tc5 tc0 fz0 hHeld HQ4 HQ5 HR4 HT4 HFA HF3 HO5 FS LT5 RL
      go_wp2
      go_roundw
      have hlen : (ps ++ [p2]).length = ps.length + 1 := by simp
      case rel => exact ⟨ps ++ [p2], _, A5, c5, trivial, Lib.hid (by rw [hlen]; exact HR6.out), Lib.hid (by rw [hlen]; exact HQ6.out), LV3, HT6, HF6, by simp⟩
      case measure => rw [tc6, tcr]; simp [slLen]; omega
set_option maxHeartbeats 4000000 in
theorem twhat_aggs (B g Q : Nat) (σ : Sg) (w : World) (h : TX B g w σ) (hQ : QB w Q ⟨[], [], allPd, [], []⟩ nilV noKv nilV) (hB : B ≤ Q) (h1 : isX 4 [42] σ = false) (h2 : namedX σ = false) :
    Calls Tryz.prog 23 #[.pointer (some ⟨g, 0, none⟩), .pointer (some ⟨Q, 0, none⟩)] w (WhatE B g Q w (onS σ whatK)) := by
  have HL := Lib.hid h.lt
  have HBQ := Lib.hid hB
  have HQN2 : Hid (¬ w.heap.size ≤ Q) := Lib.hid (by have := hQ.lt; omega)
  have HQ0 := Lib.hid hQ
  have HX : Hid (onS σ whatK = mapR (fun g => (([] : List Tx), g)) (onS σ (someK 4 [44] aggK))) := Lib.hid (what_aggs h1 h2)
  have I1 := Lib.hid (xis_any B g 4 [42] σ w h)
  rw [h1] at I1
  have NMD := Lib.hid (xnamed_any B g σ w h)
  rw [h2] at NMD
  have HLV := Lib.hid (fun a ha => lv_start (a := a) (k := 4) (s := [44]) reads_agg h.finX ha)
  clear h hQ hB h1 h2
  generalize onS σ whatK = XW at *
  generalize onS σ (someK 4 [44] aggK) = X at *
  have HDX := Lib.hid (drop_mapT (fun g => (([] : List Tx), g)) X)
  go_enter Tryz.func23, Tryz.ntmps23
  go_wp2_with fail
  refine I1.out.mono ?_
  rintro e wx ⟨rfl, rfl⟩
  clear I1
  go_wp2_with fail
  refine NMD.out.mono ?_
  rintro e w0 ⟨rfl, hT, hF⟩
  have NM0 := Lib.hid (tagg_any B g _ _ hT)
  have HF0 := Lib.hid hF
  have HQ1 := Lib.hid (HQ0.out.fr hF (fun e => e))
  clear hT hF NMD HQ0
  generalize onS σ aggK = x0 at *
  go_wp2_with fail
  refine NM0.out.mono ?_
  rintro e w2 ⟨⟨p, v, rfl, rfl, hT, hA⟩, hF⟩
  have LV1 := Lib.hid (HLV.out p hA)
  have HQ2 := Lib.hid (HQ1.out.fr hF (fun e => by have : Q = g := e; have := HL.out; have := HBQ.out; omega))
  have HF2 := Lib.hid (HF0.out.any.trans (Fr.two (q := Q) hF))
  have HSZ2 : w.heap.size ≤ w2.heap.size := HF2.out.size
  have HR3 : Hid (No agL 2 69 (w2.alloc (.cells #[.int .i64 p.op, .string ⟨p.col.toArray⟩] 69)) w.heap.size (.slice (some ⟨w2.heap.size, 0, none⟩) [p].length 1) [p]) := Lib.hid (no_lit fd_ag w2 w.heap.size _ [p] #[.int .i64 p.op, .string ⟨p.col.toArray⟩] rfl rfl (by omega) (by simp))
  have FA : Fr Non w2 (w2.alloc (.cells #[.int .i64 p.op, .string ⟨p.col.toArray⟩] 69)) := (Fr.refl Non w2).alloc _
  have HQ3 := Lib.hid (HQ2.out.fr FA (fun e => e))
  have HT3 := Lib.hid (hT.non FA)
  have HF3 := Lib.hid (HF2.out.trans FA.any)
  clear hT hA hF NM0 HLV HF0 HQ1 HQ2 HF2 FA HSZ2
  unfold agV
  have c0 := (qB_cells HQ3.out).2.2.2.2.2.2.2.2.2.2.2.1
  have f0 := HQ3.out.frozen 11
  dsimp only [nilV] at c0
  have FS := Lib.hid (set1_frT (w2.alloc (.cells #[.int .i64 p.op, .string ⟨p.col.toArray⟩] 69)) Q 11 (.slice (some ⟨w2.heap.size, 0, none⟩) 1 1))
  have HQ4 := Lib.hid (qB_aggs (HQ3.out) (.slice (some ⟨w2.heap.size, 0, none⟩) 1 1) [p])
  have HR4 := Lib.hid (No.fr HR3.out FS.out (fun b hb e => by have := (No.lt HR3.out b hb).1; have : b = Q := e; exact HQN2.out (by omega)))
  have HT4 := Lib.hid (HT3.out.fresh FS.out (fun k e => by have : k = Q := e; have := HBQ.out; omega))
  have HF4 := Lib.hid (HF3.out.trans (Fr.twoQ (g := g) FS.out))
  clear FS HQ3 HR3 HT3 HF3
  go_upto_region 8 with fail
  clear c0 f0
  generalize hW : (w2.alloc _).setCell _ _ = W4 at *
  clear hW
  go_wp2
  go_loopw [37] (fun qv wr => ∃ (ps : List Ag) (σ' : Sg) (A : Option Addr) (c : Nat), True ∧ Hid (No agL 2 69 wr w.heap.size (.slice A ps.length c) ps) ∧ Hid (QB wr Q ⟨[], [], allPd, ps, []⟩ nilV noKv (.slice A ps.length c)) ∧ Hid (Lv 4 [44] aggK X ps σ') ∧ Hid (TX B g wr σ') ∧ Hid (Fr (ReQ g Q) w wr) ∧ 1 ≤ ps.length) (fun _ wr => 403 - slLen ((wr.cell? ⟨Q, 11, none⟩).getD (.bool true)))
  case atStart => exact ⟨[p], dropV x0, _, _, trivial, HR4, HQ4, LV1, HT4, HF4, by simp⟩
  case round =>
    obtain ⟨ps, σ', A, c, -, HR, HQ, HV, HT, HG, hp1⟩ := hrel
    clear HR4 HQ4 LV1 HT4 HF4
    have I := Lib.hid (xis_any B g 4 [44] σ' wr HT.out)
    generalize hbx : isX 4 [44] σ' = b at I
    have HBX := Lib.hid hbx
    clear hbx
    go_wp2_with fail
    refine I.out.mono ?_
    rintro e w2 ⟨rfl, rfl⟩
    clear I
    cases b
    · obtain ⟨e1, e2⟩ := lv_end HV.out HBX.out
      have E1 := Lib.hid e1
      have HM := Lib.hid (map_okT (f := (fun g => (([] : List Tx), g))) e2)
      clear e1 e2
      go_wp2
      go_end0
      exact ⟨rfl, by rw [HX.out, HDX.out, E1.out]; exact HT.out, ⟨_, _, _, _, HQ.out, by rw [HX.out]; exact HM.out, nil_vs _, nil_own, No.ns fd_ag HR.out, fun b hb => (No.lt HR.out b hb).1⟩, HG.out⟩
    · obtain ⟨r, rfl, hi⟩ := isX_ok HBX.out
      have TK := Lib.hid (xtake_any B g r wr HT.out)
      have LV2 := Lib.hid (fun a ha => lv_more (k := 4) (by decide) reads_agg HV.out hi (a := a) ha)
      have HPL := Lib.hid HV.out.1
      have tcr := (qB_cells HQ.out).2.2.2.2.2.2.2.2.2.2.2.1
      try dsimp only at tcr
      clear hi HBX HT
      go_wp2_with fail
      refine TK.out.mono ?_
      rintro e w1 ⟨⟨tv, rfl⟩, hT, hF⟩
      have HT1 := Lib.hid (hT.non (Fr.refl Non w1).drew)
      have NM := Lib.hid (tagg_any B g _ _ HT1.out)
      have HG1 : Hid (Fr (ReQ g Q) w w1.drew) := Lib.hid ((HG.out.trans (Fr.two (q := Q) hF)).drew)
      have HR1 : Hid (No agL 2 69 w1.drew w.heap.size (.slice A ps.length c) ps) := Lib.hid (No.drew (No.fr HR.out hF (fun b h1 e => by have : b = g := e; have := (No.lt HR.out b h1).1; have := HL.out; omega)))
      have HQ1 : Hid (QB w1.drew Q ⟨[], [], allPd, ps, []⟩ nilV noKv (.slice A ps.length c)) := Lib.hid (HQ.out.fr hF (fun e => by have : Q = g := e; have := HL.out; have := HBQ.out; omega)).drew
      have HSZ1 : Hid (w.heap.size ≤ w1.drew.heap.size) := Lib.hid HG1.out.size
      have HRL : Hid (∀ b, (Value.slice A ps.length c).ownBlock = some b → w.heap.size ≤ b) := Lib.hid (fun b hb => (No.lt HR1.out b hb).1)
      have HQN : Hid (¬ w.heap.size ≤ Q) := Lib.hid HQN2.out
      have tc0 := (qB_cells HQ1.out).2.2.2.2.2.2.2.2.2.2.2.1
      have fz0 := HQ1.out.frozen 11
      try dsimp only at tc0
      have hle := HPL.out
      clear hT hF TK HG HR HQ HV
      go_upto_region 10 with fail
      refine wp_region_K (fun (W : World) => W.cell? ⟨Q, 11, none⟩ = some (.slice A ps.length c)) 11 (by kernel_rfl) ?_
      have hHeld : (fun (W : World) => W.cell? ⟨Q, 11, none⟩ = some (.slice A ps.length c)) (w1.drew) := tc0
      refine wpAnyK_take (i := 0) (oi := ⟨some 41, _, _, _, _, none⟩) (v := ?v7) rfl (by kernel_rfl) (by kernel_rfl) (by kernel_rfl) (fun _ _ _ h => h) (by kernel_rfl) (by decide) (Or.inl ⟨by rfl, ?hy7⟩) (by assumption) ?rest7
      case hy7 => (intro wS hSw; (try dsimp only at hSw); go_simp; (try with_reducible rfl))
      (try simp only [Act.put, List.setIfInBounds_toArray, List.set_cons_zero, List.set_cons_succ])
      refine wpAnyK_take (i := 1) (oi := ⟨some 42, _, _, _, _, none⟩) (v := ?v8) rfl (by kernel_rfl) (by kernel_rfl) (by kernel_rfl) (fun _ _ _ h => h) (by kernel_rfl) (by decide) (Or.inl ⟨by rfl, ?hy8⟩) (by assumption) ?rest8
      case hy8 => (intro wS hSw; (try dsimp only at hSw); go_simp; (try with_reducible rfl))
      (try simp only [Act.put, List.setIfInBounds_toArray, List.set_cons_zero, List.set_cons_succ])
      refine wpAnyK_take (i := 2) (oi := ⟨some 43, _, _, _, _, none⟩) (v := ?v9) rfl (by kernel_rfl) (by kernel_rfl) (by kernel_rfl) (fun _ _ _ h => h) (by kernel_rfl) (by decide) (Or.inl ⟨by rfl, ?hy9⟩) (by assumption) ?rest9
      case hy9 => (intro wS hSw; (try dsimp only at hSw); go_simp; (try with_reducible rfl))
      (try simp only [Act.put, List.setIfInBounds_toArray, List.set_cons_zero, List.set_cons_succ])
      refine wpAnyK_take (i := 3) (oi := ⟨some 44, _, _, _, _, none⟩) (v := ?v10) rfl (by kernel_rfl) (by kernel_rfl) (by kernel_rfl) (fun _ _ _ h => h) (by kernel_rfl) (by decide) (Or.inl ⟨by rfl, ?hy10⟩) (by assumption) ?rest10
      case hy10 => (intro wS hSw; (try dsimp only at hSw); go_simp; (try with_reducible rfl))
      (try simp only [Act.put, List.setIfInBounds_toArray, List.set_cons_zero, List.set_cons_succ])
      refine wpAnyK_take (i := 4) (oi := ⟨some 45, _, _, _, _, none⟩) (v := ?v11) rfl (by kernel_rfl) (by kernel_rfl) (by kernel_rfl) (fun _ _ _ h => h) (by kernel_rfl) (by decide) (Or.inl ⟨by rfl, ?hy11⟩) (by assumption) ?rest11
      case hy11 => (intro wS hSw; (try dsimp only at hSw); go_simp; (try with_reducible rfl))
      (try simp only [Act.put, List.setIfInBounds_toArray, List.set_cons_zero, List.set_cons_succ])
      refine wpAnyK_take (i := 5) (oi := ⟨some 46, _, _, _, _, none⟩) (v := ?v12) rfl (by kernel_rfl) (by kernel_rfl) (by kernel_rfl) (fun _ _ _ h => h) (by kernel_rfl) (by decide) (Or.inl ⟨by rfl, ?hy12⟩) (by assumption) ?rest12
      case hy12 => (intro wS hSw; (try dsimp only at hSw); go_simp; (try with_reducible rfl))
      (try simp only [Act.put, List.setIfInBounds_toArray, List.set_cons_zero, List.set_cons_succ])
      refine wpAnyK_one (i := 6) (o := ⟨some 47, _, _, _, _, none⟩) (by kernel_rfl) rfl (fun K hK => ?_)
      go_simp
      refine NM.out.mono ?_
      rintro e w2 ⟨⟨p2, v2, rfl, rfl, hT, hA⟩, hF⟩
      have LV3 := Lib.hid (LV2.out p2 hA)
      have HT3 := Lib.hid hT
      have HF3 := Lib.hid hF
      have HQ3 := Lib.hid (HQ1.out.fr hF (fun e => by have : Q = g := e; have := HL.out; have := HBQ.out; omega))
      have HR3 := Lib.hid (No.fr HR1.out hF (fun b h1 e => by have : b = g := e; have := (No.lt HR1.out b h1).1; have := HL.out; omega))
      have HSZ3 := Lib.hid (Nat.le_trans HSZ1.out hF.size)
      clear hT hA hF NM LV2 HR1 HQ1 HT1
      have FA : Fr Non w2 (w2.alloc (.cells #[.int .i64 p2.op, .string ⟨p2.col.toArray⟩] 69)) := (Fr.refl Non w2).alloc _
      have HQ4 := Lib.hid (HQ3.out.fr FA (fun e => e))
      have HR4 := Lib.hid (No.non HR3.out FA)
      have HT4 := Lib.hid (HT3.out.non FA)
      have HFA := Lib.hid FA
      have tc3 := (qB_cells HQ3.out).2.2.2.2.2.2.2.2.2.2.2.1
      have tc4 := (qB_cells HQ4.out).2.2.2.2.2.2.2.2.2.2.2.1
      have fz4 := HQ4.out.frozen 11
      try dsimp only at tc3 tc4
      clear FA HQ3 HR3 HT3
      unfold agV
      go_wp2_with fail
      refine hK.out _ _ (fun _ => tc3) ?_
      clear hK K
      (try simp only [Act.put, List.setIfInBounds_toArray, List.set_cons_zero, List.set_cons_succ])
      clear hHeld
      have hHeld : (fun (W : World) => W.cell? ⟨Q, 11, none⟩ = some (.slice A ps.length c)) w2 := tc3
      refine wpAnyK_one (i := 7) (o := ⟨some 48, _, _, _, _, none⟩) (by kernel_rfl) rfl (fun K hK => ?_)
      go_simp
      refine hK.out _ _ (fun _ => tc4) ?_
      clear hK K
      (try simp only [Act.put, List.setIfInBounds_toArray, List.set_cons_zero, List.set_cons_succ])
      clear hHeld
      have hHeld : (fun (W : World) => W.cell? ⟨Q, 11, none⟩ = some (.slice A ps.length c)) (w2.alloc (.cells #[.int .i64 p2.op, .string ⟨p2.col.toArray⟩] 69)) := tc4
      refine wpAnyK_one (i := 8) (o := ⟨some 49, _, _, _, _, none⟩) (by kernel_rfl) rfl (fun K hK => ?_)
      refine step_appN fd_ag eln_ag0 rfl (.tmp 45) (.tmp 48) rfl w.heap.size (.slice A ps.length c) (.slice (some ⟨w2.heap.size, 0, none⟩) 1 1) ps [p2] rfl HR4.out rfl ((no_lit fd_ag w2 0 w2.heap.size [p2] #[.int .i64 p2.op, .string ⟨p2.col.toArray⟩] rfl rfl (Nat.zero_le _) (by simp)).ns fd_ag) (by simp; omega) (Nat.le_trans HSZ3.out HFA.out.size) ?_
      intro v5 w5 ho5 f5
      obtain ⟨A5, c5, hv5⟩ := (No.ns fd_ag ho5).shape
      have hv6 : v5 = .slice A5 (ps.length + 1) c5 := by rw [hv5]; simp
      clear hv5
      subst hv6
      have HQ5 := Lib.hid (HQ4.out.fr f5 (fun e => HQN.out (HRL.out _ e)))
      have tc5 := (qB_cells HQ5.out).2.2.2.2.2.2.2.2.2.2.2.1
      have fz5 := HQ5.out.frozen 11
      try dsimp only at tc5
      refine hK.out _ _ (fun _ => tc5) ?_
      clear hK K
      (try simp only [Act.put, List.setIfInBounds_toArray, List.set_cons_zero, List.set_cons_succ])
      clear hHeld
      have hHeld : (fun (W : World) => W.cell? ⟨Q, 11, none⟩ = some (.slice A ps.length c)) w5 := tc5
      refine wpAnyK_one (i := 9) (o := ⟨some 50, _, _, _, _, none⟩) (by kernel_rfl) rfl (fun K hK => ?_)
      go_simp
      refine hK.out _ _ (fun _ => tc5) ?_
      clear hK K
      (try simp only [Act.put, List.setIfInBounds_toArray, List.set_cons_zero, List.set_cons_succ])
      clear hHeld
      have hHeld : (fun (W : World) => W.cell? ⟨Q, 11, none⟩ = some (.slice A ps.length c)) w5 := tc5
      refine wpAnyK_one (i := 10) (o := ⟨some 51, _, _, _, _, none⟩) (by kernel_rfl) rfl (fun K hK => ?_)
      go_simp
      refine hK.out _ _ (fun _ => tc5) ?_
      clear hK K
      (try simp only [Act.put, List.setIfInBounds_toArray, List.set_cons_zero, List.set_cons_succ])
      clear hHeld
      have hHeld : (fun (W : World) => W.cell? ⟨Q, 11, none⟩ = some (.slice A ps.length c)) w5 := tc5
      refine wpAnyK_one (i := 11) (o := ⟨none, _, _, _, _, none⟩) (by kernel_rfl) rfl (fun K hK => ?_)
      go_simp
      refine hK.out _ _ (fun h => absurd rfl h) ?_
      clear hK K
      (try simp only [Act.put, List.setIfInBounds_toArray, List.set_cons_zero, List.set_cons_succ])
      refine wpAnyK_done (by kernel_rfl) ?_ _
      have HO5 := Lib.hid ho5
      have FS := Lib.hid (set1_frT w5 Q 11 (.slice A5 (ps.length + 1) c5))
      have LT5 := Lib.hid (No.lt ho5)
      have RL := Lib.hid HRL.out
      have QN5 : Hid (∀ b, (Value.slice A5 (ps.length + 1) c5).ownBlock = some b → b ≠ Q) := Lib.hid (fun b hb e => by
        have := (LT5.out b hb).1
        exact HQN2.out (by omega))
      have HQ6 := Lib.hid (qB_aggs (HQ5.out) (.slice A5 (ps.length + 1) c5) (ps ++ [p2]))
      have HT6 := Lib.hid ((HT4.out.fresh f5 (fun b e => by have := (HRL.out b e); have := HL.out; omega)).fresh FS.out (fun k e => by have : k = Q := e; have := HBQ.out; omega))
      have HF6 := Lib.hid ((((HG1.out.trans (Fr.two (q := Q) HF3.out)).trans HFA.out.any).fresh f5 (fun b e => HRL.out b e)).trans (Fr.twoQ (g := g) FS.out))
      have HR6 := Lib.hid (No.fr HO5.out FS.out (fun b hb e => QN5.out b hb e))
      have SZ6 := Lib.hid HF6.out.size
      have tc6 := (qB_cells HQ6.out).2.2.2.2.2.2.2.2.2.2.2.1
      try dsimp only at tc6
      clear ho5 f5 fz4 fz5 tc3 tc4 tc5 tc0 fz0 hHeld HQ4 HQ5 HR4 HT4 HFA HF3 HO5 FS LT5 RL
      go_wp2
      go_roundw
      have hlen : (ps ++ [p2]).length = ps.length + 1 := by simp
      case rel => exact ⟨ps ++ [p2], _, A5, c5, trivial, Lib.hid (by rw [hlen]; exact HR6.out), Lib.hid (by rw [hlen]; exact HQ6.out), LV3, HT6, HF6, by simp⟩
      case measure => rw [tc6, tcr]; simp [slLen]; omega
end Go.Proofs.YtipgaafgnefmdaaGreatDoor


namespace Go.Proofs.YtipgaafgnefmdaaGreatDoor
set_option linter.unusedVariables false
set_option linter.unusedSimpArgs false
set_option maxRecDepth 100000
open Go.RowKit

/-- the text that a text begins with, told -/
def QtE (x : Option (List UInt8 × Nat)) (e : Ending) : Prop := match x with
  | none => e = .returned (.tuple #[.string ⟨([] : List UInt8).toArray⟩, .int .i64 0])
  | some (t, n) => e = .returned (.tuple #[.string ⟨t.toArray⟩, .int .i64 ((n : Int) + 1)])
/-- so far -/
def QtI (r : List UInt8) (l : List UInt8) (i : Nat) (D : List UInt8) : Prop := qtB r = (qtB (l.drop i)).map fun x => (D ++ x.1, x.2 + (i - 1))
theorem qt_skip {c : UInt8} {r : List UInt8} (h : c ≠ 39) : qtB (c :: r) = (qtB r).map fun x => (c :: x.1, x.2 + 1) := by
  cases r with
  | nil =>
    show (if c = 39 then some ([], 1) else none) = none
    rw [if_neg h]
  | cons d r => rw [qtB, if_neg h]
theorem qti_more {r l D : List UInt8} {i : Nat} {c : UInt8} (h : QtI r l i D) (h1 : 1 ≤ i) (hc : l[i]? = some c) (hq : c ≠ 39) : QtI r l (i + 1) (D ++ [c]) := by
  obtain ⟨hi, rfl⟩ := List.getElem?_eq_some_iff.1 hc
  unfold QtI at h ⊢
  rw [h, List.drop_eq_getElem_cons hi, qt_skip hq]
  cases qtB (l.drop (i + 1)) <;> simp; omega
theorem qti_two {r l D : List UInt8} {i : Nat} (h : QtI r l i D) (h1 : 1 ≤ i) (hc : l[i]? = some 39) (hd : l[i + 1]? = some 39) : QtI r l (i + 2) (D ++ [39]) := by
  obtain ⟨hi, hc⟩ := List.getElem?_eq_some_iff.1 hc
  obtain ⟨hi2, hd⟩ := List.getElem?_eq_some_iff.1 hd
  unfold QtI at h ⊢
  rw [h, List.drop_eq_getElem_cons hi, List.drop_eq_getElem_cons hi2, hc, hd, qtB, if_pos rfl, if_pos rfl]
  cases qtB (l.drop (i + 1 + 1)) <;> simp; omega
theorem qti_end {r l D : List UInt8} {i : Nat} (h : QtI r l i D) (h1 : 1 ≤ i) (hc : l[i]? = some 39) (hd : l[i + 1]? ≠ some 39) : qtB r = some (D, i) := by
  obtain ⟨hi, hc⟩ := List.getElem?_eq_some_iff.1 hc
  unfold QtI at h
  have e : qtB (l.drop i) = some ([], 1) := by
    rw [List.drop_eq_getElem_cons hi, hc]
    by_cases hi2 : i + 1 < l.length
    · rw [List.drop_eq_getElem_cons hi2, qtB, if_pos rfl, if_neg (fun e => hd (by rw [List.getElem?_eq_getElem hi2, e]))]
    · rw [List.drop_eq_nil_of_le (by omega)]; rfl
  rw [h, e]
  simp; omega
theorem qti_none {r l D : List UInt8} {i : Nat} (h : QtI r l i D) (hi : ¬ i < l.length) : qtB r = none := by
  unfold QtI at h
  rw [h, List.drop_eq_nil_of_le (by omega)]; rfl

set_option maxHeartbeats 1000000 in
theorem rquoted_any (l : List UInt8) (w : World) (h1 : 1 ≤ l.length) (hl : l.length ≤ 100000000) : Calls Tryz.prog 82 #[.string ⟨l.toArray⟩] w fun e w' => QtE (qtB (l.drop 1)) e ∧ Fr Non w w' := by
  have hz : Hid (QtI (l.drop 1) l 1 []) := Lib.hid (by unfold QtI; cases qtB (l.drop 1) <;> simp)
  generalize l.drop 1 = r at *
  go_enter Tryz.func82, Tryz.ntmps82
  go_wp2
  go_loopw [4, 5] (fun v b wr => ∃ (i : Nat) (D : List UInt8), b = .int .i64 (i : Int) ∧ 1 ≤ i ∧ i ≤ l.length ∧ D.length ≤ i ∧ Ow bv 5 wr w.heap.size v D ∧ Fr Non w wr ∧ Hid (QtI r l i D)) (fun _ b _ => l.length - (intOf b).toNat)
  case atStart => exact ⟨1, [], rfl, by omega, h1, by simp, ow_lit0 w w.heap.size w.heap.size rfl (Nat.le_refl _), (Fr.refl _ _).alloc _, hz⟩
  case round =>
    obtain ⟨i, D, rfl, hi1, hi, hD, hO, hF, hn⟩ := hrel
    have hsz := hF.size
    by_cases hlt : i < l.length
    · obtain ⟨c, r', _, hc, _⟩ := drop_is hlt
      have hg := byteW hc
      by_cases hq : c = 39
      · subst hq
        by_cases hlt2 : i + 1 < l.length
        · have hb1 : decide ((l.length : Int) ≤ (i : Int) + 1) = false := by simp; omega
          obtain ⟨d, r2, _, hd, _⟩ := drop_is hlt2
          have hg2 := byteW hd
          by_cases hq2 : d = 39
          · subst hq2
            have HM := Lib.hid (qti_two hn.out hi1 hc hd)
            have HO := Lib.hid hO
            have HF := Lib.hid hF
            clear hO hF hn hc hd
            go_wp2_with (at_builtin; refine wpList_pushG el_u8 (fun _ => rfl) rfl (.tmp 39) (.tmp 40) rfl w.heap.size _ D rfl HO.out _ (39 : UInt8) rfl rfl (by omega) (by omega) ?_; intro v5 w5 hO5 f5)
            have hF5 := HF.out.fresh f5 (fun q hq => by have := (HO.out.lt q hq).1; omega)
            go_roundw
            case rel => exact ⟨i + 2, D ++ [39], by push_cast; rfl, by omega, by omega, by rw [List.length_append]; simp; omega, hO5, hF5, HM⟩
            case measure => simp [intOf]; omega
          · have hqb : ((d.toNat : Int) == 39) = false := by rw [beq_eq_false_iff_ne]; intro e; exact hq2 ((byt_is d 39 (by omega)).2 (by omega))
            have HE := Lib.hid (qti_end hn.out hi1 hc (by rw [hd]; simpa using hq2))
            have cv := run_conv_Bs (Own.bs hO) 116 9 5 Tryz.underlying116 Tryz.underlying5 Tryz.underlying9
            have HF := Lib.hid hF
            clear hO hF hn hc hd
            go_wp2
            go_ret2
            exact ⟨by rw [HE.out]; rfl, HF.out⟩
        · have hb1 : decide ((l.length : Int) ≤ (i : Int) + 1) = true := by simp; omega
          have HE := Lib.hid (qti_end hn.out hi1 hc (by rw [List.getElem?_eq_none (by omega)]; simp))
          have cv := run_conv_Bs (Own.bs hO) 116 9 5 Tryz.underlying116 Tryz.underlying5 Tryz.underlying9
          have HF := Lib.hid hF
          clear hO hF hn hc
          go_wp2
          go_ret2
          exact ⟨by rw [HE.out]; rfl, HF.out⟩
      · have hqb : ((c.toNat : Int) == 39) = false := by rw [beq_eq_false_iff_ne]; intro e; exact hq ((byt_is c 39 (by omega)).2 (by omega))
        have HM := Lib.hid (qti_more hn.out hi1 hc hq)
        have HO := Lib.hid hO
        have HF := Lib.hid hF
        clear hO hF hn hc
        go_wp2_with (at_builtin; refine wpList_pushG el_u8 (fun _ => rfl) rfl (.tmp 15) (.tmp 19) rfl w.heap.size _ D rfl HO.out _ c rfl rfl (by omega) (by omega) ?_; intro v5 w5 hO5 f5)
        have hF5 := HF.out.fresh f5 (fun q hq => by have := (HO.out.lt q hq).1; omega)
        go_roundw
        case rel => exact ⟨i + 1, D ++ [c], by push_cast; rfl, by omega, by omega, by rw [List.length_append]; simp; omega, hO5, hF5, HM⟩
        case measure => simp [intOf]; omega
    · have HE := Lib.hid (qti_none hn.out hlt)
      have HF := Lib.hid hF
      clear hO hF hn
      go_wp2
      go_ret2
      exact ⟨by rw [HE.out]; rfl, HF.out⟩

/-! ### Marks -/
/-- of how many bytes the mark is -/
def mkR (l : List UInt8) : Nat := match mkT l with
  | none => 0
  | some t => t.length
def twosL : List (List UInt8) := [[60, 62], [60, 61], [62, 61]]
def onesL : List UInt8 := [44, 40, 41, 42, 61, 60, 62]
theorem mk_two {l t : List UInt8} (ht : t ∈ twosL) (h : t.isPrefixOf l = true) : mkR l = 2 := by
  cases l with
  | nil => simp only [twosL, List.mem_cons, List.mem_nil_iff, or_false] at ht; rcases ht with rfl | rfl | rfl <;> simp [List.isPrefixOf] at h
  | cons c l =>
    cases l with
    | nil => simp only [twosL, List.mem_cons, List.mem_nil_iff, or_false] at ht; rcases ht with rfl | rfl | rfl <;> simp [List.isPrefixOf] at h
    | cons d l =>
      simp only [twosL, List.mem_cons, List.mem_nil_iff, or_false] at ht
      rcases ht with rfl | rfl | rfl
      all_goals
        simp [List.isPrefixOf] at h
        obtain ⟨rfl, rfl⟩ := h
        simp [mkR, mkT, marksL, List.isPrefixOf]
theorem mk_one {c : UInt8} {l : List UInt8} (h2 : ∀ t ∈ twosL, t.isPrefixOf (c :: l) = false) (h : c ∈ onesL) : mkR (c :: l) = 1 := by
  have h20 := h2 [60, 62] (by simp [twosL])
  have h21 := h2 [60, 61] (by simp [twosL])
  have h22 := h2 [62, 61] (by simp [twosL])
  simp only [onesL, List.mem_cons, List.mem_nil_iff, or_false] at h
  unfold mkR mkT marksL
  simp only [List.find?_cons, h20, h21, h22]
  rcases h with rfl | rfl | rfl | rfl | rfl | rfl | rfl <;> simp [List.isPrefixOf]
theorem mkR_zero {c : UInt8} {l : List UInt8} (h2 : ∀ t ∈ twosL, t.isPrefixOf (c :: l) = false) (h : c ∉ onesL) : mkR (c :: l) = 0 := by
  have h20 := h2 [60, 62] (by simp [twosL])
  have h21 := h2 [60, 61] (by simp [twosL])
  have h22 := h2 [62, 61] (by simp [twosL])
  simp only [onesL, List.mem_cons, List.mem_nil_iff, or_false, not_or] at h
  obtain ⟨n1, n2, n3, n4, n5, n6, n7⟩ := h
  have f : ∀ (m : UInt8), c ≠ m → List.isPrefixOf [m] (c :: l) = false := fun m e => by simp [List.isPrefixOf]; exact fun x => e x.symm
  unfold mkR mkT marksL
  simp only [List.find?_cons, h20, h21, h22, f _ n1, f _ n2, f _ n3, f _ n4, f _ n5, f _ n6, f _ n7, List.find?_nil]
theorem pre_two (l : List UInt8) (a b : UInt8) : List.isPrefixOf [a, b] l = (decide (2 ≤ l.length) && (l.take 2 == [a, b])) := by
  cases l with
  | nil => rfl
  | cons c l =>
    cases l with
    | nil => simp [List.isPrefixOf]
    | cons d l =>
      rw [Bool.eq_iff_iff]
      simp [List.isPrefixOf]
      constructor <;> (rintro ⟨h1, h2⟩; exact ⟨h1.symm, h2.symm⟩)

set_option maxHeartbeats 4000000 in
theorem rmark_any (l : List UInt8) (w : World) (h1 : 1 ≤ l.length) (hl : l.length ≤ 100000000) : Calls Tryz.prog 83 #[.string ⟨l.toArray⟩] w fun e w' => e = .returned (.int .i64 (mkR l : Nat)) ∧ Fr Non w w' := by
  obtain ⟨c, r, hcr, hc, _⟩ := drop_is (l := l) (k := 0) (by omega)
  rw [List.drop_zero] at hcr
  have hg0 := byteW hc
  have HT := Lib.hid (fun (t : List UInt8) (ht : t ∈ twosL) => mk_two (l := l) ht)
  have HO := Lib.hid (hcr ▸ mk_one (c := c) (l := r) : (∀ t ∈ twosL, t.isPrefixOf l = false) → c ∈ onesL → mkR l = 1)
  have HZ := Lib.hid (hcr ▸ mkR_zero (c := c) (l := r) : (∀ t ∈ twosL, t.isPrefixOf l = false) → c ∉ onesL → mkR l = 0)
  have hx := ext_to l 2
  clear hcr hc
  go_enter Tryz.func83, Tryz.ntmps83
  go_wp2
  have B0 := Blk.new w 9 #[.string ⟨#[60, 62]⟩, .string ⟨#[60, 61]⟩, .string ⟨#[62, 61]⟩]
  go_loopw [4] (fun b wr => ∃ (i : Nat), b = .int .i64 (i : Int) ∧ i ≤ 3 ∧ Fr Non (w.alloc (.cells #[.string ⟨#[60, 62]⟩, .string ⟨#[60, 61]⟩, .string ⟨#[62, 61]⟩] 9)) wr ∧ Hid (∀ t ∈ twosL.take i, t.isPrefixOf l = false)) (fun b _ => 3 - (intOf b).toNat)
  case atStart => exact ⟨0, rfl, by omega, Fr.refl _ _, Lib.hid (by simp)⟩
  case round =>
    obtain ⟨i, rfl, hi, hF, hn⟩ := hrel
    by_cases h3 : i = 3
    · subst h3
      have HN : Hid (∀ t ∈ twosL, t.isPrefixOf l = false) := hn
      have HF := Lib.hid (((Fr.refl Non w).alloc _).then hF)
      clear hn hF B0 hi
      go_wp2
      go_loopw [6] (fun b wq => ∃ (i : Nat), b = .int .i64 (i : Int) ∧ i ≤ 7 ∧ Fr Non w wq ∧ Hid (∀ o ∈ onesL.take i, c ≠ o)) (fun b _ => 7 - (intOf b).toNat)
      case atStart => exact ⟨0, rfl, by omega, HF.out, Lib.hid (by simp)⟩
      case round =>
        obtain ⟨i, rfl, hi, hF, hn⟩ := hrel
        by_cases h7 : i = 7
        · subst h7
          have HE := Lib.hid (HZ.out HN.out (fun h => hn.out c h rfl))
          have HF2 := Lib.hid hF
          clear hF hn
          go_wp2
          go_ret
          exact ⟨by rw [HE.out]; rfl, HF2.out⟩
        · obtain ⟨o, ho⟩ : ∃ o, onesL[i]? = some o := ⟨onesL[i]'(by show i < 7; omega), List.getElem?_eq_getElem _⟩
          have hone : ∀ h : i < ByteArray.size ⟨#[44, 40, 41, 42, 61, 60, 62]⟩, (⟨#[44, 40, 41, 42, 61, 60, 62]⟩ : ByteArray)[i] = o := byteW (l := onesL) ho
          have hi7 : decide ((i : Int) < 7) = true := by simp; omega
          have hi8 : i < ByteArray.size ⟨#[44, 40, 41, 42, 61, 60, 62]⟩ := by show i < 7; omega
          by_cases hco : c = o
          · have HE := Lib.hid (HO.out HN.out (by rw [hco]; exact List.mem_of_getElem? ho))
            have hcb : ((c.toNat : Int) == (o.toNat : Int)) = true := by rw [hco]; simp
            have HF2 := Lib.hid hF
            clear hF hn hco ho
            go_wp2_with fail
            go_quiet (fail)
            go_wp2
            go_ret
            exact ⟨by rw [HE.out]; rfl, HF2.out.drewN _⟩
          · have HM : Hid (∀ o ∈ onesL.take (i + 1), c ≠ o) := Lib.hid (by
              intro x hx
              rw [List.take_add_one, ho] at hx
              rcases List.mem_append.1 hx with hx | hx
              · exact hn.out x hx
              · obtain rfl : x = o := by simpa using hx
                exact hco)
            have hcb : ((c.toNat : Int) == (o.toNat : Int)) = false := by rw [beq_eq_false_iff_ne]; intro e; exact hco (UInt8.toNat.inj (by omega))
            have HF2 := Lib.hid hF
            clear hF hn hco ho
            go_wp2_with fail
            go_quiet (fail)
            go_wp2
            go_roundw
            case rel => exact ⟨i + 1, by push_cast; rfl, by omega, HF2.out.drewN _, HM⟩
            case measure => simp [intOf]; omega
    · obtain ⟨t, ht⟩ : ∃ t, twosL[i]? = some t := ⟨twosL[i]'(by show i < 3; omega), List.getElem?_eq_getElem _⟩
      have B1 := B0.fr hF (fun e => e)
      have d0 := B1.cell 0
      have d1 := B1.cell 1
      have d2 := B1.cell 2
      simp at d0 d1 d2
      have HF := Lib.hid hF
      have HF0 := Lib.hid (((Fr.refl Non w).alloc _).then hF)
      clear B1 hF
      by_cases h2 : 2 ≤ l.length
      · have hb2 : decide ((2 : Int) ≤ (l.length : Int)) = true := by simp; omega
        cases hp : t.isPrefixOf l with
        | true =>
          have HE := Lib.hid (HT.out t (List.mem_of_getElem? ht) hp)
          clear hn
          rcases (by omega : i = 0 ∨ i = 1 ∨ i = 2) with rfl | rfl | rfl
          all_goals
            simp only [twosL, List.getElem?_cons_succ, List.getElem?_cons_zero, Option.some.injEq] at ht
            subst ht
            rw [pre_two] at hp
            simp only [h2, decide_true, Bool.true_and] at hp
            go_wp2_with fail
            go_quiet (fail)
            go_wp2
            go_ret
            exact ⟨by rw [HE.out]; rfl, HF0.out.drewN _⟩
        | false =>
          have HM : Hid (∀ t ∈ twosL.take (i + 1), t.isPrefixOf l = false) := Lib.hid (by
            intro x hx
            rw [List.take_add_one, ht] at hx
            rcases List.mem_append.1 hx with hx | hx
            · exact hn.out x hx
            · obtain rfl : x = t := by simpa using hx
              exact hp)
          clear hn
          rcases (by omega : i = 0 ∨ i = 1 ∨ i = 2) with rfl | rfl | rfl
          all_goals
            simp only [twosL, List.getElem?_cons_succ, List.getElem?_cons_zero, Option.some.injEq] at ht
            subst ht
            rw [pre_two] at hp
            simp only [h2, decide_true, Bool.true_and] at hp
            go_wp2_with fail
            go_quiet (fail)
            go_wp2
            go_roundw
            case rel => refine ⟨_, ?_, ?_, HF.out.drewN _, HM⟩ <;> first | trivial | rfl | omega
            case measure => simp [intOf]
      · have hb2 : decide ((2 : Int) ≤ (l.length : Int)) = false := by simp; omega
        have HM : Hid (∀ t ∈ twosL.take (i + 1), t.isPrefixOf l = false) := Lib.hid (by
          intro x hx
          have hm := List.mem_of_mem_take hx
          simp only [twosL, List.mem_cons, List.mem_nil_iff, or_false] at hm
          rcases hm with rfl | rfl | rfl <;> (rw [pre_two]; simp [h2]))
        clear h2 hn
        rcases (by omega : i = 0 ∨ i = 1 ∨ i = 2) with rfl | rfl | rfl
        all_goals
          go_wp2_with fail
          go_quiet (fail)
          go_wp2
          go_roundw
          case rel => refine ⟨_, ?_, ?_, HF.out.drewN _, HM⟩ <;> first | trivial | rfl | omega
          case measure => simp [intOf]
end Go.Proofs.YtipgaafgnefmdaaGreatDoor


namespace Go.Proofs.YtipgaafgnefmdaaGreatDoor
set_option linter.unusedVariables false
set_option linter.unusedSimpArgs false
set_option maxRecDepth 100000
open Go.RowKit

theorem tkB_mark {l t : List UInt8} (h : mkT l = some t) : mkR l = t.length ∧ l.take t.length = t := by
  refine ⟨by unfold mkR; rw [h], ?_⟩
  have := (mkT_pre h).1
  rw [List.isPrefixOf_iff_prefix] at this
  exact (List.prefix_iff_eq_take.1 this).symm
theorem spi_more {p : UInt8 → Bool} {l : List UInt8} {n : Nat} {c : UInt8} (h : spanN p l = n + spanN p (l.drop n)) (hc : l[n]? = some c) (hp : p c = true) : spanN p l = n + 1 + spanN p (l.drop (n + 1)) := by
  obtain ⟨hi, rfl⟩ := List.getElem?_eq_some_iff.1 hc
  rw [List.drop_eq_getElem_cons hi, span_yes hp] at h
  omega
theorem spi_stop {p : UInt8 → Bool} {l : List UInt8} {n : Nat} {c : UInt8} (h : spanN p l = n + spanN p (l.drop n)) (hc : l[n]? = some c) (hp : p c = false) : spanN p l = n := by
  obtain ⟨hi, rfl⟩ := List.getElem?_eq_some_iff.1 hc
  rw [List.drop_eq_getElem_cons hi, span_no hp] at h
  omega
/-- so far, of a number's digits -/
def DgI (l : List UInt8) (n : Nat) : Prop := spanN digB (l.drop 1) + 1 = n + spanN digB (l.drop n)
theorem dgi_more {l : List UInt8} {n : Nat} {c : UInt8} (h : DgI l n) (hc : l[n]? = some c) (hp : digB c = true) : DgI l (n + 1) := by
  obtain ⟨hi, rfl⟩ := List.getElem?_eq_some_iff.1 hc
  unfold DgI at h ⊢
  rw [List.drop_eq_getElem_cons hi, span_yes hp] at h
  omega
theorem dgi_stop {l : List UInt8} {n : Nat} {c : UInt8} (h : DgI l n) (hc : l[n]? = some c) (hp : digB c = false) : 1 + spanN digB (l.drop 1) = n := by
  obtain ⟨hi, rfl⟩ := List.getElem?_eq_some_iff.1 hc
  unfold DgI at h
  rw [List.drop_eq_getElem_cons hi, span_no hp] at h
  omega
theorem dgi_end {l : List UInt8} {n : Nat} (h : DgI l n) (hn : ¬ n < l.length) : 1 + spanN digB (l.drop 1) = n := by
  unfold DgI at h
  have e : l.drop n = [] := List.drop_eq_nil_of_le (by omega)
  rw [e] at h
  have e0 : spanN digB ([] : List UInt8) = 0 := rfl
  omega
theorem spi_end {p : UInt8 → Bool} {l : List UInt8} {n : Nat} (h : spanN p l = n + spanN p (l.drop n)) (hn : ¬ n < l.length) : spanN p l = n := by
  rw [List.drop_eq_nil_of_le (by omega)] at h
  simpa [spanN] using h
/-- the first word, by its first byte -/
theorem one_let {l : List UInt8} {c : UInt8} (hc : l[0]? = some c) (h : letB c = true) {n : Nat} (hn : spanN innB l = n) : oneB l = some (⟨1, l.take n, 0, 0⟩, n) := by
  cases l with
  | nil => simp at hc
  | cons d r =>
    obtain rfl : d = c := by simpa using hc
    subst hn
    simp only [oneB, if_pos h]
theorem one_num {l : List UInt8} {c : UInt8} (hc : l[0]? = some c) (h : letB c = false) (h2 : (digB c || decide (c = 45)) = true) {n : Nat} (hn : 1 + spanN digB (l.drop 1) = n) : oneB l = (valB (l.take n)).map fun v => (⟨2, [], v, 0⟩, n) := by
  cases l with
  | nil => simp at hc
  | cons d r =>
    obtain rfl : d = c := by simpa using hc
    subst hn
    have h' : ¬ (letB d = true) := by rw [h]; simp
    simp only [oneB, if_neg h', if_pos h2]
    rfl
theorem one_txt {l : List UInt8} {c : UInt8} (hc : l[0]? = some c) (h : c = 39) : oneB l = (qtB (l.drop 1)).map fun x => (⟨3, x.1, 0, 0⟩, x.2 + 1) := by
  cases l with
  | nil => simp at hc
  | cons d r =>
    obtain rfl : d = c := by simpa using hc
    subst h
    rfl
theorem one_mrk {l : List UInt8} {c : UInt8} (hc : l[0]? = some c) (h : letB c = false) (h2 : ¬ (digB c || decide (c = 45)) = true) (h3 : c ≠ 39) : oneB l = (mkT l).map fun t => (⟨4, t, 0, 0⟩, t.length) := by
  cases l with
  | nil => simp at hc
  | cons d r =>
    obtain rfl : d = c := by simpa using hc
    have h' : ¬ (letB d = true) := by rw [h]; simp
    simp only [oneB, if_neg h', if_neg h2, if_neg h3]

set_option maxHeartbeats 4000000 in
theorem rone_let (l : List UInt8) (c : UInt8) (w : World) (hc : l[0]? = some c) (hl : l.length ≤ 1000000) (hlet : letB c = true) : Calls Tryz.prog 53 #[.string ⟨l.toArray⟩] w fun e w' => TkEnd (oneB l) e ∧ Fr Non w w' := by
  have h0 : 0 < l.length := (List.getElem?_eq_some_iff.1 hc).1
  have hg0 := byteW hc
  have HL := Lib.hid (fun V => rlet_any c V)
  rw [hlet] at HL
  have HO := Lib.hid (fun n => one_let (n := n) hc hlet)
  have hz : Hid (spanN innB l = 1 + spanN innB (l.drop 1)) := Lib.hid (spi_more (n := 0) (by simp) hc (by simp [innB, hlet]))
  have hpos : decide (0 < l.length) = true := by simp; omega
  clear hlet hc
  go_enter Tryz.func53, Tryz.ntmps53
  go_wp2_with fail
  refine (HL.out _).mono ?_
  rintro e w1 ⟨rfl, rfl⟩
  clear HL
  go_wp2
  clear hg0 hpos
  have HF0 := Lib.hid (tkR_after (w := w) (Fr.refl Non _))
  go_loopw [5] (fun b wr => ∃ n : Nat, b = .int .i64 (n : Int) ∧ 1 ≤ n ∧ n ≤ l.length ∧ wr = w.alloc (.cells #[.int .i64 0, .string ⟨#[]⟩, .int .i64 0, .int .i64 0] 64) ∧ Hid (spanN innB l = n + spanN innB (l.drop n))) (fun b _ => l.length - (intOf b).toNat)
  case atStart => exact ⟨1, rfl, by omega, by omega, rfl, hz⟩
  case round =>
    obtain ⟨n, rfl, hn1, hn, rfl, hd⟩ := hrel
    obtain ⟨hB, hf⟩ := HF0.out
    obtain ⟨c0, c1, c2, c3, z0, z1, z2, z3⟩ := hB.facts
    dsimp only [noTk] at c0 c1 c2 c3
    have HB := Lib.hid hB
    have HF := Lib.hid hf
    clear hB hf
    generalize w.alloc (.cells #[.int .i64 0, .string ⟨#[]⟩, .int .i64 0, .int .i64 0] 64) = W at *
    by_cases hlt : n < l.length
    · obtain ⟨x, r, _, hx, _⟩ := drop_is hlt
      have hg := byteW hx
      have HL := Lib.hid (fun V => rlet_any x V)
      have HD := Lib.hid (fun V => rdig_any x V)
      have hltb : decide (n < l.length) = true := by simp; omega
      cases hi : innB x with
      | true =>
        have HM := Lib.hid (spi_more hd.out hx hi)
        clear hd hx
        cases h1 : letB x with
        | true =>
          rw [h1] at HL
          clear hi HD
          go_wp2_with fail
          refine (HL.out _).mono ?_
          rintro e w1 ⟨rfl, rfl⟩
          clear HL
          go_wp2
          go_roundw
          case rel => exact ⟨n + 1, by push_cast; rfl, by omega, by omega, (by first | rfl | trivial), HM⟩
          case measure => simp [intOf]; omega
        | false =>
          rw [h1] at HL
          cases h2 : digB x with
          | true =>
            rw [h2] at HD
            clear hi
            go_wp2_with fail
            refine (HL.out _).mono ?_
            rintro e w1 ⟨rfl, rfl⟩
            clear HL
            go_wp2_with fail
            refine (HD.out _).mono ?_
            rintro e w1 ⟨rfl, rfl⟩
            clear HD
            go_wp2
            go_roundw
            case rel => exact ⟨n + 1, by push_cast; rfl, by omega, by omega, (by first | rfl | trivial), HM⟩
            case measure => simp [intOf]; omega
          | false =>
            rw [h2] at HD
            have hb95 : ((x.toNat : Int) == 95) = true := by simp [innB, h1, h2] at hi; simp; omega
            clear hi
            go_wp2_with fail
            refine (HL.out _).mono ?_
            rintro e w1 ⟨rfl, rfl⟩
            clear HL
            go_wp2_with fail
            refine (HD.out _).mono ?_
            rintro e w1 ⟨rfl, rfl⟩
            clear HD
            go_wp2
            go_roundw
            case rel => exact ⟨n + 1, by push_cast; rfl, by omega, by omega, (by first | rfl | trivial), HM⟩
            case measure => simp [intOf]; omega
      | false =>
        have HE := Lib.hid (HO.out n (spi_stop hd.out hx hi))
        have hxt := ext_to l n
        have h1 : letB x = false := by simp [innB] at hi; exact hi.1.1
        have h2 : digB x = false := by simp [innB] at hi; exact hi.1.2
        have hb95 : ((x.toNat : Int) == 95) = false := by simp [innB] at hi; rw [beq_eq_false_iff_ne]; omega
        rw [h1] at HL
        rw [h2] at HD
        clear hd hx hi h1 h2
        generalize l.take n = m at *
        go_wp2_with fail
        refine (HL.out _).mono ?_
        rintro e w1 ⟨rfl, rfl⟩
        clear HL
        go_wp2_with fail
        refine (HD.out _).mono ?_
        rintro e w1 ⟨rfl, rfl⟩
        clear HD
        go_wp2
        rw [HE.out]
        exact bodyPost_ret (ret_tkR (p := 2) (u := 3) rfl _ _ w.heap.size ⟨1, m, 0, 0⟩ (.int .i64 (n : Int)) rfl rfl (setTk_R HB.out ⟨1, m, 0, 0⟩)) rfl ⟨rfl, setTk_end HF.out ⟨1, m, 0, 0⟩⟩
    · have HE := Lib.hid (HO.out n (spi_end hd.out hlt))
      have hxt := ext_to l n
      have hltb : decide (n < l.length) = false := by simp; omega
      clear hd
      generalize l.take n = m at *
      go_wp2
      rw [HE.out]
      exact bodyPost_ret (ret_tkR (p := 2) (u := 3) rfl _ _ w.heap.size ⟨1, m, 0, 0⟩ (.int .i64 (n : Int)) rfl rfl (setTk_R HB.out ⟨1, m, 0, 0⟩)) rfl ⟨rfl, setTk_end HF.out ⟨1, m, 0, 0⟩⟩

set_option maxHeartbeats 4000000 in
theorem rone_num (l : List UInt8) (c : UInt8) (w : World) (hc : l[0]? = some c) (hl : l.length ≤ 1000000) (hlet : letB c = false) (hnum : (digB c || decide (c = 45)) = true) : Calls Tryz.prog 53 #[.string ⟨l.toArray⟩] w fun e w' => TkEnd (oneB l) e ∧ Fr Non w w' := by
  have h0 : 0 < l.length := (List.getElem?_eq_some_iff.1 hc).1
  have hg0 := byteW hc
  have HL := Lib.hid (fun V => rlet_any c V)
  have HD := Lib.hid (fun V => rdig_any c V)
  rw [hlet] at HL
  have HO := Lib.hid (fun n => one_num (n := n) hc hlet hnum)
  have hz : Hid (DgI l 1) := Lib.hid (by unfold DgI; omega)
  have hpos : decide (0 < l.length) = true := by simp; omega
  have H45 : digB c = false → c = 45 := fun h => by simpa [h] using hnum
  replace H45 := Lib.hid H45
  clear hlet hc hnum
  have HF0 := Lib.hid (tkR_after (w := w) (Fr.refl Non _))
  have HV := Lib.hid (fun V n => rvalue_any (l.take n) V (by rw [List.length_take]; omega))
  have key : ∀ (b : Bool), digB c = b → Calls Tryz.prog 53 #[.string ⟨l.toArray⟩] w fun e w' => TkEnd (oneB l) e ∧ Fr Non w w' := by
    intro b hb
    rw [hb] at HD
    cases b with
    | true =>
      clear H45
      go_enter Tryz.func53, Tryz.ntmps53
      go_wp2_with fail
      refine (HL.out _).mono ?_
      rintro e w1 ⟨rfl, rfl⟩
      clear HL
      go_wp2_with fail
      refine (HD.out _).mono ?_
      rintro e w1 ⟨rfl, rfl⟩
      clear HD
      go_wp2
      clear hg0 hpos
      go_loopw [6] (fun b wr => ∃ n : Nat, b = .int .i64 (n : Int) ∧ 1 ≤ n ∧ n ≤ l.length ∧ wr = w.alloc (.cells #[.int .i64 0, .string ⟨#[]⟩, .int .i64 0, .int .i64 0] 64) ∧ Hid (DgI l n)) (fun b _ => l.length - (intOf b).toNat)
      case atStart => exact ⟨1, rfl, by omega, by omega, rfl, hz⟩
      case round =>
        obtain ⟨n, rfl, hn1, hn, rfl, hd⟩ := hrel
        by_cases hlt : n < l.length
        · obtain ⟨x, r, _, hx, _⟩ := drop_is hlt
          have hg := byteW hx
          have HD := Lib.hid (fun V => rdig_any x V)
          have hltb : decide (n < l.length) = true := by simp; omega
          cases h2 : digB x with
          | true =>
            have HM := Lib.hid (dgi_more hd.out hx h2)
            rw [h2] at HD
            clear hd hx h2
            go_wp2_with fail
            refine (HD.out _).mono ?_
            rintro e w1 ⟨rfl, rfl⟩
            clear HD
            go_wp2
            go_roundw
            case rel => exact ⟨n + 1, by push_cast; rfl, by omega, by omega, (by first | rfl | trivial), HM⟩
            case measure => simp [intOf]; omega
          | false =>
            have HE := Lib.hid (HO.out n (dgi_stop hd.out hx h2))
            have HV2 := Lib.hid (fun V => HV.out V n)
            have hxt := ext_to l n
            rw [h2] at HD
            clear hd hx h2 HV HO
            generalize l.take n = m at *
            go_wp2_with fail
            refine (HD.out _).mono ?_
            rintro e w1 ⟨rfl, rfl⟩
            clear HD
            go_wp2_with fail
            refine (HV2.out _).mono ?_
            rintro e w2 ⟨x, rfl, hv, hf2⟩
            obtain ⟨hB, hf⟩ := tkR_after hf2
            obtain ⟨c0, c1, c2, c3, z0, z1, z2, z3⟩ := hB.facts
            dsimp only [noTk] at c0 c1 c2 c3
            have HB := Lib.hid hB
            have HF := Lib.hid hf
            clear hB hf hf2 HV2
            cases hm : valB m with
            | none =>
              clear hv
              go_wp2
              rw [HE.out, hm]
              exact bodyPost_ret (ret_tkR (p := 2) (u := 3) rfl _ _ w.heap.size noTk (.int .i64 0) rfl rfl (setTk_R HB.out noTk)) rfl ⟨⟨noTk, rfl⟩, setTk_end HF.out noTk⟩
            | some v =>
              obtain rfl := hv v hm
              clear hv
              go_wp2
              rw [HE.out, hm]
              exact bodyPost_ret (ret_tkR (p := 2) (u := 3) rfl _ _ w.heap.size ⟨2, [], x, 0⟩ (.int .i64 (n : Int)) rfl rfl (setTk_R HB.out ⟨2, [], x, 0⟩)) rfl ⟨rfl, setTk_end HF.out ⟨2, [], x, 0⟩⟩
        · have HE := Lib.hid (HO.out n (dgi_end hd.out hlt))
          have HV2 := Lib.hid (fun V => HV.out V n)
          have hxt := ext_to l n
          have hltb : decide (n < l.length) = false := by simp; omega
          clear hd HV HO
          generalize l.take n = m at *
          go_wp2_with fail
          refine (HV2.out _).mono ?_
          rintro e w2 ⟨x, rfl, hv, hf2⟩
          obtain ⟨hB, hf⟩ := tkR_after hf2
          obtain ⟨c0, c1, c2, c3, z0, z1, z2, z3⟩ := hB.facts
          dsimp only [noTk] at c0 c1 c2 c3
          have HB := Lib.hid hB
          have HF := Lib.hid hf
          clear hB hf hf2 HV2
          cases hm : valB m with
          | none =>
            clear hv
            go_wp2
            rw [HE.out, hm]
            exact bodyPost_ret (ret_tkR (p := 2) (u := 3) rfl _ _ w.heap.size noTk (.int .i64 0) rfl rfl (setTk_R HB.out noTk)) rfl ⟨⟨noTk, rfl⟩, setTk_end HF.out noTk⟩
          | some v =>
            obtain rfl := hv v hm
            clear hv
            go_wp2
            rw [HE.out, hm]
            exact bodyPost_ret (ret_tkR (p := 2) (u := 3) rfl _ _ w.heap.size ⟨2, [], x, 0⟩ (.int .i64 (n : Int)) rfl rfl (setTk_R HB.out ⟨2, [], x, 0⟩)) rfl ⟨rfl, setTk_end HF.out ⟨2, [], x, 0⟩⟩

    | false =>
      obtain rfl := H45.out hb
      clear H45
      go_enter Tryz.func53, Tryz.ntmps53
      go_wp2_with fail
      refine (HL.out _).mono ?_
      rintro e w1 ⟨rfl, rfl⟩
      clear HL
      go_wp2_with fail
      refine (HD.out _).mono ?_
      rintro e w1 ⟨rfl, rfl⟩
      clear HD
      go_wp2
      clear hg0 hpos
      go_loopw [6] (fun b wr => ∃ n : Nat, b = .int .i64 (n : Int) ∧ 1 ≤ n ∧ n ≤ l.length ∧ wr = w.alloc (.cells #[.int .i64 0, .string ⟨#[]⟩, .int .i64 0, .int .i64 0] 64) ∧ Hid (DgI l n)) (fun b _ => l.length - (intOf b).toNat)
      case atStart => exact ⟨1, rfl, by omega, by omega, rfl, hz⟩
      case round =>
        obtain ⟨n, rfl, hn1, hn, rfl, hd⟩ := hrel
        by_cases hlt : n < l.length
        · obtain ⟨x, r, _, hx, _⟩ := drop_is hlt
          have hg := byteW hx
          have HD := Lib.hid (fun V => rdig_any x V)
          have hltb : decide (n < l.length) = true := by simp; omega
          cases h2 : digB x with
          | true =>
            have HM := Lib.hid (dgi_more hd.out hx h2)
            rw [h2] at HD
            clear hd hx h2
            go_wp2_with fail
            refine (HD.out _).mono ?_
            rintro e w1 ⟨rfl, rfl⟩
            clear HD
            go_wp2
            go_roundw
            case rel => exact ⟨n + 1, by push_cast; rfl, by omega, by omega, (by first | rfl | trivial), HM⟩
            case measure => simp [intOf]; omega
          | false =>
            have HE := Lib.hid (HO.out n (dgi_stop hd.out hx h2))
            have HV2 := Lib.hid (fun V => HV.out V n)
            have hxt := ext_to l n
            rw [h2] at HD
            clear hd hx h2 HV HO
            generalize l.take n = m at *
            go_wp2_with fail
            refine (HD.out _).mono ?_
            rintro e w1 ⟨rfl, rfl⟩
            clear HD
            go_wp2_with fail
            refine (HV2.out _).mono ?_
            rintro e w2 ⟨x, rfl, hv, hf2⟩
            obtain ⟨hB, hf⟩ := tkR_after hf2
            obtain ⟨c0, c1, c2, c3, z0, z1, z2, z3⟩ := hB.facts
            dsimp only [noTk] at c0 c1 c2 c3
            have HB := Lib.hid hB
            have HF := Lib.hid hf
            clear hB hf hf2 HV2
            cases hm : valB m with
            | none =>
              clear hv
              go_wp2
              rw [HE.out, hm]
              exact bodyPost_ret (ret_tkR (p := 2) (u := 3) rfl _ _ w.heap.size noTk (.int .i64 0) rfl rfl (setTk_R HB.out noTk)) rfl ⟨⟨noTk, rfl⟩, setTk_end HF.out noTk⟩
            | some v =>
              obtain rfl := hv v hm
              clear hv
              go_wp2
              rw [HE.out, hm]
              exact bodyPost_ret (ret_tkR (p := 2) (u := 3) rfl _ _ w.heap.size ⟨2, [], x, 0⟩ (.int .i64 (n : Int)) rfl rfl (setTk_R HB.out ⟨2, [], x, 0⟩)) rfl ⟨rfl, setTk_end HF.out ⟨2, [], x, 0⟩⟩
        · have HE := Lib.hid (HO.out n (dgi_end hd.out hlt))
          have HV2 := Lib.hid (fun V => HV.out V n)
          have hxt := ext_to l n
          have hltb : decide (n < l.length) = false := by simp; omega
          clear hd HV HO
          generalize l.take n = m at *
          go_wp2_with fail
          refine (HV2.out _).mono ?_
          rintro e w2 ⟨x, rfl, hv, hf2⟩
          obtain ⟨hB, hf⟩ := tkR_after hf2
          obtain ⟨c0, c1, c2, c3, z0, z1, z2, z3⟩ := hB.facts
          dsimp only [noTk] at c0 c1 c2 c3
          have HB := Lib.hid hB
          have HF := Lib.hid hf
          clear hB hf hf2 HV2
          cases hm : valB m with
          | none =>
            clear hv
            go_wp2
            rw [HE.out, hm]
            exact bodyPost_ret (ret_tkR (p := 2) (u := 3) rfl _ _ w.heap.size noTk (.int .i64 0) rfl rfl (setTk_R HB.out noTk)) rfl ⟨⟨noTk, rfl⟩, setTk_end HF.out noTk⟩
          | some v =>
            obtain rfl := hv v hm
            clear hv
            go_wp2
            rw [HE.out, hm]
            exact bodyPost_ret (ret_tkR (p := 2) (u := 3) rfl _ _ w.heap.size ⟨2, [], x, 0⟩ (.int .i64 (n : Int)) rfl rfl (setTk_R HB.out ⟨2, [], x, 0⟩)) rfl ⟨rfl, setTk_end HF.out ⟨2, [], x, 0⟩⟩

  exact key _ rfl

set_option maxHeartbeats 1000000 in
theorem rone_txt (l : List UInt8) (w : World) (hc : l[0]? = some 39) (hl : l.length ≤ 1000000) : Calls Tryz.prog 53 #[.string ⟨l.toArray⟩] w fun e w' => TkEnd (oneB l) e ∧ Fr Non w w' := by
  have h0 : 0 < l.length := (List.getElem?_eq_some_iff.1 hc).1
  have hg0 := byteW hc
  have HL := Lib.hid (fun V => rlet_any 39 V)
  have HD := Lib.hid (fun V => rdig_any 39 V)
  rw [show letB 39 = false by decide] at HL
  rw [show digB 39 = false by decide] at HD
  have HO := Lib.hid (one_txt hc rfl)
  have HQ := Lib.hid (fun V => rquoted_any l V (by omega) (by omega))
  have hpos : decide (0 < l.length) = true := by simp; omega
  clear hc
  go_enter Tryz.func53, Tryz.ntmps53
  go_wp2_with fail
  refine (HL.out _).mono ?_
  rintro e w1 ⟨rfl, rfl⟩
  clear HL
  go_wp2_with fail
  refine (HD.out _).mono ?_
  rintro e w1 ⟨rfl, rfl⟩
  clear HD
  go_wp2_with fail
  refine (HQ.out _).mono ?_
  rintro e w2 ⟨hE, hf2⟩
  obtain ⟨hB, hf⟩ := tkR_after hf2
  obtain ⟨c0, c1, c2, c3, z0, z1, z2, z3⟩ := hB.facts
  dsimp only [noTk] at c0 c1 c2 c3
  have HB := Lib.hid hB
  have HF := Lib.hid hf
  clear hB hf hf2 HQ
  cases hq : qtB (l.drop 1) with
  | none =>
    rw [hq] at hE HO
    obtain rfl : e = _ := hE
    clear hq
    go_wp2
    rw [HO.out]
    exact bodyPost_ret (ret_tkR (p := 2) (u := 3) rfl _ _ w.heap.size ⟨3, [], 0, 0⟩ (.int .i64 0) rfl rfl (setTk_R HB.out ⟨3, [], 0, 0⟩)) rfl ⟨⟨⟨3, [], 0, 0⟩, rfl⟩, setTk_end HF.out ⟨3, [], 0, 0⟩⟩
  | some x =>
    obtain ⟨t, n⟩ := x
    rw [hq] at hE HO
    obtain rfl : e = .returned (.tuple #[.string ⟨t.toArray⟩, .int .i64 ((n : Int) + 1)]) := hE
    clear hq
    go_wp2
    rw [HO.out]
    exact bodyPost_ret (ret_tkR (p := 2) (u := 3) rfl _ _ w.heap.size ⟨3, t, 0, 0⟩ (.int .i64 ((n : Int) + 1)) rfl rfl (setTk_R HB.out ⟨3, t, 0, 0⟩)) rfl ⟨tk_end1 ⟨3, t, 0, 0⟩ n, setTk_end HF.out ⟨3, t, 0, 0⟩⟩

set_option maxHeartbeats 1000000 in
theorem rone_mrk (l : List UInt8) (c : UInt8) (w : World) (hc : l[0]? = some c) (hl : l.length ≤ 1000000) (hlet : letB c = false) (hnum : ¬ (digB c || decide (c = 45)) = true) (h39 : c ≠ 39) : Calls Tryz.prog 53 #[.string ⟨l.toArray⟩] w fun e w' => TkEnd (oneB l) e ∧ Fr Non w w' := by
  have h0 : 0 < l.length := (List.getElem?_eq_some_iff.1 hc).1
  have hg0 := byteW hc
  have HL := Lib.hid (fun V => rlet_any c V)
  have HD := Lib.hid (fun V => rdig_any c V)
  rw [hlet] at HL
  have HO := Lib.hid (one_mrk hc hlet hnum h39)
  have HQ := Lib.hid (fun V => rmark_any l V (by omega) (by omega))
  have hpos : decide (0 < l.length) = true := by simp; omega
  simp only [Bool.or_eq_true, not_or, Bool.not_eq_true, decide_eq_true_eq] at hnum
  have hb45 : ((c.toNat : Int) == 45) = false := by rw [beq_eq_false_iff_ne]; intro e; exact hnum.2 ((byt_is c 45 (by omega)).2 (by omega))
  have hb39 : ((c.toNat : Int) == 39) = false := by rw [beq_eq_false_iff_ne]; intro e; exact h39 ((byt_is c 39 (by omega)).2 (by omega))
  rw [hnum.1] at HD
  clear hc hnum h39 hlet
  have hnl : mkR l ≤ l.length ∧ ∀ t, mkT l = some t → mkR l = t.length ∧ l.take (mkR l) = t := by
    cases hm : mkT l with
    | none => exact ⟨by unfold mkR; rw [hm]; simp, fun t h => by cases h⟩
    | some t =>
      obtain ⟨e1, e2⟩ := tkB_mark hm
      refine ⟨?_, fun t' h => by cases h; exact ⟨e1, by rw [e1]; exact e2⟩⟩
      rw [e1]
      have := congrArg List.length e2
      rw [List.length_take] at this
      omega
  have hnone : mkT l = none → mkR l = 0 := fun h => by unfold mkR; rw [h]
  have hxt := ext_to l (mkR l)
  obtain ⟨hnl, hsome⟩ := hnl
  replace hsome := Lib.hid hsome
  replace hnone := Lib.hid hnone
  generalize mkR l = n at *
  generalize l.take n = m at *
  go_enter Tryz.func53, Tryz.ntmps53
  go_wp2_with fail
  refine (HL.out _).mono ?_
  rintro e w1 ⟨rfl, rfl⟩
  clear HL
  go_wp2_with fail
  refine (HD.out _).mono ?_
  rintro e w1 ⟨rfl, rfl⟩
  clear HD
  go_wp2_with fail
  refine (HQ.out _).mono ?_
  rintro e w2 ⟨rfl, hf2⟩
  obtain ⟨hB, hf⟩ := tkR_after hf2
  obtain ⟨c0, c1, c2, c3, z0, z1, z2, z3⟩ := hB.facts
  dsimp only [noTk] at c0 c1 c2 c3
  have HB := Lib.hid hB
  have HF := Lib.hid hf
  clear hB hf hf2 HQ
  go_wp2
  rw [HO.out]
  refine bodyPost_ret (ret_tkR (p := 2) (u := 3) rfl _ _ w.heap.size ⟨4, m, 0, 0⟩ (.int .i64 (n : Int)) rfl rfl (setTk_R HB.out ⟨4, m, 0, 0⟩)) rfl ⟨?_, setTk_end HF.out ⟨4, m, 0, 0⟩⟩
  cases hm : mkT l with
  | none =>
    obtain rfl := hnone.out hm
    exact ⟨_, rfl⟩
  | some t =>
    obtain ⟨rfl, rfl⟩ := hsome.out t hm
    exact rfl
theorem rone_any (l : List UInt8) (w : World) (h1 : 1 ≤ l.length) (hl : l.length ≤ 1000000) : Calls Tryz.prog 53 #[.string ⟨l.toArray⟩] w fun e w' => TkEnd (oneB l) e ∧ Fr Non w w' := by
  obtain ⟨c, r, _, hc, _⟩ := drop_is (l := l) (k := 0) (by omega)
  cases hlet : letB c with
  | true => exact rone_let l c w hc hl hlet
  | false =>
    by_cases hnum : (digB c || decide (c = 45)) = true
    · exact rone_num l c w hc hl hlet hnum
    · by_cases h39 : c = 39
      · exact rone_txt l w (by rw [← h39]; exact hc) hl
      · exact rone_mrk l c w hc hl hlet hnum h39
end Go.Proofs.YtipgaafgnefmdaaGreatDoor


namespace Go.Proofs.YtipgaafgnefmdaaGreatDoor
set_option linter.unusedVariables false
set_option linter.unusedSimpArgs false
set_option maxRecDepth 100000
open Go.RowKit

/-- so far: the words' bytes ended at i -/
structure RI (l : List UInt8) (i : Nat) (D : List Tk) : Prop where
  rest : tokB 0 l = preT D (tokB i (l.drop i))
  few : D.length ≤ i
theorem ri_zero (l : List UInt8) : RI l 0 [] := ⟨by simp [preT_nil], by simp⟩
theorem RI.blank {l : List UInt8} {i : Nat} {D : List Tk} {c : UInt8} (h : RI l i D) (hc : l[i]? = some c) (hk : blkB c = true) : RI l (i + 1) D := by
  obtain ⟨hi, rfl⟩ := List.getElem?_eq_some_iff.1 hc
  have hr := h.rest
  rw [List.drop_eq_getElem_cons hi, tok_blank i hk] at hr
  exact ⟨hr, by have := h.few; omega⟩
theorem RI.bad {l : List UInt8} {i : Nat} {D : List Tk} {c : UInt8} (h : RI l i D) (hc : l[i]? = some c) (hk : blkB c = false) (ho : oneB (l.drop i) = none) : tokB 0 l = .error i := by
  obtain ⟨hi, rfl⟩ := List.getElem?_eq_some_iff.1 hc
  have hr := h.rest
  rw [List.drop_eq_getElem_cons hi] at hr ho
  rw [tok_bad i hk ho] at hr
  exact hr
theorem RI.word {l : List UInt8} {i : Nat} {D : List Tk} {t : Tk} {n : Nat} (h : RI l i D) (hi : i < l.length) (ho : oneB (l.drop i) = some (t, n)) : RI l (i + n) (D ++ [putAt t i]) ∧ 1 ≤ n ∧ i + n ≤ l.length := by
  have hr := h.rest
  have hf := h.few
  rw [List.drop_eq_getElem_cons hi] at ho
  obtain ⟨h1, h2, _⟩ := one_is ho
  rw [← List.drop_eq_getElem_cons hi, List.length_drop] at h2
  rw [List.drop_eq_getElem_cons hi, tok_one i ho, preT_app, ← List.drop_eq_getElem_cons hi, List.drop_drop] at hr
  exact ⟨⟨hr, by simp; omega⟩, h1, by omega⟩
theorem RI.end_ {l : List UInt8} {i : Nat} {D : List Tk} (h : RI l i D) (hi : ¬ i < l.length) (hi2 : i ≤ l.length) : tokB 0 l = .ok (D ++ [⟨0, [], 0, l.length⟩]) := by
  have hr := h.rest
  rw [show i = l.length by omega, List.drop_length, tok_nil] at hr
  exact hr

set_option maxHeartbeats 4000000 in
theorem wordsR_any (l : List UInt8) (w : World) : Calls Tryz.prog 21 #[.string ⟨l.toArray⟩] w fun e w' => ∃ v, e = .returned (.tuple #[v, .int .i64 ((wsB l).2.1 : Nat), .int .i64 ((wsB l).2.2 : Nat)]) ∧ Tks w' v (wsB l).1 ∧ Fr Non w w' := by
  by_cases hlong : 400 < l.length
  · have HE := Lib.hid (all_long hlong)
    have hb : decide ((400 : Int) < (l.length : Int)) = true := by simp; omega
    clear hlong
    go_enter Tryz.func21, Tryz.ntmps21
    go_wp2
    go_ret3
    rw [HE.out]
    exact ⟨_, rfl, Ns.nil_ w, Fr.refl _ _⟩
  · have hb : decide ((400 : Int) < (l.length : Int)) = false := by simp; omega
    have HS := Lib.hid hlong
    have hl4 : l.length ≤ 400 := by omega
    clear hlong
    go_enter Tryz.func21, Tryz.ntmps21
    go_wp2
    clear hb
    go_loopw [5, 6] (fun v bv wr => ∃ i D, i ≤ l.length ∧ bv = .int .i64 (i : Nat) ∧ D.length ≤ 400 ∧ TkoR wr w.heap.size v D ∧ Fr Non w wr ∧ Hid (RI l i D)) (fun _ bv _ => l.length - (intOf bv).toNat)
    case atStart => exact ⟨0, [], by omega, rfl, by simp, no_lit0 w w.heap.size w.heap.size rfl (Nat.le_refl _), (Fr.refl _ _).alloc _, Lib.hid (ri_zero l)⟩
    case round =>
      obtain ⟨i, D, hi, rfl, hD4, hown, hfr, hd⟩ := hrel
      by_cases hlt : i < l.length
      · obtain ⟨c, r, -, hc, -⟩ := drop_is hlt
        have hg := byteW hc
        have hltb : decide (i < l.length) = true := by simp; omega
        have HO := Lib.hid hown
        have HF := Lib.hid hfr
        clear hown hfr
        cases hk : blkB c with
        | true =>
          have HM := Lib.hid (hd.out.blank hc hk)
          clear hd hc
          simp only [blkB, decide_eq_true_eq] at hk
          by_cases k1 : c.toNat = 32
          · have kb1 : ((c.toNat : Int) == 32) = true := by simp; omega
            clear hk k1
            go_wp2
            go_roundw
            case rel => exact ⟨i + 1, D, by omega, by push_cast; rfl, hD4, HO.out, HF.out, HM⟩
            case measure => simp [intOf]; omega
          · have kb1 : ((c.toNat : Int) == 32) = false := by rw [beq_eq_false_iff_ne]; omega
            by_cases k2 : c.toNat = 9
            · have kb2 : ((c.toNat : Int) == 9) = true := by simp; omega
              clear hk k1 k2
              go_wp2
              go_roundw
              case rel => exact ⟨i + 1, D, by omega, by push_cast; rfl, hD4, HO.out, HF.out, HM⟩
              case measure => simp [intOf]; omega
            · have kb2 : ((c.toNat : Int) == 9) = false := by rw [beq_eq_false_iff_ne]; omega
              have kb3 : ((c.toNat : Int) == 10) = true := by simp; omega
              clear hk k1 k2
              go_wp2
              go_roundw
              case rel => exact ⟨i + 1, D, by omega, by push_cast; rfl, hD4, HO.out, HF.out, HM⟩
              case measure => simp [intOf]; omega
        | false =>
          have HFst := Lib.hid (fun V => rone_any (l.drop i) V (by rw [List.length_drop]; omega) (by rw [List.length_drop]; omega))
          have hx := ext_from l i hi
          have HWB := Lib.hid (hd.out.bad hc hk)
          have HWW := Lib.hid (fun t n => hd.out.word (t := t) (n := n) hlt)
          simp only [blkB, decide_eq_false_iff_not, not_or] at hk
          have kb1 : ((c.toNat : Int) == 32) = false := by rw [beq_eq_false_iff_ne]; omega
          have kb2 : ((c.toNat : Int) == 9) = false := by rw [beq_eq_false_iff_ne]; omega
          have kb3 : ((c.toNat : Int) == 10) = false := by rw [beq_eq_false_iff_ne]; omega
          clear hd hc hk
          generalize l.drop i = m at *
          go_wp2_with fail
          refine (HFst.out _).mono ?_
          rintro e w2 ⟨hE, hf2⟩
          clear HFst
          have HO2 := Lib.hid (HO.out.non hf2)
          have HF2 := Lib.hid (HF.out.then hf2)
          clear hf2 HO HF
          cases ho : oneB m with
          | none =>
            rw [ho] at hE
            obtain ⟨t, rfl⟩ := hE
            have HE := Lib.hid (all_bad HS.out (HWB.out ho))
            clear ho HWB HWW
            dsimp only [tkV, tkA]
            go_wp2
            go_ret3
            rw [HE.out]
            exact ⟨_, rfl, Ns.nil_ _, HF2.out.alloc _⟩
          | some y =>
            obtain ⟨t, n⟩ := y
            rw [ho] at hE
            obtain rfl : e = .returned (.tuple #[tkV t, .int .i64 (n : Nat)]) := hE
            obtain ⟨hM, hn1, hin⟩ := HWW.out t n ho
            have hDn := hM.few
            rw [List.length_append] at hDn
            have hn0 : ((n : Int) == 0) = false := by rw [beq_eq_false_iff_ne]; omega
            have HM := Lib.hid hM
            clear ho hM HWB HWW
            have hO4 := HO2.out.alloc (.cells #[.int .i64 t.kind, .string ⟨t.txt.toArray⟩, .int .i64 t.num, .int .i64 (i : Int)] 64)
            have hF4 := HF2.out.alloc (.cells #[.int .i64 t.kind, .string ⟨t.txt.toArray⟩, .int .i64 t.num, .int .i64 (i : Int)] 64)
            have hsz := hF4.size
            have HO4 := Lib.hid hO4
            have HF4 := Lib.hid hF4
            clear hO4 hF4 HO2 HF2
            dsimp only [tkV, tkA]
            go_wp2_with (at_builtin; refine wpList_pushN fd_tk eln_tkR rfl (.tmp 47) (.tmp 49) rfl w.heap.size _ D rfl HO4.out (putAt t i) #[.int .i64 t.kind, .string ⟨t.txt.toArray⟩, .int .i64 t.num, .int .i64 i] rfl _ rfl (by simp) (by omega) (by omega) ?_; intro v5 w5 hO5 f5)
            have hF5 := HF4.out.fresh f5 (fun q hq => by have := (HO4.out.lt q hq).1; omega)
            go_roundw
            case rel => exact ⟨i + n, _, by omega, by push_cast; rfl, by rw [List.length_append]; omega, hO5, hF5, HM⟩
            case measure => simp [intOf]; omega
      · have hltb : decide (i < l.length) = false := by simp; omega
        have HE := Lib.hid (all_ok HS.out (hd.out.end_ hlt hi))
        have HO := Lib.hid hown
        have HF := Lib.hid hfr
        have hsz := hfr.size
        clear hd hown hfr
        go_wp2_with (at_builtin; refine wpList_pushN fd_tk eln_tkR rfl (.tmp 54) (.tmp 58) rfl w.heap.size _ D rfl HO.out ⟨0, [], 0, l.length⟩ #[.int .i64 0, .string ⟨#[]⟩, .int .i64 0, .int .i64 l.length] rfl _ rfl rfl (by omega) (by omega) ?_; intro v5 w5 hO5 f5)
        have hF5 := HF.out.fresh f5 (fun q hq => by have := (HO.out.lt q hq).1; omega)
        go_ret3
        rw [HE.out]
        exact ⟨_, rfl, hO5.ns fd_tk, hF5⟩
end Go.Proofs.YtipgaafgnefmdaaGreatDoor
