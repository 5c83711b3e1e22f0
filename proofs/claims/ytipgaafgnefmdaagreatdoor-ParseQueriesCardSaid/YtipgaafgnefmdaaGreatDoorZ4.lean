/-
  Joined: Layer 19: the program's reader: predicates, however deep. · Layer 19: the program's reader: a single, by the levels left; predicates. · Layer 5: the walks of firkinref05.Put, firkinref05.Same. · Slices of texts: what one reads as; the document's Names; a slice of texts that came in. · Layer 18: an aggregate, a query as values; slices of aggregates; two compared. · Append of one text as a step. · Layer 19: the program's reader: names and aggregates one behind the other; an aggregate. · An aggregate read: its parts; an aggregate in a block: stored whole, handed back. · Layer 19: an aggregate in a block; the program's reader: an aggregate. · A query read: its parts, one behind the other; what is read of it in memory. · Layer 19: the program's reader: a query. · What Query and Where tell of a text, by where a reader stands behind it; three results handed back.
-/
import Derived.Deep.Slices
import Derived.Laws.StructEq
import Derived.Laws.Rows
import Derived.Laws.ResultCell
import Derived.Lib.Zigzag
import Derived.Laws.Cover1
import Derived.Deep.QuietTactic
import Derived.BigQuiet
import Derived.Deep.RegionHeld3
import Derived.Deep.DrawnRows
import Derived.Test.YtipgaafgnefmdaaGreatDoorZ3
import Derived.Test.YtipgaafgnefmdaaGreatDoorZ2
import Derived.Test.YtipgaafgnefmdaaGreatDoorZ1
import Derived.Deep.CutRange
import Derived.Deep.CutBlock

namespace Go.Proofs.YtipgaafgnefmdaaGreatDoor
set_option linter.unusedVariables false
set_option linter.unusedSimpArgs false
set_option maxRecDepth 100000
open Go.RowKit

/-! ### What comes of what -/
theorem level_onS (op : Int) (s : Tx) (step : List Tk → Rd Pd) (σ : Sg) : onS σ (levelK op s step) = mapR (foldL op) (onS σ (someK 1 s step)) := by
  cases σ with
  | ok l => exact level_some op s step l
  | error z => rfl
theorem al_not {σ : Sg} (hf : FinX σ) (n : Nat) (h : sayX notW σ = true) : onS σ (singleK (n + 1)) = mapR (fun p => Pd.mk ⟨5, [], 0, zCl, 0, []⟩ [p]) (onS (.ok (tailX σ)) (singleK n)) := by
  rw [say_isW (by decide) hf] at h
  obtain ⟨l, rfl, h2⟩ := isX_ok h
  unfold onS tailX
  dsimp only
  rw [single_not h2]
  cases singleK n (tlK l) with
  | error z => rfl
  | ok y => rfl
theorem al_open {σ : Sg} (hf : FinX σ) (n : Nat) (h1 : sayX notW σ = false) (h : sayX [40] σ = true) :
    dropV (onS σ (singleK (n + 1))) = onM (dropV (onS (.ok (tailX σ)) (predK n))) (mustK 4 [41]) ∧ ∀ p, (∀ b r, onS (.ok (tailX σ)) (predK n) = .ok (b, r) → p = b) → ∀ b r, onS σ (singleK (n + 1)) = .ok (b, r) → p = b := by
  rw [say_isW (by decide) hf] at h1
  rw [say_isM (by decide) hf] at h
  obtain ⟨l, rfl, h2⟩ := isX_ok h
  unfold onS tailX
  dsimp only
  rw [single_open h1 h2]
  cases predK n (tlK l) with
  | error z => exact ⟨rfl, fun p hp b r e => by cases e⟩
  | ok y =>
    obtain ⟨y1, y2⟩ := y
    dsimp only
    unfold onM dropV
    dsimp only
    cases mustK 4 [41] y2 with
    | error z => exact ⟨rfl, fun p hp b r e => by cases e⟩
    | ok r2 => exact ⟨rfl, fun p hp b r e => by obtain rfl := hp _ _ rfl; cases e; rfl⟩
theorem al_all {σ : Sg} (hf : FinX σ) (n : Nat) (h1 : sayX notW σ = false) (h2 : sayX [40] σ = false) (h : sayX allW σ = true) : onS σ (singleK (n + 1)) = .ok (.mk ⟨1, [], 0, zCl, 0, []⟩ [], tailX σ) := by
  rw [say_isW (by decide) hf] at h1 h
  rw [say_isM (by decide) hf] at h2
  obtain ⟨l, rfl, h3⟩ := isX_ok h
  exact single_all h1 h2 h3
theorem al_ask {σ : Sg} (hf : FinX σ) (n : Nat) (h1 : sayX notW σ = false) (h2 : sayX [40] σ = false) (h : sayX allW σ = false) : onS σ (singleK (n + 1)) = onS σ askedK := by
  rw [say_isW (by decide) hf] at h1 h
  rw [say_isM (by decide) hf] at h2
  cases σ with
  | ok l => exact single_asked h1 h2 h
  | error z => rfl
/-- a predicate that a call gave, in the block made ahead of the call -/
theorem pd_given {w w1 : World} {g : Nat} (p : Pd) (s : Kv) (hg : g < w.heap.size) (hF : Fr (One g) (w.alloc (.cells #[.int .i64 0, .string ⟨#[]⟩, .int .i64 0, .bool false, .int .i64 0, .string ⟨#[]⟩, .int .i64 0, .string ⟨#[]⟩, .slice none 0 0] 28)) w1) (hk : KdS (fun b => (w.alloc (.cells #[.int .i64 0, .string ⟨#[]⟩, .int .i64 0, .bool false, .int .i64 0, .string ⟨#[]⟩, .int .i64 0, .string ⟨#[]⟩, .slice none 0 0] 28)).heap.size ≤ b) w1 s p.kids) :
    PdB w1 w.heap.size ⟨0, [], 0, zCl, 0, []⟩ noKv ∧ Fr (One g) w w1 ∧ KdS (fun b => w.heap.size + 1 ≤ b) w1 s p.kids :=
  ⟨(pd_new w _ ⟨0, [], 0, zCl, 0, []⟩ noKv rfl).fr hF (fun e => by have : w.heap.size = g := e; omega), ((Fr.refl (One g) w).alloc _).trans hF, hk.imp fun b hb _ => by simpa using hb⟩
theorem kd_set {w1 : World} {n : Nat} (h : Ph) (t : Kv) (s : Kv) (ks : List Pd) (hk : KdS (fun b => n + 1 ≤ b) w1 s ks) : KdS (fun b => n ≤ b) (setPd w1 n h t) s ks :=
  (hk.fr (setPd_fr w1 n h t) (fun b hb _ e => by have : b = n := e; omega)).imp fun b hb _ => by omega
theorem pboth_of (B g : Nat) (d : Int) (n : Nat) (G : Pd → Prop) (hr : Reads (singleK n) G) (hstep : StepP B g d 86 (singleK n) PdF) : StepP B g d 59 (bothK n) PdF := by
  intro w σ h
  have F0 : Fr Non w (w.alloc (.cells #[.int .i64 0, .string ⟨#[]⟩, .int .i64 0, .bool false, .int .i64 0, .string ⟨#[]⟩, .int .i64 0, .string ⟨#[]⟩, .slice none 0 0] 28)) := (Fr.refl Non w).alloc _
  have A1 := Lib.hid (preadj_any B g d 1 6 andW 86 (singleK n) G hr (by decide) (fun σ hf => say_isW (by decide) hf) Tryz.call86 hstep σ _ (h.non F0))
  rw [← level_onS] at A1
  have HL := Lib.hid h.lt
  have HE : Hid (onS σ (bothK n) = onS σ (levelK 6 andW (singleK n))) := Lib.hid rfl
  have hmf : ∀ (fn : Fn) (first cap : Array Value) (w : World), (Instr.makeFunc fn first cap).run Tryz.prog w = .ok (.func fn first cap) w := fun _ _ _ _ => rfl
  clear h F0 hr hstep
  generalize onS σ (bothK n) = X at *
  generalize onS σ (levelK 6 andW (singleK n)) = Y at *
  go_enter Tryz.func59, Tryz.ntmps59
  go_wp2_with fail
  refine A1.out.mono ?_
  rintro e w1 ⟨⟨p, v, rfl, ⟨s, rfl, hk, hb⟩, hT, hA⟩, hF⟩
  obtain ⟨hz, hf1, hk1⟩ := pd_given p s (by have := HL.out; omega) hF hk
  have HT1 := Lib.hid hT
  have HF1 := Lib.hid hf1
  have HZ1 := Lib.hid hz
  have HK1 := Lib.hid hk1
  have HB := Lib.hid hb
  have HA := Lib.hid hA
  clear hT hF hA hk hb hz hf1 hk1 A1
  obtain ⟨⟨xo, xc, xm, ⟨xn, xi, xt⟩, xk, xp⟩, xks⟩ := p
  obtain ⟨sA, sn, sc⟩ := s
  unfold pdV pdC kidV
  dsimp only [Pd.hd, Pd.kids] at *
  obtain ⟨f0, f1, f2, f3, f4, f5, f6, f7, f8⟩ := pdB_frozen HZ1.out
  obtain ⟨r0, r1, r2, r3, r4, r5, r6, r7, r8⟩ := pdB_cells HZ1.out
  dsimp only [noKv, zCl] at r0 r1 r2 r3 r4 r5 r6 r7 r8
  have E5 := Lib.hid (setPd_B HZ1.out ⟨xo, xc, xm, ⟨xn, xi, xt⟩, xk, xp⟩ ⟨sA, sn, sc⟩)
  have T5 := Lib.hid (HT1.out.fresh (setPd_fr w1 w.heap.size ⟨xo, xc, xm, ⟨xn, xi, xt⟩, xk, xp⟩ ⟨sA, sn, sc⟩) (fun k e => by have : k = w.heap.size := e; have := HL.out; omega))
  have G5 := Lib.hid (setPd_end HF1.out ⟨xo, xc, xm, ⟨xn, xi, xt⟩, xk, xp⟩ ⟨sA, sn, sc⟩)
  have K5 := Lib.hid (kd_set ⟨xo, xc, xm, ⟨xn, xi, xt⟩, xk, xp⟩ ⟨sA, sn, sc⟩ _ _ HK1.out)
  clear HK1 HF1 HT1 HZ1
  unfold setPd kidV at E5 T5 G5 K5
  dsimp only at E5 T5 G5 K5
  go_wp2
  exact bodyPost_ret (ret_pd (p := 2) rfl _ _ w.heap.size ⟨xo, xc, xm, ⟨xn, xi, xt⟩, xk, xp⟩ ⟨sA, sn, sc⟩ rfl E5.out) rfl ⟨⟨.mk ⟨xo, xc, xm, ⟨xn, xi, xt⟩, xk, xp⟩ xks, _, rfl, ⟨⟨sA, sn, sc⟩, rfl, K5.out, HB.out⟩, by rw [HE.out]; exact T5.out, fun b r e => HA.out b r (by rw [← HE.out]; exact e)⟩, G5.out⟩
theorem ppred_of (B g : Nat) (d : Int) (n : Nat) (G : Pd → Prop) (hr : Reads (bothK n) G) (hstep : StepP B g d 59 (bothK n) PdF) : StepP B g d 31 (predK n) PdF := by
  intro w σ h
  have F0 : Fr Non w (w.alloc (.cells #[.int .i64 0, .string ⟨#[]⟩, .int .i64 0, .bool false, .int .i64 0, .string ⟨#[]⟩, .int .i64 0, .string ⟨#[]⟩, .slice none 0 0] 28)) := (Fr.refl Non w).alloc _
  have A1 := Lib.hid (preadj_any B g d 1 7 orW 59 (bothK n) G hr (by decide) (fun σ hf => say_isW (by decide) hf) Tryz.call59 hstep σ _ (h.non F0))
  rw [← level_onS] at A1
  have HL := Lib.hid h.lt
  have HE : Hid (onS σ (predK n) = onS σ (levelK 7 orW (bothK n))) := Lib.hid rfl
  have hmf : ∀ (fn : Fn) (first cap : Array Value) (w : World), (Instr.makeFunc fn first cap).run Tryz.prog w = .ok (.func fn first cap) w := fun _ _ _ _ => rfl
  clear h F0 hr hstep
  generalize onS σ (predK n) = X at *
  generalize onS σ (levelK 7 orW (bothK n)) = Y at *
  go_enter Tryz.func31, Tryz.ntmps31
  go_wp2_with fail
  refine A1.out.mono ?_
  rintro e w1 ⟨⟨p, v, rfl, ⟨s, rfl, hk, hb⟩, hT, hA⟩, hF⟩
  obtain ⟨hz, hf1, hk1⟩ := pd_given p s (by have := HL.out; omega) hF hk
  have HT1 := Lib.hid hT
  have HF1 := Lib.hid hf1
  have HZ1 := Lib.hid hz
  have HK1 := Lib.hid hk1
  have HB := Lib.hid hb
  have HA := Lib.hid hA
  clear hT hF hA hk hb hz hf1 hk1 A1
  obtain ⟨⟨xo, xc, xm, ⟨xn, xi, xt⟩, xk, xp⟩, xks⟩ := p
  obtain ⟨sA, sn, sc⟩ := s
  unfold pdV pdC kidV
  dsimp only [Pd.hd, Pd.kids] at *
  obtain ⟨f0, f1, f2, f3, f4, f5, f6, f7, f8⟩ := pdB_frozen HZ1.out
  obtain ⟨r0, r1, r2, r3, r4, r5, r6, r7, r8⟩ := pdB_cells HZ1.out
  dsimp only [noKv, zCl] at r0 r1 r2 r3 r4 r5 r6 r7 r8
  have E5 := Lib.hid (setPd_B HZ1.out ⟨xo, xc, xm, ⟨xn, xi, xt⟩, xk, xp⟩ ⟨sA, sn, sc⟩)
  have T5 := Lib.hid (HT1.out.fresh (setPd_fr w1 w.heap.size ⟨xo, xc, xm, ⟨xn, xi, xt⟩, xk, xp⟩ ⟨sA, sn, sc⟩) (fun k e => by have : k = w.heap.size := e; have := HL.out; omega))
  have G5 := Lib.hid (setPd_end HF1.out ⟨xo, xc, xm, ⟨xn, xi, xt⟩, xk, xp⟩ ⟨sA, sn, sc⟩)
  have K5 := Lib.hid (kd_set ⟨xo, xc, xm, ⟨xn, xi, xt⟩, xk, xp⟩ ⟨sA, sn, sc⟩ _ _ HK1.out)
  clear HK1 HF1 HT1 HZ1
  unfold setPd kidV at E5 T5 G5 K5
  dsimp only at E5 T5 G5 K5
  go_wp2
  exact bodyPost_ret (ret_pd (p := 2) rfl _ _ w.heap.size ⟨xo, xc, xm, ⟨xn, xi, xt⟩, xk, xp⟩ ⟨sA, sn, sc⟩ rfl E5.out) rfl ⟨⟨.mk ⟨xo, xc, xm, ⟨xn, xi, xt⟩, xk, xp⟩ xks, _, rfl, ⟨⟨sA, sn, sc⟩, rfl, K5.out, HB.out⟩, by rw [HE.out]; exact T5.out, fun b r e => HA.out b r (by rw [← HE.out]; exact e)⟩, G5.out⟩
set_option maxHeartbeats 4000000 in
theorem palone_of (B g : Nat) (d : Int) (n : Nat) (hs : StepP B g d 86 (singleK n) PdF) (hp : StepP B g d 31 (predK n) PdF) : StepP B g d 102 (singleK (n + 1)) PdF := by
  intro w σ h
  have F0 : Fr Non w (w.alloc (.cells #[.int .i64 0, .string ⟨#[]⟩, .int .i64 0, .bool false, .int .i64 0, .string ⟨#[]⟩, .int .i64 0, .string ⟨#[]⟩, .slice none 0 0] 28)) := (Fr.refl Non w).alloc _
  have S1 := Lib.hid (pskip_any B g d notW σ _ (h.non F0))
  have HL := Lib.hid h.lt
  have HP := Lib.hid hp
  have HSg := Lib.hid hs
  have HFX := Lib.hid h.finX
  have A1 := Lib.hid (al_not h.finX n)
  have A2 := Lib.hid (al_open h.finX n)
  have A3 := Lib.hid (al_all h.finX n)
  have A4 := Lib.hid (al_ask h.finX n)
  have Y1 := Lib.hid (fun e => skip_yes (s := notW) (σ := σ) e)
  have Z1 := Lib.hid (fun e => skip_no (s := notW) (σ := σ) e)
  have Y2 := Lib.hid (fun e => skip_yes (s := [40]) (σ := σ) e)
  have Z2 := Lib.hid (fun e => skip_no (s := [40]) (σ := σ) e)
  have Y3 := Lib.hid (fun e => skip_yes (s := allW) (σ := σ) e)
  have Z3 := Lib.hid (fun e => skip_no (s := allW) (σ := σ) e)
  clear h F0 hs hp
  generalize onS σ (singleK (n + 1)) = X at *
  generalize sayX notW σ = b1 at *
  go_enter Tryz.func102, Tryz.ntmps102
  go_wp2_with fail
  refine S1.out.mono ?_
  rintro e w1 ⟨rfl, hT, hF⟩
  have HT1 := Lib.hid hT
  have HF1 := Lib.hid (((Fr.refl (One g) w).alloc _).trans hF)
  have HZ1 : Hid (PdB w1 w.heap.size ⟨0, [], 0, zCl, 0, []⟩ noKv) := Lib.hid ((pd_new w _ ⟨0, [], 0, zCl, 0, []⟩ noKv rfl).fr hF (fun e => by have : w.heap.size = g := e; have := HL.out; omega))
  have HS1 : Hid (w.heap.size + 1 ≤ w1.heap.size) := Lib.hid (by have := hF.size; simpa using this)
  clear hT hF S1
  cases b1
  · have HT1 : Hid (PX B g d w1 σ) := Lib.hid (by rw [← Z1.out (by first | rfl | trivial)]; exact HT1.out)
    have S2 := Lib.hid (pskip_any B g d [40] σ w1 HT1.out)
    clear A1 Y1 Z1
    generalize sayX [40] σ = b2 at *
    go_wp2_with fail
    refine S2.out.mono ?_
    rintro e w2 ⟨rfl, hT, hF⟩
    have HT2 := Lib.hid hT
    have HF2 := Lib.hid (HF1.out.trans hF)
    have HZ2 := Lib.hid (HZ1.out.fr hF (fun e => by have : w.heap.size = g := e; have := HL.out; omega))
    have HS2 : Hid (w.heap.size + 1 ≤ w2.heap.size) := Lib.hid (Nat.le_trans HS1.out hF.size)
    clear hT hF S2 HT1 HF1 HZ1 HS1
    cases b2
    · have HT2 : Hid (PX B g d w2 σ) := Lib.hid (by rw [← Z2.out (by first | rfl | trivial)]; exact HT2.out)
      have S3 := Lib.hid (pskip_any B g d allW σ w2 HT2.out)
      clear A2 Y2 Z2
      generalize sayX allW σ = b3 at *
      go_wp2_with fail
      refine S3.out.mono ?_
      rintro e w3 ⟨rfl, hT, hF⟩
      have HT3 := Lib.hid hT
      have HF3 := Lib.hid (HF2.out.trans hF)
      have HZ3 := Lib.hid (HZ2.out.fr hF (fun e => by have : w.heap.size = g := e; have := HL.out; omega))
      have HS3 : Hid (w.heap.size + 1 ≤ w3.heap.size) := Lib.hid (Nat.le_trans HS2.out hF.size)
      clear hT hF S3 HT2 HF2 HZ2 HS2
      cases b3
      · have HT3 : Hid (PX B g d w3 σ) := Lib.hid (by rw [← Z3.out (by first | rfl | trivial)]; exact HT3.out)
        have A41 := Lib.hid (A4.out (by first | rfl | trivial) (by first | rfl | trivial) (by first | rfl | trivial))
        have AK := Lib.hid (pask_any B g d σ w3 HT3.out)
        clear A3 A4 Y3 Z3
        go_wp2_with fail
        refine AK.out.mono ?_
        rintro e w4 ⟨⟨p, v, rfl, ⟨s, rfl, hk, hb⟩, hT, hA⟩, hF⟩
        have HT4 := Lib.hid hT
        have HF4 := Lib.hid (HF3.out.trans hF)
        have HZ4 := Lib.hid (HZ3.out.fr hF (fun e => by have : w.heap.size = g := e; have := HL.out; omega))
        have HK4 : Hid (KdS (fun b => w.heap.size + 1 ≤ b) w4 s p.kids) := Lib.hid (hk.imp fun b hb _ => by have := HS3.out; omega)
        have HB := Lib.hid hb
        have HA := Lib.hid hA
        clear hT hF hA hk hb AK HT3 HF3 HZ3
        obtain ⟨⟨xo, xc, xm, ⟨xn, xi, xt⟩, xk, xp⟩, xks⟩ := p
        obtain ⟨sA, sn, sc⟩ := s
        unfold pdV pdC kidV
        dsimp only [Pd.hd, Pd.kids] at *
        obtain ⟨f0, f1, f2, f3, f4, f5, f6, f7, f8⟩ := pdB_frozen HZ4.out
        obtain ⟨r0, r1, r2, r3, r4, r5, r6, r7, r8⟩ := pdB_cells HZ4.out
        dsimp only [noKv, zCl] at r0 r1 r2 r3 r4 r5 r6 r7 r8
        have E5 := Lib.hid (setPd_B HZ4.out ⟨xo, xc, xm, ⟨xn, xi, xt⟩, xk, xp⟩ ⟨sA, sn, sc⟩)
        have T5 := Lib.hid (HT4.out.fresh (setPd_fr w4 w.heap.size ⟨xo, xc, xm, ⟨xn, xi, xt⟩, xk, xp⟩ ⟨sA, sn, sc⟩) (fun k e => by have : k = w.heap.size := e; have := HL.out; omega))
        have G5 := Lib.hid (setPd_end HF4.out ⟨xo, xc, xm, ⟨xn, xi, xt⟩, xk, xp⟩ ⟨sA, sn, sc⟩)
        have K5 := Lib.hid (kd_set ⟨xo, xc, xm, ⟨xn, xi, xt⟩, xk, xp⟩ ⟨sA, sn, sc⟩ _ _ HK4.out)
        clear HK4 HF4 HT4 HZ4
        unfold setPd kidV at E5 T5 G5 K5
        dsimp only at E5 T5 G5 K5
        go_wp2
        exact bodyPost_ret (ret_pd (p := 2) rfl _ _ w.heap.size ⟨xo, xc, xm, ⟨xn, xi, xt⟩, xk, xp⟩ ⟨sA, sn, sc⟩ rfl E5.out) rfl ⟨⟨.mk ⟨xo, xc, xm, ⟨xn, xi, xt⟩, xk, xp⟩ xks, _, rfl, ⟨⟨sA, sn, sc⟩, rfl, K5.out, HB.out⟩, by rw [A41.out]; exact T5.out, fun b r e => HA.out b r (by rw [← A41.out]; exact e)⟩, G5.out⟩
      · have HT3 : Hid (PX B g d w3 (.ok (tailX σ))) := Lib.hid (by rw [← Y3.out (by first | rfl | trivial)]; exact HT3.out)
        have A31 := Lib.hid (A3.out (by first | rfl | trivial) (by first | rfl | trivial) (by first | rfl | trivial))
        clear A3 A4 Y3 Z3
        obtain ⟨f0, f1, f2, f3, f4, f5, f6, f7, f8⟩ := pdB_frozen HZ3.out
        obtain ⟨r0, r1, r2, r3, r4, r5, r6, r7, r8⟩ := pdB_cells HZ3.out
        dsimp only [noKv, zCl] at r0 r1 r2 r3 r4 r5 r6 r7 r8
        have E5 := Lib.hid (setPd_B HZ3.out ⟨1, [], 0, zCl, 0, []⟩ noKv)
        have T5 := Lib.hid (HT3.out.fresh (setPd_fr w3 w.heap.size ⟨1, [], 0, zCl, 0, []⟩ noKv) (fun k e => by have : k = w.heap.size := e; have := HL.out; omega))
        have G5 := Lib.hid (setPd_end HF3.out ⟨1, [], 0, zCl, 0, []⟩ noKv)
        clear HF3 HT3 HZ3
        unfold setPd kidV noKv zCl at E5 T5 G5
        dsimp only at E5 T5 G5
        go_wp2
        exact bodyPost_ret (ret_pd (p := 2) rfl _ _ w.heap.size ⟨1, [], 0, zCl, 0, []⟩ noKv rfl E5.out) rfl ⟨⟨.mk ⟨1, [], 0, zCl, 0, []⟩ [], _, rfl, leaf_pd _ _ _ i64b_0, by rw [A31.out]; exact T5.out, fun b r e => by rw [A31.out] at e; cases e; rfl⟩, G5.out⟩
    · have HT2 : Hid (PX B g d w2 (.ok (tailX σ))) := Lib.hid (by rw [← Y2.out (by first | rfl | trivial)]; exact HT2.out)
      obtain ⟨a1, a2⟩ := A2.out (by first | rfl | trivial) (by first | rfl | trivial)
      have A21 := Lib.hid a1
      have A22 := Lib.hid a2
      clear a1 a2 A2 A3 A4 Y2 Z2 Y3 Z3
      have PC := Lib.hid (HP.out w2 _ HT2.out)
      generalize onS (.ok (tailX σ)) (predK n) = y at *
      go_wp2_with fail
      refine PC.out.mono ?_
      rintro e w3 ⟨⟨p, v, rfl, ⟨s, rfl, hk, hb⟩, hT, hA⟩, hF⟩
      have HT3 := Lib.hid hT
      have HF3 := Lib.hid (HF2.out.trans hF)
      have HZ3 := Lib.hid (HZ2.out.fr hF (fun e => by have : w.heap.size = g := e; have := HL.out; omega))
      have HK3 : Hid (KdS (fun b => w.heap.size + 1 ≤ b) w3 s p.kids) := Lib.hid (hk.imp fun b hb _ => by have := HS2.out; omega)
      have HS3 : Hid (w.heap.size + 1 ≤ w3.heap.size) := Lib.hid (Nat.le_trans HS2.out hF.size)
      have HB := Lib.hid hb
      have HA := Lib.hid (A22.out p hA)
      clear hT hF hA hk hb PC HT2 HF2 HZ2 A22
      obtain ⟨⟨xo, xc, xm, ⟨xn, xi, xt⟩, xk, xp⟩, xks⟩ := p
      obtain ⟨sA, sn, sc⟩ := s
      unfold pdV pdC kidV
      dsimp only [Pd.hd, Pd.kids] at *
      have FA : Fr Non w3 (w3.alloc (.cells #[.int .i64 xo, .string ⟨xc.toArray⟩, .int .i64 xm, .bool xn, .int .i64 xi, .string ⟨xt.toArray⟩, .int .i64 xk, .string ⟨xp.toArray⟩, .slice sA sn sc] 28)) := (Fr.refl Non w3).alloc _
      have HV3 : Hid (PdB (w3.alloc (.cells #[.int .i64 xo, .string ⟨xc.toArray⟩, .int .i64 xm, .bool xn, .int .i64 xi, .string ⟨xt.toArray⟩, .int .i64 xk, .string ⟨xp.toArray⟩, .slice sA sn sc] 28)) w3.heap.size ⟨xo, xc, xm, ⟨xn, xi, xt⟩, xk, xp⟩ ⟨sA, sn, sc⟩) := Lib.hid (pd_new w3 _ ⟨xo, xc, xm, ⟨xn, xi, xt⟩, xk, xp⟩ ⟨sA, sn, sc⟩ rfl)
      have ND := Lib.hid (pneed_any B g d [41] _ _ (HT3.out.non FA))
      rw [need_isM (by decide) HT3.out.finX] at ND
      rw [← A21.out] at ND
      have HFA := Lib.hid FA
      clear FA HT3 A21
      go_wp2_with fail
      refine ND.out.mono ?_
      rintro e w4 ⟨rfl, hT, hF⟩
      have HT4 := Lib.hid hT
      have HF4 := Lib.hid ((HF3.out.trans HFA.out.any).trans hF)
      have HZ4 := Lib.hid ((HZ3.out.fr HFA.out (fun e => e)).fr hF (fun e => by have : w.heap.size = g := e; have := HL.out; omega))
      have HV4 := Lib.hid (HV3.out.fr hF (fun e => by have : w3.heap.size = g := e; have := HL.out; have := HS3.out; omega))
      have HK4 := Lib.hid ((HK3.out.non HFA.out).fr hF (fun b hb _ e => by have : b = g := e; have := HL.out; omega))
      clear hT hF ND HFA HF3 HZ3 HV3 HK3
      obtain ⟨f0, f1, f2, f3, f4, f5, f6, f7, f8⟩ := pdB_frozen HZ4.out
      obtain ⟨r0, r1, r2, r3, r4, r5, r6, r7, r8⟩ := pdB_cells HZ4.out
      obtain ⟨p0, p1, p2, p3, p4, p5, p6, p7, p8⟩ := pdB_cells HV4.out
      dsimp only [noKv, zCl] at r0 r1 r2 r3 r4 r5 r6 r7 r8 p0 p1 p2 p3 p4 p5 p6 p7 p8
      have E5 := Lib.hid (setPd_B HZ4.out ⟨xo, xc, xm, ⟨xn, xi, xt⟩, xk, xp⟩ ⟨sA, sn, sc⟩)
      have T5 := Lib.hid (HT4.out.fresh (setPd_fr w4 w.heap.size ⟨xo, xc, xm, ⟨xn, xi, xt⟩, xk, xp⟩ ⟨sA, sn, sc⟩) (fun k e => by have : k = w.heap.size := e; have := HL.out; omega))
      have G5 := Lib.hid (setPd_end HF4.out ⟨xo, xc, xm, ⟨xn, xi, xt⟩, xk, xp⟩ ⟨sA, sn, sc⟩)
      have K5 := Lib.hid (kd_set ⟨xo, xc, xm, ⟨xn, xi, xt⟩, xk, xp⟩ ⟨sA, sn, sc⟩ _ _ HK4.out)
      clear HK4 HF4 HT4 HZ4 HV4
      unfold setPd kidV at E5 T5 G5 K5
      dsimp only at E5 T5 G5 K5
      go_wp2
      exact bodyPost_ret (ret_pd (p := 2) rfl _ _ w.heap.size ⟨xo, xc, xm, ⟨xn, xi, xt⟩, xk, xp⟩ ⟨sA, sn, sc⟩ rfl E5.out) rfl ⟨⟨.mk ⟨xo, xc, xm, ⟨xn, xi, xt⟩, xk, xp⟩ xks, _, rfl, ⟨⟨sA, sn, sc⟩, rfl, K5.out, HB.out⟩, T5.out, HA.out⟩, G5.out⟩
  · have HT1 : Hid (PX B g d w1 (.ok (tailX σ))) := Lib.hid (by rw [← Y1.out (by first | rfl | trivial)]; exact HT1.out)
    have A11 := Lib.hid (A1.out (by first | rfl | trivial))
    clear A1 A2 A3 A4 Y1 Z1 Y2 Z2 Y3 Z3
    have PC := Lib.hid (HSg.out w1 _ HT1.out)
    generalize onS (.ok (tailX σ)) (singleK n) = y at *
    have HDX := Lib.hid (drop_map (fun p => Pd.mk ⟨5, [], 0, zCl, 0, []⟩ [p]) y)
    go_wp2_with fail
    refine PC.out.mono ?_
    rintro e w3 ⟨⟨p, v, rfl, ⟨s, rfl, hk, hb⟩, hT, hA⟩, hF⟩
    have HT3 := Lib.hid hT
    have HF3 := Lib.hid (HF1.out.trans hF)
    have HZ3 := Lib.hid (HZ1.out.fr hF (fun e => by have : w.heap.size = g := e; have := HL.out; omega))
    have HS3 : Hid (w.heap.size + 1 ≤ w3.heap.size) := Lib.hid (Nat.le_trans HS1.out hF.size)
    have HA := Lib.hid (map_ok (f := fun p => Pd.mk ⟨5, [], 0, zCl, 0, []⟩ [p]) hA)
    have R1 := Lib.hid (PRow.lit w3 (w.heap.size + 1) w3.heap.size p s (pdC p.hd s) rfl rfl HS3.out hb (hk.imp fun b hb _ => by have := HS1.out; omega))
    clear hT hF hA hk hb PC HT1 HF1 HZ1
    obtain ⟨⟨xo, xc, xm, ⟨xn, xi, xt⟩, xk, xp⟩, xks⟩ := p
    obtain ⟨sA, sn, sc⟩ := s
    unfold pdV pdC kidV
    unfold pdC kidV at R1
    dsimp only [Pd.hd, Pd.kids] at *
    have FA : Fr Non w3 (w3.alloc (.cells #[.int .i64 xo, .string ⟨xc.toArray⟩, .int .i64 xm, .bool xn, .int .i64 xi, .string ⟨xt.toArray⟩, .int .i64 xk, .string ⟨xp.toArray⟩, .slice sA sn sc] 28)) := (Fr.refl Non w3).alloc _
    have HT4 := Lib.hid (HT3.out.non FA)
    have HF4 := Lib.hid (HF3.out.trans FA.any)
    have HZ4 := Lib.hid (HZ3.out.fr FA (fun e => e))
    clear FA HT3 HF3 HZ3
    have K4 := Lib.hid R1.out.kds
    clear R1
    have R0 := HZ4.out
    obtain ⟨f0, f1, f2, f3, f4, f5, f6, f7, f8⟩ := pdB_frozen HZ4.out
    obtain ⟨r0, r1, r2, r3, r4, r5, r6, r7, r8⟩ := pdB_cells HZ4.out
    dsimp only [noKv, zCl] at r0 r1 r2 r3 r4 r5 r6 r7 r8
    clear R0
    generalize hW : w3.alloc (.cells #[.int .i64 xo, .string ⟨xc.toArray⟩, .int .i64 xm, .bool xn, .int .i64 xi, .string ⟨xt.toArray⟩, .int .i64 xk, .string ⟨xp.toArray⟩, .slice sA sn sc] 28) = W4 at *
    have E5 := Lib.hid (setPd_B HZ4.out ⟨5, [], 0, zCl, 0, []⟩ ⟨some ⟨w3.heap.size, 0, none⟩, 1, 1⟩)
    have T5 := Lib.hid (HT4.out.fresh (setPd_fr W4 w.heap.size ⟨5, [], 0, zCl, 0, []⟩ ⟨some ⟨w3.heap.size, 0, none⟩, 1, 1⟩) (fun k e => by have : k = w.heap.size := e; have := HL.out; omega))
    have G5 := Lib.hid (setPd_end HF4.out ⟨5, [], 0, zCl, 0, []⟩ ⟨some ⟨w3.heap.size, 0, none⟩, 1, 1⟩)
    have K5 := Lib.hid (kd_set ⟨5, [], 0, zCl, 0, []⟩ ⟨some ⟨w3.heap.size, 0, none⟩, 1, 1⟩ _ _ K4.out)
    clear K4 HF4 HT4 HZ4
    unfold setPd kidV zCl at E5 T5 G5 K5
    dsimp only at E5 T5 G5 K5
    subst hW
    go_wp2
    exact bodyPost_ret (ret_pd (p := 2) rfl _ _ w.heap.size ⟨5, [], 0, zCl, 0, []⟩ ⟨some ⟨w3.heap.size, 0, none⟩, 1, 1⟩ rfl E5.out) rfl ⟨⟨.mk ⟨5, [], 0, zCl, 0, []⟩ [.mk ⟨xo, xc, xm, ⟨xn, xi, xt⟩, xk, xp⟩ xks], _, rfl, ⟨⟨some ⟨w3.heap.size, 0, none⟩, 1, 1⟩, rfl, K5.out, i64b_0⟩, by rw [A11.out, HDX.out]; exact T5.out, fun b r e => HA.out b r (by rw [← A11.out]; exact e)⟩, G5.out⟩
end Go.Proofs.YtipgaafgnefmdaaGreatDoor


namespace Go.Proofs.YtipgaafgnefmdaaGreatDoor
set_option linter.unusedVariables false
set_option linter.unusedSimpArgs false
set_option maxRecDepth 100000
open Go.RowKit

theorem PX.dc {B g : Nat} {d : Int} {w : World} {σ : Sg} (h : PX B g d w σ) : w.cell? ⟨g, 2, none⟩ = some (.int .i64 d) ∧ w.frozen? ⟨g, 2, none⟩ = false ∧ g < w.heap.size := by
  cases σ with
  | ok l => obtain ⟨A, c, hR⟩ := h; exact ⟨hR.cells.2.2.1, hR.cells.2.2.2.2.2, hR.blk.lt⟩
  | error z => obtain ⟨l, ⟨A, c, hR⟩, _⟩ := h; exact ⟨hR.cells.2.2.1, hR.cells.2.2.2.2.2, hR.blk.lt⟩
theorem PS.deep {B g : Nat} {d : Int} {w : World} {l : List Tk} {bad : Bool} (h : PS w B g l bad d) (e : Int) : PS (w.setCell ⟨g, 2, none⟩ (.int .i64 e)) B g l bad e := by
  obtain ⟨A, c, hR⟩ := h
  have F2 : Fr (One g) w (w.setCell ⟨g, 2, none⟩ (.int .i64 e)) := (Fr.refl (One g) w).set1 2 _
  exact ⟨A, c, hR.blk.set 2 _, hR.tks_fr F2, hR.fin, hR.ap, hR.lt, Nat.le_trans hR.le F2.size⟩
theorem PX.deep {B g : Nat} {d : Int} {w : World} {σ : Sg} (h : PX B g d w σ) (e : Int) : PX B g e (w.setCell ⟨g, 2, none⟩ (.int .i64 e)) σ := by
  cases σ with
  | ok l => exact PS.deep h e
  | error z => obtain ⟨l, hl, hz⟩ := h; exact ⟨l, hl.deep e, hz⟩
set_option maxHeartbeats 2000000 in
theorem psingle_0 (B g : Nat) : StepP B g 6 86 (singleK 0) PdF := by
  intro w σ h
  have F0 : Fr Non w (w.alloc (.cells #[.int .i64 0, .string ⟨#[]⟩, .int .i64 0, .bool false, .int .i64 0, .string ⟨#[]⟩, .int .i64 0, .string ⟨#[]⟩, .slice none 0 0] 28)) := (Fr.refl Non w).alloc _
  have h0 := h.non F0
  obtain ⟨c2, z2, _⟩ := h0.dc
  have FL := Lib.hid (pfail_any B g 6 σ _ h0)
  have HL := Lib.hid h.lt
  have HE : Hid (dropV (onS σ (singleK 0)) = onM σ errK ∧ ∀ b r, onS σ (singleK 0) = .ok (b, r) → noPd = b) := Lib.hid (by
    clear h h0 FL
    cases σ with
    | ok l => exact ⟨rfl, fun b r e => by cases e⟩
    | error z => exact ⟨rfl, fun b r e => by cases e⟩)
  clear h F0 h0
  generalize onS σ (singleK 0) = X at *
  go_enter Tryz.func86, Tryz.ntmps86
  go_wp2_with fail
  refine FL.out.mono ?_
  rintro e w1 ⟨rfl, hT, hF⟩
  have HT1 := Lib.hid hT
  have HF1 := Lib.hid (((Fr.refl (One g) w).alloc _).trans hF)
  have HZ1 : Hid (PdB w1 w.heap.size ⟨0, [], 0, zCl, 0, []⟩ noKv) := Lib.hid ((pd_new w _ ⟨0, [], 0, zCl, 0, []⟩ noKv rfl).fr hF (fun e => by have : w.heap.size = g := e; have := HL.out; omega))
  clear hT hF FL c2 z2
  obtain ⟨f0, f1, f2, f3, f4, f5, f6, f7, f8⟩ := pdB_frozen HZ1.out
  obtain ⟨r0, r1, r2, r3, r4, r5, r6, r7, r8⟩ := pdB_cells HZ1.out
  dsimp only [noKv, zCl] at r0 r1 r2 r3 r4 r5 r6 r7 r8
  have E5 := Lib.hid (setPd_B HZ1.out ⟨0, [], 0, zCl, 0, []⟩ noKv)
  have T5 := Lib.hid (HT1.out.fresh (setPd_fr w1 w.heap.size ⟨0, [], 0, zCl, 0, []⟩ noKv) (fun k e => by have : k = w.heap.size := e; have := HL.out; omega))
  have G5 := Lib.hid (setPd_end HF1.out ⟨0, [], 0, zCl, 0, []⟩ noKv)
  clear HF1 HT1 HZ1
  unfold setPd kidV noKv zCl at E5 T5 G5
  dsimp only at E5 T5 G5
  go_wp2
  exact bodyPost_ret (ret_pd (p := 2) rfl _ _ w.heap.size ⟨0, [], 0, zCl, 0, []⟩ noKv rfl E5.out) rfl ⟨⟨noPd, _, rfl, leaf_pd _ _ _ i64b_0, by rw [HE.out.1]; exact T5.out, HE.out.2⟩, G5.out⟩
set_option maxHeartbeats 4000000 in
theorem psingle_of (B g : Nat) (d : Int) (hd0 : 0 ≤ d) (hd : d ≤ 5) (n : Nat) (ha : StepP B g (d + 1) 102 (singleK (n + 1)) PdF) : StepP B g d 86 (singleK (n + 1)) PdF := by
  intro w σ h
  have F0 : Fr Non w (w.alloc (.cells #[.int .i64 0, .string ⟨#[]⟩, .int .i64 0, .bool false, .int .i64 0, .string ⟨#[]⟩, .int .i64 0, .string ⟨#[]⟩, .slice none 0 0] 28)) := (Fr.refl Non w).alloc _
  have h0 := h.non F0
  obtain ⟨c2, z2, _⟩ := h0.dc
  have h1 := h0.deep (d + 1)
  have F1 : Fr (One g) w ((w.alloc (.cells #[.int .i64 0, .string ⟨#[]⟩, .int .i64 0, .bool false, .int .i64 0, .string ⟨#[]⟩, .int .i64 0, .string ⟨#[]⟩, .slice none 0 0] 28)).setCell ⟨g, 2, none⟩ (.int .i64 (d + 1))) := F0.any.trans ((Fr.refl (One g) _).set1 2 _)
  have HAL := Lib.hid (ha _ σ h1)
  have HL := Lib.hid h.lt
  have HZ1 : Hid (PdB ((w.alloc (.cells #[.int .i64 0, .string ⟨#[]⟩, .int .i64 0, .bool false, .int .i64 0, .string ⟨#[]⟩, .int .i64 0, .string ⟨#[]⟩, .slice none 0 0] 28)).setCell ⟨g, 2, none⟩ (.int .i64 (d + 1))) w.heap.size ⟨0, [], 0, zCl, 0, []⟩ noKv) := Lib.hid ((pd_new w _ ⟨0, [], 0, zCl, 0, []⟩ noKv rfl).fr ((Fr.refl (One g) _).set1 2 _) (fun e => by have : w.heap.size = g := e; have := HL.out; omega))
  have HS1 : Hid (w.heap.size + 1 = ((w.alloc (.cells #[.int .i64 0, .string ⟨#[]⟩, .int .i64 0, .bool false, .int .i64 0, .string ⟨#[]⟩, .int .i64 0, .string ⟨#[]⟩, .slice none 0 0] 28)).setCell ⟨g, 2, none⟩ (.int .i64 (d + 1))).heap.size) := Lib.hid (by simp [World.setCell])
  have HF1 := Lib.hid F1
  have hw1 : IntKind.i64.wrap (d + 1) = d + 1 := IntWalk.i64_in _ ⟨by omega, by omega⟩
  have hd6 : (d == 6) = false := by rw [beq_eq_false_iff_ne]; omega
  have hw2 : IntKind.i64.wrap (d + 1 - 1) = d := by rw [IntWalk.i64_in _ ⟨by omega, by omega⟩]; omega
  have hw3 : IntKind.i64.wrap d = d := IntWalk.i64_in _ ⟨by omega, by omega⟩
  clear h F0 h0 h1 F1 ha
  generalize onS σ (singleK (n + 1)) = X at *
  go_enter Tryz.func86, Tryz.ntmps86
  go_upto_region 5 with fail
  clear c2 z2 hw1 hd6
  generalize hW : (w.alloc (.cells #[.int .i64 0, .string ⟨#[]⟩, .int .i64 0, .bool false, .int .i64 0, .string ⟨#[]⟩, .int .i64 0, .string ⟨#[]⟩, .slice none 0 0] 28)).setCell ⟨g, 2, none⟩ (.int .i64 (d + 1)) = W1 at *
  clear hW
  go_wp2_with fail
  refine HAL.out.mono ?_
  rintro e w2 ⟨⟨p, v, rfl, ⟨s, rfl, hk, hb⟩, hT, hA⟩, hF⟩
  have HT2 := Lib.hid hT
  have HF2 := Lib.hid (HF1.out.trans hF)
  have HZ2 := Lib.hid (HZ1.out.fr hF (fun e => by have : w.heap.size = g := e; have := HL.out; omega))
  have HK2 : Hid (KdS (fun b => w.heap.size + 1 ≤ b) w2 s p.kids) := Lib.hid (hk.imp fun b hb _ => by have := HS1.out; omega)
  have HS2 : Hid (w.heap.size + 1 ≤ w2.heap.size) := Lib.hid (by have := hF.size; have := HS1.out; omega)
  have HB := Lib.hid hb
  have HA := Lib.hid hA
  clear hT hF hA hk hb HAL HF1 HZ1 HS1
  obtain ⟨⟨xo, xc, xm, ⟨xn, xi, xt⟩, xk, xp⟩, xks⟩ := p
  obtain ⟨sA, sn, sc⟩ := s
  unfold pdV pdC kidV
  dsimp only [Pd.hd, Pd.kids] at *
  have FA : Fr Non w2 (w2.alloc (.cells #[.int .i64 xo, .string ⟨xc.toArray⟩, .int .i64 xm, .bool xn, .int .i64 xi, .string ⟨xt.toArray⟩, .int .i64 xk, .string ⟨xp.toArray⟩, .slice sA sn sc] 28)) := (Fr.refl Non w2).alloc _
  have HV3 : Hid (PdB (w2.alloc (.cells #[.int .i64 xo, .string ⟨xc.toArray⟩, .int .i64 xm, .bool xn, .int .i64 xi, .string ⟨xt.toArray⟩, .int .i64 xk, .string ⟨xp.toArray⟩, .slice sA sn sc] 28)) w2.heap.size ⟨xo, xc, xm, ⟨xn, xi, xt⟩, xk, xp⟩ ⟨sA, sn, sc⟩) := Lib.hid (pd_new w2 _ ⟨xo, xc, xm, ⟨xn, xi, xt⟩, xk, xp⟩ ⟨sA, sn, sc⟩ rfl)
  have HT3 := Lib.hid (HT2.out.non FA)
  have HF3 := Lib.hid (HF2.out.trans FA.any)
  have HZ3 := Lib.hid (HZ2.out.fr FA (fun e => e))
  have HK3 := Lib.hid (HK2.out.non FA)
  clear FA HT2 HF2 HZ2 HK2
  obtain ⟨c2, z2, _⟩ := HT3.out.dc
  go_upto_region 6 with fail
  generalize hW : w2.alloc (.cells #[.int .i64 xo, .string ⟨xc.toArray⟩, .int .i64 xm, .bool xn, .int .i64 xi, .string ⟨xt.toArray⟩, .int .i64 xk, .string ⟨xp.toArray⟩, .slice sA sn sc] 28) = W3 at *
  clear hW
  go_upto_region 7 with fail
  clear c2 z2 hw2 hw3
  have FD := Lib.hid ((Fr.refl (One g) W3).set1 2 (.int .i64 d))
  have HT4 := Lib.hid (HT3.out.deep d)
  have HF4 := Lib.hid (HF3.out.trans FD.out)
  have HZ4 := Lib.hid (HZ3.out.fr FD.out (fun e => by have : w.heap.size = g := e; have := HL.out; omega))
  have HV4 := Lib.hid (HV3.out.fr FD.out (fun e => by have : w2.heap.size = g := e; have := HL.out; have := HS2.out; omega))
  have HK4 := Lib.hid (HK3.out.fr FD.out (fun b hb _ e => by have : b = g := e; have := HL.out; omega))
  clear HT3 HF3 HZ3 HV3 HK3 FD
  generalize W3.setCell ⟨g, 2, none⟩ (.int .i64 d) = w4 at *
  obtain ⟨f0, f1, f2, f3, f4, f5, f6, f7, f8⟩ := pdB_frozen HZ4.out
  obtain ⟨r0, r1, r2, r3, r4, r5, r6, r7, r8⟩ := pdB_cells HZ4.out
  obtain ⟨p0, p1, p2, p3, p4, p5, p6, p7, p8⟩ := pdB_cells HV4.out
  dsimp only [noKv, zCl] at r0 r1 r2 r3 r4 r5 r6 r7 r8 p0 p1 p2 p3 p4 p5 p6 p7 p8
  have E5 := Lib.hid (setPd_B HZ4.out ⟨xo, xc, xm, ⟨xn, xi, xt⟩, xk, xp⟩ ⟨sA, sn, sc⟩)
  have T5 := Lib.hid (HT4.out.fresh (setPd_fr w4 w.heap.size ⟨xo, xc, xm, ⟨xn, xi, xt⟩, xk, xp⟩ ⟨sA, sn, sc⟩) (fun k e => by have : k = w.heap.size := e; have := HL.out; omega))
  have G5 := Lib.hid (setPd_end HF4.out ⟨xo, xc, xm, ⟨xn, xi, xt⟩, xk, xp⟩ ⟨sA, sn, sc⟩)
  have K5 := Lib.hid (kd_set ⟨xo, xc, xm, ⟨xn, xi, xt⟩, xk, xp⟩ ⟨sA, sn, sc⟩ _ _ HK4.out)
  clear HK4 HF4 HT4 HZ4 HV4
  unfold setPd kidV at E5 T5 G5 K5
  dsimp only at E5 T5 G5 K5
  go_wp2
  exact bodyPost_ret (ret_pd (p := 2) rfl _ _ w.heap.size ⟨xo, xc, xm, ⟨xn, xi, xt⟩, xk, xp⟩ ⟨sA, sn, sc⟩ rfl E5.out) rfl ⟨⟨.mk ⟨xo, xc, xm, ⟨xn, xi, xt⟩, xk, xp⟩ xks, _, rfl, ⟨⟨sA, sn, sc⟩, rfl, K5.out, HB.out⟩, T5.out, HA.out⟩, G5.out⟩
theorem psingle_any (B g : Nat) : ∀ n : Nat, n ≤ 6 → StepP B g (6 - (n : Int)) 86 (singleK n) PdF
  | 0, _ => psingle_0 B g
  | n + 1, h => by
    have hs := psingle_any B g n (by omega)
    have hp := ppred_of B g _ n _ (reads_both n) (pboth_of B g _ n _ (reads_single n) hs)
    have ha := palone_of B g _ n hs hp
    refine psingle_of B g _ (by omega) (by omega) n ?_
    rw [show (6 : Int) - ((n + 1 : Nat) : Int) + 1 = 6 - (n : Int) by omega]
    exact ha
/-- a predicate, from the outermost -/
theorem ppred_any (B g : Nat) : StepP B g 0 31 (predK 6) PdF := ppred_of B g 0 6 _ (reads_both 6) (pboth_of B g 0 6 _ (reads_single 6) (psingle_any B g 6 (Nat.le_refl _)))
end Go.Proofs.YtipgaafgnefmdaaGreatDoor


namespace Go.Proofs.YtipgaafgnefmdaaGreatDoor
set_option linter.unusedVariables false
set_option linter.unusedSimpArgs false
set_option maxRecDepth 100000
open Go.RowKit

theorem take_neS {α : Type} {a b : List α} {k : Nat} (hk : k < a.length) (hk2 : k < b.length) (h : a[k] ≠ b[k]) : a ≠ b := by
  intro e; subst e; exact h rfl
theorem take_eqS {α : Type} {a b : List α} {k : Nat} (hk : k < a.length) (hk2 : k < b.length) (h : a.take k = b.take k) (he : a[k] = b[k]) : a.take (k + 1) = b.take (k + 1) := by
  rw [List.take_succ_eq_append_getElem hk, List.take_succ_eq_append_getElem hk2, h, he]

end Go.Proofs.YtipgaafgnefmdaaGreatDoor


namespace Go.Proofs.YtipgaafgnefmdaaGreatDoor
set_option linter.unusedVariables false
set_option linter.unusedSimpArgs false
set_option maxRecDepth 100000
open Go.ChangeShapes Go.WideShapes Go.ChangeAt Go.RowKit

/-- append of a slice's elements onto a row of the call's own: the operation alone -/
theorem wp_appG {α : Type} {f : α → Value} {E T : TypeId} {z : Value} {by_ : Nat} (hE : El T E z by_) (hf1 : ∀ x, (f x).oneCell' = true) {w : World} {o : Oper} {a : Act} {K : Act → World → Prop} {Q : Exit → Act → World → Prop} (s x : Operand)
    (ho : o.op = .call { callee := .builtin .append, args := #[s, x], argTypes := #[T, T] })
    (B : Nat) (v y : Value) (l m : List α) (hs : a.eval s = v) (hown : Ow f E w B v l) (hx : a.eval x = y) (hy : Vs f w y m)
    (hl : l.length + m.length < 1099511627776) (hB : B ≤ w.heap.size)
    (h : ∀ v' w', Ow f E w' B v' (l ++ m) → Fr (fun k => v.ownBlock = some k) w w' → K (a.put o.dst v') w') : o.wp Tryz.prog a w K Q := by
  obtain ⟨i, hi, hz0, hz1, hz2⟩ := info_parts hE.info
  have hs' := hE.small
  have hzc : z.cells.size = 1 := by rw [hE.cells]; rfl
  have hbl : (l.length + m.length) * by_ ≤ 140737488355328 := by
    have := Nat.mul_le_mul (show l.length + m.length ≤ 1099511627776 by omega) hs'
    omega
  obtain ⟨A, c, rfl, hmc, hn, hcells⟩ := hy
  cases A with
  | some ad =>
    refine wp_append_own w s x T ho B E i z 1 by_ hE.under hi hz0 hz1 hz2 hzc (by omega) v l.length (l.map f) hs hown ad m.length c (m.map f) hx (by simp) ?_ (by intro u hu; obtain ⟨b, _, rfl⟩ := List.mem_map.1 hu; exact hf1 b) (by unfold maxLen; omega) (by omega) hB ?_
    · intro j u hu
      have hj : j < m.length := by simpa using (List.getElem?_eq_some_iff.1 hu).1
      rw [hcells ad rfl j hj]
      simpa [hj] using hu
    · intro v' w' h1 h2 _
      refine h v' w' ?_ (Fr.of_grown h2)
      unfold Ow; simpa using h1
  | none =>
    have hm : m = [] := List.eq_nil_of_length_eq_zero (by have := hn rfl; omega)
    subst hm
    have hc : c = 0 := hn rfl
    subst hc
    have hrun := run_append_owned_none (P := Tryz.prog) (w := w) B T o.type E i 1 hE.under hi v l.length (l.map f) hown
    unfold Oper.wp
    have hx' : a.eval x = .slice none 0 0 := hx
    simp [execOp, ho, resolve, invoke, builtin, hs, hx', hrun, Result.andThen]
    exact h v w (by simpa using hown) (Fr.refl _ _)
/-- .. as one step of a region that draws -/
theorem step_appG {α : Type} {f : α → Value} {E T : TypeId} {z : Value} {by_ : Nat} (hE : El T E z by_) (hf1 : ∀ x, (f x).oneCell' = true) {w : World} {ops : Array Oper} {o : Oper} {a : Act} {K : Act → World → Prop} {Q : Exit → Act → World → Prop} {Els : Prop} (hgd : o.guard = none) (s x : Operand)
    (ho : o.op = .call { callee := .builtin .append, args := #[s, x], argTypes := #[T, T] })
    (B : Nat) (v y : Value) (l m : List α) (hs : a.eval s = v) (hown : Ow f E w B v l) (hx : a.eval x = y) (hy : Vs f w y m)
    (hl : l.length + m.length < 1099511627776) (hB : B ≤ w.heap.size)
    (h : ∀ v' w', Ow f E w' B v' (l ++ m) → Fr (fun k => v.ownBlock = some k) w w' → K (a.put o.dst v') w') : if Region.wanted o (yielded ops a.tmps) = true then Oper.wp Tryz.prog o a w K Q else Els := by
  have hw : Region.wanted o (yielded ops a.tmps) = true := by simp [Region.wanted, hgd]
  rw [if_pos hw]
  exact wp_appG hE hf1 s x ho B v y l m hs hown hx hy hl hB h

set_option maxHeartbeats 1000000 in
theorem names_any (v1 v2 : Value) (l1 l2 : List (List UInt8)) (w : World) (h1 : Vs sv w v1 l1) (h2 : Vs sv w v2 l2) (hl1 : l1.length ≤ 9223372036854775807) :
    Calls Tryz.prog 29 #[v1, v2] w fun e w' => e = .returned (.bool (l1 == l2)) ∧ Fr Non w w' := by
  obtain ⟨A1, c1, rfl, hc1, hn1, hcell1⟩ := h1
  obtain ⟨A2, c2, rfl, hc2, hn2, hcell2⟩ := h2
  have HN1 := Lib.hid hn1
  have HN2 := Lib.hid hn2
  have HC1 := Lib.hid hcell1
  have HC2 := Lib.hid hcell2
  clear hn1 hn2 hcell1 hcell2
  by_cases hlen : l1.length = l2.length
  · have HL := Lib.hid hlen
    have hb : ((l1.length : Int) != l2.length) = false := by rw [hlen]; simp
    have hle : l1.length ≤ l2.length := by omega
    have hge : l2.length ≤ l1.length := by omega
    clear hlen
    go_enter Tryz.func29, Tryz.ntmps29
    go_wp2
    go_loopw [5] (fun i wr => ∃ k : Nat, k ≤ l1.length ∧ i = .int .i64 k ∧ Hid (l1.take k = l2.take k) ∧ ∃ n, wr = w.drewN n) (fun i _ => l1.length - (intOf i).toNat)
    case atStart => exact ⟨0, Nat.zero_le _, rfl, Lib.hid rfl, 0, rfl⟩
    case round =>
      obtain ⟨k, hk, rfl, HT, n, rfl⟩ := hrel
      by_cases hlt : k < l1.length
      · cases A1 with
        | none => have := HN1.out rfl; omega
        | some a1 =>
          cases A2 with
          | none => have := HN2.out rfl; omega
          | some a2 =>
            have g1 : w.cell? (a1.add k) = some (sv l1[k]) := HC1.out a1 rfl k hlt
            have g2 : w.cell? (a2.add k) = some (sv (l2[k]'(by omega))) := HC2.out a2 rfl k (by omega)
            unfold sv at g1 g2
            by_cases he : l1[k] = l2[k]'(by omega)
            · have HE := Lib.hid (take_eqS hlt (by omega) HT.out he)
              rw [← he] at g2
              clear he
              generalize l1[k] = x at *
              go_wp2
              go_quiet (fail)
              go_wp2
              go_roundw
              case rel => exact ⟨k + 1, by omega, by go_num, HE, _, rfl⟩
              case measure => simp [intOf]; omega
            · have HE := Lib.hid (take_neS hlt (by omega) he)
              have hx : (l1[k] == l2[k]'(by omega)) = false := by rw [beq_eq_false_iff_ne]; exact he
              clear he
              generalize l1[k] = x at *
              generalize l2[k]'(by omega) = y at *
              go_wp2
              go_quiet (fail)
              go_wp2
              go_ret
              exact ⟨ret_boolE (beq_eq_false_iff_ne.2 HE.out).symm, ((Fr.refl _ _).drewN _).drewN _⟩
      · have HE : Hid (l1 = l2) := Lib.hid (by
          have := HT.out
          rwa [List.take_of_length_le (by omega), List.take_of_length_le (by omega)] at this)
        go_wp2
        go_ret
        exact ⟨ret_boolE (beq_iff_eq.2 HE.out).symm, (Fr.refl _ _).drewN _⟩
  · have hb : ((l1.length : Int) != l2.length) = true := by rw [bne_iff_ne]; omega
    have HE : Hid (l1 ≠ l2) := Lib.hid (fun e => hlen (by rw [e]))
    clear hlen
    go_enter Tryz.func29, Tryz.ntmps29
    go_wp2
    go_ret
    exact ⟨ret_boolE (beq_eq_false_iff_ne.2 HE.out).symm, Fr.refl _ _⟩
end Go.Proofs.YtipgaafgnefmdaaGreatDoor


namespace Go.Proofs.YtipgaafgnefmdaaGreatDoor
set_option linter.unusedVariables false
set_option linter.unusedSimpArgs false
set_option maxRecDepth 100000
open Go.RowKit

def agL (a : Ag) : List Value := [.int .i64 a.op, .string ⟨a.col.toArray⟩]
def agV (a : Ag) : Value := .agg #[.int .i64 a.op, .string ⟨a.col.toArray⟩]
theorem fd_ag : Fd agL 2 := ⟨fun _ => rfl, fun x u hu => by simp [agL] at hu; rcases hu with rfl | rfl <;> rfl, by omega, by omega⟩
abbrev Gs (w : World) (v : Value) (l : List Ag) : Prop := Ns agL 2 w v l
theorem ag_lit {w : World} {a : Addr} {c : Ag} (h : AtN w a (agL c)) : w.cell? a = some (.int .i64 c.op) ∧ w.cell? { block := a.block, off := a.off + 1 } = some (.string ⟨c.col.toArray⟩) :=
  ⟨h 0 _ rfl, h 1 _ rfl⟩
theorem Ns.gat {w : World} {A : Option Addr} {n c : Nat} {l : List Ag} (h : Gs w (.slice A n c) l) (k : Nat) (hk : k < l.length) : ∃ a, A = some a ∧ n = l.length ∧
    w.cell? (a.add (k * 2)) = some (.int .i64 l[k].op) ∧ w.cell? { block := (a.add (k * 2)).block, off := (a.add (k * 2)).off + 1 } = some (.string ⟨l[k].col.toArray⟩) := by
  obtain ⟨A', c', he, hl, hn, hcell⟩ := h
  simp only [Value.slice.injEq] at he
  obtain ⟨rfl, rfl, rfl⟩ := he
  cases A with
  | none => have := hn rfl; omega
  | some a => exact ⟨a, rfl, rfl, ag_lit (hcell a rfl k hk)⟩
theorem ag_new (w : World) (g : Nat) (c : Ag) (hg : g = w.heap.size) : Blk (w.alloc (.cells #[.int .i64 c.op, .string ⟨c.col.toArray⟩] 69)) g 69 #[.int .i64 c.op, .string ⟨c.col.toArray⟩] := by subst hg; exact Blk.new _ _ _
theorem agB_cells {w : World} {g : Nat} {a b : Value} (h : Blk w g 69 #[a, b]) : w.cell? ⟨g, 0, none⟩ = some a ∧ w.cell? ⟨g, 1, none⟩ = some b := ⟨h.cell 0, h.cell 1⟩
theorem aeq_self (a : Ag) : aeq a a = true := by simp [aeq]
theorem aeq_parts (a b : Ag) : aeq a b = (a.op == b.op && a.col == b.col) := by
  obtain ⟨an, ai⟩ := a
  obtain ⟨bn, bi⟩ := b
  unfold aeq
  rw [Bool.eq_iff_iff]
  simp
theorem run_neq_ag (W : World) (a b : Ag) : (binOp .neq 69 (.agg #[.int .i64 a.op, .string ⟨a.col.toArray⟩]) (.agg #[.int .i64 b.op, .string ⟨b.col.toArray⟩])).run Tryz.prog W = .ok (.bool (!aeq a b)) W := by
  rw [aeq_parts]
  obtain ⟨an, ai⟩ := a
  obtain ⟨bn, bi⟩ := b
  go_simp
  by_cases h1 : an = bn <;> by_cases h2 : ai = bi <;> simp [h1, h2]

/-- a query's cells: c, g: the slices of its Cols, its Aggs; s: of its Where's Kids -/
def qyC (q : Qy) (c : Value) (s : Kv) (g : Value) : Array Value := #[.string ⟨q.tab.toArray⟩, c, .int .i64 q.whr.hd.op, .string ⟨q.whr.hd.col.toArray⟩, .int .i64 q.whr.hd.cmp, .bool q.whr.hd.val.null, .int .i64 q.whr.hd.val.num, .string ⟨q.whr.hd.val.txt.toArray⟩, .int .i64 q.whr.hd.kind, .string ⟨q.whr.hd.pat.toArray⟩, kidV s, g, .string ⟨q.by_.toArray⟩]
def qyV (q : Qy) (c : Value) (s : Kv) (g : Value) : Value := .agg (qyC q c s g)
def QBlk (w : World) (b : Nat) (q : Qy) (c : Value) (s : Kv) (g : Value) : Prop :=
  w.cell? ⟨b, 0, none⟩ = some (.string ⟨q.tab.toArray⟩) ∧ w.cell? ⟨b, 1, none⟩ = some c ∧ w.cell? ⟨b, 2, none⟩ = some (.int .i64 q.whr.hd.op) ∧ w.cell? ⟨b, 3, none⟩ = some (.string ⟨q.whr.hd.col.toArray⟩) ∧ w.cell? ⟨b, 4, none⟩ = some (.int .i64 q.whr.hd.cmp) ∧ w.cell? ⟨b, 5, none⟩ = some (.bool q.whr.hd.val.null) ∧ w.cell? ⟨b, 6, none⟩ = some (.int .i64 q.whr.hd.val.num) ∧ w.cell? ⟨b, 7, none⟩ = some (.string ⟨q.whr.hd.val.txt.toArray⟩) ∧ w.cell? ⟨b, 8, none⟩ = some (.int .i64 q.whr.hd.kind) ∧ w.cell? ⟨b, 9, none⟩ = some (.string ⟨q.whr.hd.pat.toArray⟩) ∧ w.cell? ⟨b, 10, none⟩ = some (.slice s.A s.n s.c) ∧ w.cell? ⟨b, 11, none⟩ = some g ∧ w.cell? ⟨b, 12, none⟩ = some (.string ⟨q.by_.toArray⟩)
abbrev QB (w : World) (b : Nat) (q : Qy) (c : Value) (s : Kv) (g : Value) : Prop := Blk w b 31 (qyC q c s g)
theorem qB_cells {w : World} {b : Nat} {q : Qy} {c : Value} {s : Kv} {g : Value} (e : QB w b q c s g) : QBlk w b q c s g :=
  ⟨e.cell 0, e.cell 1, e.cell 2, e.cell 3, e.cell 4, e.cell 5, e.cell 6, e.cell 7, e.cell 8, e.cell 9, e.cell 10, e.cell 11, e.cell 12⟩
theorem qy_new (w : World) (b : Nat) (q : Qy) (c : Value) (s : Kv) (g : Value) (hb : b = w.heap.size) : QB (w.alloc (.cells (qyC q c s g) 31)) b q c s g := by subst hb; exact Blk.new _ _ _
/-- what lies behind a query's slices -/
structure QyS (w : World) (q : Qy) (c : Value) (s : Kv) (g : Value) : Prop where
  cols : Vs sv w c q.cols
  kids : Kd w s q.whr.kids
  aggs : Gs w g q.aggs
  num : I64b q.whr.hd.val.num
theorem QyS.non {w w' : World} {q : Qy} {c : Value} {s : Kv} {g : Value} (h : QyS w q c s g) (hf : Fr Non w w') : QyS w' q c s g :=
  ⟨h.cols.non hf, h.kids.non hf, h.aggs.non hf, h.num⟩
/-- the query lies in block b of a world that has come of w0 -/
structure Qin (w0 : World) (b : Nat) (q : Qy) (c : Value) (s : Kv) (g : Value) (w : World) : Prop where
  fr : Fr Non w0 w
  blk : QB w b q c s g
  sls : QyS w q c s g
theorem Qin.non {w0 w w' : World} {b : Nat} {q : Qy} {c : Value} {s : Kv} {g : Value} (h : Qin w0 b q c s g w) (hf : Fr Non w w') : Qin w0 b q c s g w' :=
  ⟨h.fr.trans hf, h.blk.fr hf (fun e => e), h.sls.non hf⟩
theorem Qin.new {w : World} {q : Qy} {c : Value} {s : Kv} {g : Value} (h : QyS w q c s g) : Qin w w.heap.size q c s g (w.alloc (.cells (qyC q c s g) 31)) :=
  have F0 : Fr Non w (w.alloc (.cells (qyC q c s g) 31)) := (Fr.refl Non w).alloc _
  ⟨F0, qy_new w _ q c s g rfl, h.non F0⟩
theorem Qin.cells {w0 w : World} {b : Nat} {q : Qy} {c : Value} {s : Kv} {g : Value} (h : Qin w0 b q c s g w) : QBlk w b q c s g := qB_cells h.blk
theorem Qin.drew {w0 w : World} {b : Nat} {q : Qy} {c : Value} {s : Kv} {g : Value} (h : Qin w0 b q c s g w) : Qin w0 b q c s g w.drew := h.non (Fr.refl Non w).drew
end Go.Proofs.YtipgaafgnefmdaaGreatDoor


namespace Go.Proofs.YtipgaafgnefmdaaGreatDoor
set_option linter.unusedVariables false
set_option linter.unusedSimpArgs false
set_option maxRecDepth 100000
open Go.RowKit

/-- append of one text, which was stored in the new block g first -/
theorem wpList_pushS {w0 : World} {ops : Array Oper} {rest : List Oper} {o : Oper} {a : Act} {Q : Exit → Act → World → Prop} (hgd : o.guard = none) (s x : Operand)
    (ho : o.op = .call { callee := .builtin .append, args := #[s, x], argTypes := #[23, 23] })
    (B : Nat) (v : Value) (l : List Tx) (hs : a.eval s = v) (hown : Ow sv 9 w0 B v l) (u : Value) (y : Tx) (hu : u = sv y) (g : Nat) (hx : a.eval x = .slice (some ⟨g, 0, none⟩) 1 1) (hg : g = w0.heap.size)
    (hl : l.length < 1099511627776) (hB : B ≤ w0.heap.size)
    (h : ∀ v' w', Ow sv 9 w' B v' (l ++ [y]) → Fr (fun k => v.ownBlock = some k) w0 w' → wpList Tryz.prog ops Q rest (a.put o.dst v') w') :
    wpList Tryz.prog ops Q (o :: rest) a (w0.alloc (.cells #[u] 9)) := by
  subst hg
  exact wpList_pushG el_str sv_one hgd s x ho B v l hs hown u y hu hx hl hB h
end Go.Proofs.YtipgaafgnefmdaaGreatDoor


namespace Go.Proofs.YtipgaafgnefmdaaGreatDoor
set_option linter.unusedVariables false
set_option linter.unusedSimpArgs false
set_option maxRecDepth 100000
open Go.RowKit

theorem eln_agg : Eln 29 69 (.agg #[.int .i64 0, .string ⟨#[]⟩]) 2 24 := ⟨Tryz.underlying29, by kernel_rfl, rfl, by decide⟩
/-- rows of names, of aggregates, of the call's own -/
def NRow (w : World) (B : Nat) (v : Value) (l : List Tx) : Prop := Ow sv 9 w B v l
def GRow (w : World) (B : Nat) (v : Value) (l : List Ag) : Prop := No agL 2 69 w B v l
def NRowF (B : Nat) (l : List Tx) (w : World) (v : Value) : Prop := NRow w B v l ∧ 1 ≤ l.length
def GRowF (B : Nat) (l : List Ag) (w : World) (v : Value) : Prop := GRow w B v l ∧ 1 ≤ l.length
def AgF (a : Ag) (w : World) (v : Value) : Prop := v = agV a
set_option maxHeartbeats 2000000 in
theorem plistN_any (B g : Nat) (d k : Int) (s : Tx) (F : Nat) (step : List Tk → Rd Tx) (G : Tx → Prop) (hr : Reads step G) (hk : k ≠ 0) (hsay : ∀ σ, FinX σ → sayX s σ = isX k s σ)
    (hcf : ∀ args W, (callFunc F args).run Tryz.prog W = .ok (.enter F args) W) (hstep : StepP B g d F step (fun _ => NmF)) (σ : Sg) (w : World) (h : PX B g d w σ) :
    Calls Tryz.prog 46 #[.pointer (some ⟨g, 0, none⟩), .string ⟨s.toArray⟩, .func (.func F) #[.pointer (some ⟨g, 0, none⟩)] #[]] w
      fun e w' => EndX (PX B g d) (onS σ (someK k s step)) (NRowF w.heap.size) e w' ∧ Fr (One g) w w' := by
  have HST := Lib.hid hstep
  have HL := Lib.hid h.lt
  have A1 := Lib.hid (hstep w σ h)
  have HLV := Lib.hid (fun a ha => lv_start (a := a) (k := k) (s := s) hr h.finX ha)
  have HRD := Lib.hid hr
  have HK0 := Lib.hid hk
  have HSY := Lib.hid hsay
  clear hstep h hr hk hsay
  generalize onS σ (someK k s step) = X at *
  generalize onS σ step = x0 at *
  go_enter Tryz.func46, Tryz.ntmps46
  go_wp2_with fail
  refine A1.out.mono ?_
  rintro e w1 ⟨⟨p, v, rfl, rfl, hT, hA⟩, hF⟩
  have LV1 := Lib.hid (HLV.out p hA)
  have R1 : Hid (NRow (w1.alloc (.cells #[.string ⟨p.toArray⟩] 9)) w.heap.size (.slice (some ⟨w1.heap.size, 0, none⟩) 1 1) [p]) := Lib.hid (ow_lit w1 w.heap.size _ [p] #[.string ⟨p.toArray⟩] rfl rfl hF.size (by simp [maxLen]))
  have F2 : Fr Non w1 (w1.alloc (.cells #[.string ⟨p.toArray⟩] 9)) := (Fr.refl Non w1).alloc _
  have T2 := Lib.hid (hT.non F2)
  have G2 := Lib.hid (hF.trans F2.any)
  clear hT hA hF F2 A1 HLV
  skip
  go_wp2
  generalize w1.alloc _ = W2 at *
  go_loopw [7] (fun v wr => ∃ (ps : List Tx) (σ' : Sg) (vr : Value), vr = v ∧ Hid (NRow wr w.heap.size vr ps ∧ 1 ≤ ps.length) ∧ Hid (Lv k s step X ps σ') ∧ Hid (PX B g d wr σ') ∧ Hid (Fr (One g) w wr)) (fun v _ => 403 - slLen v)
  case atStart => exact ⟨[p], dropV x0, _, rfl, Lib.hid ⟨R1.out, by simp⟩, LV1, T2, G2⟩
  case round =>
    obtain ⟨ps, σ', vr, rfl, HR, HV, HT, HG⟩ := hrel
    clear R1 LV1 T2 G2
    have I := Lib.hid (pskip_any B g d s σ' wr HT.out)
    have HSI := Lib.hid (HSY.out σ' HT.out.finX)
    have Y1 := Lib.hid (fun e => skip_yes (s := s) (σ := σ') e)
    have Z1 := Lib.hid (fun e => skip_no (s := s) (σ := σ') e)
    generalize sayX s σ' = b at *
    go_wp2_with fail
    refine I.out.mono ?_
    rintro e w1 ⟨rfl, hT, hF⟩
    have HT1 := Lib.hid hT
    have HG1 := Lib.hid (HG.out.trans hF)
    have HR1 : Hid (NRow w1 w.heap.size vr ps) := Lib.hid (Ow.fr HR.out.1 hF (fun b h1 e => by have : b = g := e; have := (Ow.lt HR.out.1 b h1).1; have := HL.out; omega))
    clear hT hF I
    cases b
    · have HT2 : Hid (PX B g d w1 σ') := Lib.hid (by rw [← Z1.out (by first | rfl | trivial)]; exact HT1.out)
      obtain ⟨e1, e2⟩ := lv_end HV.out HSI.out.symm
      have E1 := Lib.hid e1
      have E2 := Lib.hid e2
      clear e1 e2
      go_wp2
      go_ret
      exact ⟨⟨ps, _, rfl, ⟨HR1.out, HR.out.2⟩, by rw [E1.out]; exact HT2.out, E2.out⟩, HG1.out⟩
    · obtain ⟨r, rfl, hi⟩ := isX_ok HSI.out.symm
      have HT2 : Hid (PX B g d w1 (.ok (tlK r))) := Lib.hid (by have := HT1.out; rw [Y1.out (by first | rfl | trivial)] at this; exact this)
      have A2 := Lib.hid (HST.out w1 (.ok (tlK r)) HT2.out)
      have LV2 := Lib.hid (fun a ha => lv_more HK0.out HRD.out HV.out hi (a := a) ha)
      have HPL := Lib.hid HV.out.1
      clear hi HT1 HT Y1 Z1
      go_wp2_with fail
      refine A2.out.mono ?_
      rintro e w2 ⟨⟨p2, v2, rfl, rfl, hT, hA⟩, hF⟩
      have LV3 := Lib.hid (LV2.out p2 hA)
      have HT3 := Lib.hid hT
      have HG3 := Lib.hid (HG1.out.trans hF)
      have HR3 : Hid (NRow w2 w.heap.size vr ps) := Lib.hid (Ow.fr HR1.out hF (fun b h1 e => by have : b = g := e; have := (Ow.lt HR1.out b h1).1; have := HL.out; omega))
      clear hT hA hF A2 LV2 HR1 HT2
      skip
      have hle := HPL.out
      have hsz := HG3.out.size
      go_wp2_with (at_builtin; refine wpList_pushS rfl (.tmp 16) (.tmp 19) rfl w.heap.size vr ps rfl HR3.out _ p2 rfl _ rfl rfl (by omega) hsz ?_; intro v3 w3 hown3 hfr3)
      have HLT := Lib.hid (Ow.lt HR3.out)
      have T4 := Lib.hid (HT3.out.fresh hfr3 (fun b e => by have := (HLT.out b e).1; have := HL.out; omega))
      have G4 := Lib.hid (HG3.out.fresh hfr3 (fun b e => (HLT.out b e).1))
      have O4 : Hid (NRow w3 w.heap.size v3 (ps ++ [p2])) := Lib.hid hown3
      have SL4 := slLen_vs (Ow.vs hown3)
      have SL0 := slLen_vs (Ow.vs HR3.out)
      clear hown3 hfr3
      go_roundw
      case rel => exact ⟨_, _, v3, rfl, Lib.hid ⟨O4.out, by simp⟩, LV3, T4, G4⟩
      case measure => rw [SL4, SL0]; simp; omega
set_option maxHeartbeats 2000000 in
theorem plistG_any (B g : Nat) (d k : Int) (s : Tx) (F : Nat) (step : List Tk → Rd Ag) (G : Ag → Prop) (hr : Reads step G) (hk : k ≠ 0) (hsay : ∀ σ, FinX σ → sayX s σ = isX k s σ)
    (hcf : ∀ args W, (callFunc F args).run Tryz.prog W = .ok (.enter F args) W) (hstep : StepP B g d F step (fun _ => AgF)) (σ : Sg) (w : World) (h : PX B g d w σ) :
    Calls Tryz.prog 48 #[.pointer (some ⟨g, 0, none⟩), .string ⟨s.toArray⟩, .func (.func F) #[.pointer (some ⟨g, 0, none⟩)] #[]] w
      fun e w' => EndX (PX B g d) (onS σ (someK k s step)) (GRowF w.heap.size) e w' ∧ Fr (One g) w w' := by
  have HST := Lib.hid hstep
  have HL := Lib.hid h.lt
  have A1 := Lib.hid (hstep w σ h)
  have HLV := Lib.hid (fun a ha => lv_start (a := a) (k := k) (s := s) hr h.finX ha)
  have HRD := Lib.hid hr
  have HK0 := Lib.hid hk
  have HSY := Lib.hid hsay
  clear hstep h hr hk hsay
  generalize onS σ (someK k s step) = X at *
  generalize onS σ step = x0 at *
  go_enter Tryz.func48, Tryz.ntmps48
  go_wp2_with fail
  refine A1.out.mono ?_
  rintro e w1 ⟨⟨p, v, rfl, rfl, hT, hA⟩, hF⟩
  have LV1 := Lib.hid (HLV.out p hA)
  have R1 : Hid (GRow (w1.alloc (.cells #[.int .i64 p.op, .string ⟨p.col.toArray⟩] 69)) w.heap.size (.slice (some ⟨w1.heap.size, 0, none⟩) 1 1) [p]) := Lib.hid (no_lit fd_ag w1 w.heap.size _ [p] #[.int .i64 p.op, .string ⟨p.col.toArray⟩] rfl rfl hF.size (by simp))
  have F2 : Fr Non w1 (w1.alloc (.cells #[.int .i64 p.op, .string ⟨p.col.toArray⟩] 69)) := (Fr.refl Non w1).alloc _
  have T2 := Lib.hid (hT.non F2)
  have G2 := Lib.hid (hF.trans F2.any)
  clear hT hA hF F2 A1 HLV
  unfold agV
  go_wp2
  generalize w1.alloc _ = W2 at *
  go_loopw [7] (fun v wr => ∃ (ps : List Ag) (σ' : Sg) (vr : Value), vr = v ∧ Hid (GRow wr w.heap.size vr ps ∧ 1 ≤ ps.length) ∧ Hid (Lv k s step X ps σ') ∧ Hid (PX B g d wr σ') ∧ Hid (Fr (One g) w wr)) (fun v _ => 403 - slLen v)
  case atStart => exact ⟨[p], dropV x0, _, rfl, Lib.hid ⟨R1.out, by simp⟩, LV1, T2, G2⟩
  case round =>
    obtain ⟨ps, σ', vr, rfl, HR, HV, HT, HG⟩ := hrel
    clear R1 LV1 T2 G2
    have I := Lib.hid (pskip_any B g d s σ' wr HT.out)
    have HSI := Lib.hid (HSY.out σ' HT.out.finX)
    have Y1 := Lib.hid (fun e => skip_yes (s := s) (σ := σ') e)
    have Z1 := Lib.hid (fun e => skip_no (s := s) (σ := σ') e)
    generalize sayX s σ' = b at *
    go_wp2_with fail
    refine I.out.mono ?_
    rintro e w1 ⟨rfl, hT, hF⟩
    have HT1 := Lib.hid hT
    have HG1 := Lib.hid (HG.out.trans hF)
    have HR1 : Hid (GRow w1 w.heap.size vr ps) := Lib.hid (No.fr HR.out.1 hF (fun b h1 e => by have : b = g := e; have := (No.lt HR.out.1 b h1).1; have := HL.out; omega))
    clear hT hF I
    cases b
    · have HT2 : Hid (PX B g d w1 σ') := Lib.hid (by rw [← Z1.out (by first | rfl | trivial)]; exact HT1.out)
      obtain ⟨e1, e2⟩ := lv_end HV.out HSI.out.symm
      have E1 := Lib.hid e1
      have E2 := Lib.hid e2
      clear e1 e2
      go_wp2
      go_ret
      exact ⟨⟨ps, _, rfl, ⟨HR1.out, HR.out.2⟩, by rw [E1.out]; exact HT2.out, E2.out⟩, HG1.out⟩
    · obtain ⟨r, rfl, hi⟩ := isX_ok HSI.out.symm
      have HT2 : Hid (PX B g d w1 (.ok (tlK r))) := Lib.hid (by have := HT1.out; rw [Y1.out (by first | rfl | trivial)] at this; exact this)
      have A2 := Lib.hid (HST.out w1 (.ok (tlK r)) HT2.out)
      have LV2 := Lib.hid (fun a ha => lv_more HK0.out HRD.out HV.out hi (a := a) ha)
      have HPL := Lib.hid HV.out.1
      clear hi HT1 HT Y1 Z1
      go_wp2_with fail
      refine A2.out.mono ?_
      rintro e w2 ⟨⟨p2, v2, rfl, rfl, hT, hA⟩, hF⟩
      have LV3 := Lib.hid (LV2.out p2 hA)
      have HT3 := Lib.hid hT
      have HG3 := Lib.hid (HG1.out.trans hF)
      have HR3 : Hid (GRow w2 w.heap.size vr ps) := Lib.hid (No.fr HR1.out hF (fun b h1 e => by have : b = g := e; have := (No.lt HR1.out b h1).1; have := HL.out; omega))
      clear hT hA hF A2 LV2 HR1 HT2
      unfold agV
      have hle := HPL.out
      have hsz := HG3.out.size
      go_wp2_with (at_builtin; refine wpList_pushN fd_ag eln_agg rfl (.tmp 16) (.tmp 19) rfl w.heap.size vr ps rfl HR3.out p2 #[.int .i64 p2.op, .string ⟨p2.col.toArray⟩] rfl _ rfl rfl (by omega) hsz ?_; intro v3 w3 hown3 hfr3)
      have HLT := Lib.hid (No.lt HR3.out)
      have T4 := Lib.hid (HT3.out.fresh hfr3 (fun b e => by have := (HLT.out b e).1; have := HL.out; omega))
      have G4 := Lib.hid (HG3.out.fresh hfr3 (fun b e => (HLT.out b e).1))
      have O4 : Hid (GRow w3 w.heap.size v3 (ps ++ [p2])) := Lib.hid hown3
      have SL4 := slLen_ns (No.ns fd_ag hown3)
      have SL0 := slLen_ns (No.ns fd_ag HR3.out)
      clear hown3 hfr3
      go_roundw
      case rel => exact ⟨_, _, v3, rfl, Lib.hid ⟨O4.out, by simp⟩, LV3, T4, G4⟩
      case measure => rw [SL4, SL0]; simp; omega
end Go.Proofs.YtipgaafgnefmdaaGreatDoor


namespace Go.Proofs.YtipgaafgnefmdaaGreatDoor
set_option linter.unusedVariables false
set_option linter.unusedSimpArgs false
set_option maxRecDepth 100000
open Go.RowKit

abbrev AgB (w : World) (g : Nat) (c : Ag) : Prop := Blk w g 69 #[.int .i64 c.op, .string ⟨c.col.toArray⟩]
def setAg (w : World) (g : Nat) (c : Ag) : World := (w.setCell ⟨g, 0, none⟩ (.int .i64 c.op)).setCell ⟨g, 1, none⟩ (.string ⟨c.col.toArray⟩)
theorem setAg_fr (w : World) (g : Nat) (c : Ag) : Fr (One g) w (setAg w g c) := ((Fr.refl (One g) w).set1 0 _).set1 1 _
theorem setAg_B {w : World} {g : Nat} {x : Ag} (h : AgB w g x) (c : Ag) : AgB (setAg w g c) g c := (h.set 0 _).set 1 _
theorem ret_ag {fn : Func} {p : Tmp} (h : fn.results = #[.cell p 69]) (tmps : Array Value) (w : World) (g : Nat) (c : Ag)
    (hp : tmps.getD p undef = .pointer (some ⟨g, 0, none⟩)) (hg : AgB w g c) : (results fn tmps).run Tryz.prog w = .ok (agV c) w :=
  results_cell_row h tmps w g 69 _ (0, 0) _ hp hg Tryz.underlying69 rfl (by kernel_rfl)
def aggsL : List Tx := [[99, 111, 117, 110, 116], [104, 97, 115], [115, 117, 109], [109, 105, 110], [109, 97, 120]]
/-- an aggregate, behind its word -/
def aggK2 (op : Int) (l : List Tk) : Rd Ag :=
    match mustK 4 [40] l with
    | .error e => .error e
    | .ok r => if op = 1 then (match mustK 4 [42] r with | .error e => .error e | .ok r2 => match mustK 4 [41] r2 with | .error e => .error e | .ok r3 => .ok (⟨1, []⟩, r3))
      else (match nameK r with | .error e => .error e | .ok (c, r2) => match mustK 4 [41] r2 with | .error e => .error e | .ok r3 => .ok (⟨op, c⟩, r3))
theorem aggK_is (l : List Tk) : aggK l = if (hdT l).kind = 1 ∧ aggW (hdT l).txt ≠ 0 then aggK2 (aggW (hdT l).txt) (tlK l) else errK l := rfl
theorem agg_count (σ : Sg) : dropV (onS σ (aggK2 1)) = onM (onM (onM σ (mustK 4 [40])) (mustK 4 [42])) (mustK 4 [41]) ∧ ∀ b r, onS σ (aggK2 1) = .ok (b, r) → (⟨1, []⟩ : Ag) = b := by
  cases σ with
  | error z => exact ⟨rfl, fun b r e => by cases e⟩
  | ok l =>
    unfold onS onM aggK2
    dsimp only
    cases mustK 4 [40] l with
    | error z => exact ⟨rfl, fun b r e => by cases e⟩
    | ok l1 =>
      dsimp only
      rw [if_pos rfl]
      cases mustK 4 [42] l1 with
      | error z => exact ⟨rfl, fun b r e => by cases e⟩
      | ok l2 =>
        dsimp only
        cases mustK 4 [41] l2 with
        | error z => exact ⟨rfl, fun b r e => by cases e⟩
        | ok l3 => exact ⟨rfl, fun b r e => by cases e; rfl⟩
theorem agg_other (σ : Sg) (op : Int) (h : op ≠ 1) : dropV (onS σ (aggK2 op)) = onM (dropV (onS (onM σ (mustK 4 [40])) nameK)) (mustK 4 [41]) ∧ ∀ c, (∀ b r, onS (onM σ (mustK 4 [40])) nameK = .ok (b, r) → c = b) → ∀ b r, onS σ (aggK2 op) = .ok (b, r) → (⟨op, c⟩ : Ag) = b := by
  cases σ with
  | error z => exact ⟨rfl, fun c hc b r e => by cases e⟩
  | ok l =>
    unfold onS onM aggK2
    dsimp only
    cases mustK 4 [40] l with
    | error z => exact ⟨rfl, fun c hc b r e => by cases e⟩
    | ok l1 =>
      dsimp only
      rw [if_neg h]
      cases nameK l1 with
      | error z => exact ⟨rfl, fun c hc b r e => by cases e⟩
      | ok y =>
        obtain ⟨y1, y2⟩ := y
        dsimp only [dropV]
        cases mustK 4 [41] y2 with
        | error z => exact ⟨rfl, fun c hc b r e => by cases e⟩
        | ok l3 => exact ⟨rfl, fun c hc b r e => by obtain rfl := hc _ _ rfl; cases e; rfl⟩
end Go.Proofs.YtipgaafgnefmdaaGreatDoor


namespace Go.Proofs.YtipgaafgnefmdaaGreatDoor
set_option linter.unusedVariables false
set_option linter.unusedSimpArgs false
set_option maxRecDepth 100000
open Go.RowKit

theorem which_agg {r : List Tk} (hf : EndL r) : whichK aggsL r = if (hdT r).kind = 1 ∧ aggW (hdT r).txt ≠ 0 then .ok (aggW (hdT r).txt - 1, tlK r) else errK r := by
  have e1 : ∀ s, ¬ s ∈ marksL → sayK s r = isK 1 s r := fun s hs => say_word hs hf
  unfold aggsL
  simp only [whichK]
  rw [e1 _ (by decide), e1 _ (by decide), e1 _ (by decide), e1 _ (by decide), e1 _ (by decide)]
  unfold isK
  by_cases hk : (hdT r).kind = 1
  · simp only [hk, decide_true, Bool.true_and, true_and, decide_eq_true_eq]
    unfold aggW errK
    generalize (hdT r).txt = t
    by_cases t1 : t = [99, 111, 117, 110, 116]
    · subst t1; rfl
    · by_cases t2 : t = [104, 97, 115]
      · subst t2; rfl
      · by_cases t3 : t = [115, 117, 109]
        · subst t3; rfl
        · by_cases t4 : t = [109, 105, 110]
          · subst t4; rfl
          · by_cases t5 : t = [109, 97, 120]
            · subst t5; rfl
            · simp [t1, t2, t3, t4, t5]
  · simp only [hk, decide_false, Bool.false_and, false_and, if_false, Bool.false_eq_true]
    rfl
theorem agg_parts {σ : Sg} (hf : FinX σ) (i : Int) (hi : ∀ b r, onS σ (whichK aggsL) = .ok (b, r) → i = b) : onS σ aggK = onS (dropV (onS σ (whichK aggsL))) (aggK2 (1 + i)) := by
  cases σ with
  | error z => rfl
  | ok l =>
    unfold onS at *
    dsimp only at *
    rw [which_agg (hf l rfl)] at hi ⊢
    rw [aggK_is]
    split
    · rename_i hs
      rw [if_pos hs] at hi
      have ei := hi _ _ rfl
      rw [show 1 + i = aggW (hdT l).txt by omega]
      rfl
    · rfl
set_option maxHeartbeats 4000000 in
theorem pagg_any (B g : Nat) (d : Int) : StepP B g d 49 aggK (fun _ => AgF) := by
  intro w σ h
  have HL := Lib.hid h.lt
  have F1 : Fr Non w ((w.alloc (.cells #[.int .i64 0, .string ⟨#[]⟩] 69)).alloc (.cells #[.string ⟨#[99, 111, 117, 110, 116]⟩, .string ⟨#[104, 97, 115]⟩, .string ⟨#[115, 117, 109]⟩, .string ⟨#[109, 105, 110]⟩, .string ⟨#[109, 97, 120]⟩] 9)) := ((Fr.refl Non w).alloc _).alloc _
  have VA : Vs sv ((w.alloc (.cells #[.int .i64 0, .string ⟨#[]⟩] 69)).alloc (.cells #[.string ⟨#[99, 111, 117, 110, 116]⟩, .string ⟨#[104, 97, 115]⟩, .string ⟨#[115, 117, 109]⟩, .string ⟨#[109, 105, 110]⟩, .string ⟨#[109, 97, 120]⟩] 9)) (.slice (some ⟨w.heap.size + 1, 0, none⟩) 5 5) aggsL := by
    have := vs_row (f := sv) (w.alloc (.cells #[.int .i64 0, .string ⟨#[]⟩] 69)) aggsL 9 (0, 0)
    rw [show (w.alloc (.cells #[.int .i64 0, .string ⟨#[]⟩] 69)).heap.size = w.heap.size + 1 by simp] at this
    exact this
  have WH := Lib.hid (pwhich_any B g d aggsL _ σ _ (h.non F1) VA (fun b hb => by
    have : w.heap.size + 1 = b := by simpa [Value.ownBlock] using hb
    have := HL.out
    omega) (by decide))
  have HZ0 : Hid (AgB ((w.alloc (.cells #[.int .i64 0, .string ⟨#[]⟩] 69)).alloc (.cells #[.string ⟨#[99, 111, 117, 110, 116]⟩, .string ⟨#[104, 97, 115]⟩, .string ⟨#[115, 117, 109]⟩, .string ⟨#[109, 105, 110]⟩, .string ⟨#[109, 97, 120]⟩] 9)) w.heap.size ⟨0, []⟩) := Lib.hid ((ag_new w _ ⟨0, []⟩ rfl).fr ((Fr.refl Non _).alloc _) (fun e => e))
  have HF0 := Lib.hid F1
  have HPA := Lib.hid (fun i => agg_parts h.finX i)
  clear h F1 VA
  generalize onS σ (whichK aggsL) = y at *
  generalize onS σ aggK = X at *
  go_enter Tryz.func49, Tryz.ntmps49
  go_wp2_with fail
  refine WH.out.mono ?_
  rintro e w1 ⟨⟨i, v, rfl, ⟨rfl, hw0, hw1⟩, hT, hA⟩, hF⟩
  have HE0 := Lib.hid (HPA.out i hA)
  have HT1 := Lib.hid hT
  have HF1 := Lib.hid (HF0.out.any.trans hF)
  have HZ1 := Lib.hid (HZ0.out.fr hF (fun e => by have : w.heap.size = g := e; have := HL.out; omega))
  have HS1 : Hid (w.heap.size + 2 ≤ w1.heap.size) := Lib.hid (by have := hF.size; simpa using this)
  have hwr : IntKind.i64.wrap (1 + i) = 1 + i := IntWalk.i64_in _ ⟨by omega, by omega⟩
  clear hT hA hF WH HF0 HZ0 HPA
  generalize dropV y = σ1 at *
  clear y
  have FA : Fr Non w1 (w1.alloc (.cells #[.int .i64 (1 + i), .string ⟨#[]⟩] 69)) := (Fr.refl Non w1).alloc _
  have HP2 : Hid (AgB (w1.alloc (.cells #[.int .i64 (1 + i), .string ⟨#[]⟩] 69)) w1.heap.size ⟨1 + i, []⟩) := Lib.hid (ag_new w1 _ ⟨1 + i, []⟩ rfl)
  have HT2 := Lib.hid (HT1.out.non FA)
  have HF2 := Lib.hid (HF1.out.trans FA.any)
  have HZ2 := Lib.hid (HZ1.out.fr FA (fun e => e))
  have HG1 := Lib.hid HT1.out.lt
  clear FA HT1 HF1 HZ1
  have N1 := Lib.hid (pneed_any B g d [40] _ _ HT2.out)
  rw [need_isM (by decide) HT2.out.finX] at N1
  go_wp2_with fail
  refine N1.out.mono ?_
  rintro e w3 ⟨rfl, hT, hF⟩
  have HT3 := Lib.hid hT
  have HF3 := Lib.hid (HF2.out.trans hF)
  have HZ3 := Lib.hid (HZ2.out.fr hF (fun e => by have : w.heap.size = g := e; have := HL.out; omega))
  have HP3 := Lib.hid (HP2.out.fr hF (fun e => by have : w1.heap.size = g := e; have := HG1.out; omega))
  clear hT hF N1 HT2 HF2 HZ2 HP2
  generalize hσ2 : onM σ1 (mustK 4 [40]) = σ2 at *
  have HSIG2 := Lib.hid hσ2
  clear hσ2
  have HNE : Hid (w.heap.size ≠ w1.heap.size) := Lib.hid (by have := HS1.out; omega)
  obtain ⟨p0, p1⟩ := agB_cells HP3.out
  by_cases hi : i = 0
  · subst hi
    clear hwr hw0 hw1
    obtain ⟨a1, a2⟩ := agg_count σ1
    rw [HSIG2.out] at a1
    have A1 := Lib.hid a1
    have A2 := Lib.hid a2
    clear a1 a2 HSIG2
    try dsimp only at p0
    have N2 := Lib.hid (pneed_any B g d [42] _ _ HT3.out)
    rw [need_isM (by decide) HT3.out.finX] at N2
    go_wp2_with fail
    refine N2.out.mono ?_
    rintro e w4 ⟨rfl, hT, hF⟩
    have HT4 := Lib.hid hT
    have HF4 := Lib.hid (HF3.out.trans hF)
    have HZ4 := Lib.hid (HZ3.out.fr hF (fun e => by have : w.heap.size = g := e; have := HL.out; omega))
    have HP4 := Lib.hid (HP3.out.fr hF (fun e => by have : w1.heap.size = g := e; have := HG1.out; omega))
    clear hT hF N2 HT3 HF3 HZ3 HP3 p0 p1
    have N3 := Lib.hid (pneed_any B g d [41] _ _ HT4.out)
    rw [need_isM (by decide) HT4.out.finX] at N3
    go_wp2_with fail
    refine N3.out.mono ?_
    rintro e w5 ⟨rfl, hT, hF⟩
    have HT5 := Lib.hid hT
    have HF5 := Lib.hid (HF4.out.trans hF)
    have HZ5 := Lib.hid (HZ4.out.fr hF (fun e => by have : w.heap.size = g := e; have := HL.out; omega))
    have HP5 := Lib.hid (HP4.out.fr hF (fun e => by have : w1.heap.size = g := e; have := HG1.out; omega))
    clear hT hF N3 HT4 HF4 HZ4 HP4
    obtain ⟨p0, p1⟩ := agB_cells HP5.out
    obtain ⟨r0, r1⟩ := agB_cells HZ5.out
    have f0 := HZ5.out.frozen 0
    have f1 := HZ5.out.frozen 1
    try dsimp only at p0 p1 r0 r1
    have E5 := Lib.hid (setAg_B (x := ⟨0, []⟩) HZ5.out ⟨1, []⟩)
    have T5 := Lib.hid (HT5.out.fresh (setAg_fr w5 w.heap.size ⟨1, []⟩) (fun k e => by have : k = w.heap.size := e; have := HL.out; omega))
    have G5 := Lib.hid (HF5.out.fresh (setAg_fr w5 w.heap.size ⟨1, []⟩) (fun k e => by have : k = w.heap.size := e; omega))
    clear HT5 HF5 HZ5 HP5
    unfold setAg at E5 T5 G5
    dsimp only at E5 T5 G5
    go_wp2
    exact bodyPost_ret (ret_ag (p := 2) rfl _ _ w.heap.size ⟨1, []⟩ rfl E5.out) rfl ⟨⟨⟨1, []⟩, _, rfl, rfl, by rw [HE0.out]; show PX B g d _ (dropV (onS σ1 (aggK2 1))); rw [A1.out]; exact T5.out, fun b r e => A2.out b r (HE0.out.symm.trans e)⟩, G5.out⟩
  · obtain ⟨a1, a2⟩ := agg_other σ1 (1 + i) (by omega)
    rw [HSIG2.out] at a1 a2
    have A1 := Lib.hid a1
    have A2 := Lib.hid a2
    have hib : (1 + i == 1) = false := by rw [beq_eq_false_iff_ne]; omega
    clear a1 a2 HSIG2 hi hwr
    have hw0' := Lib.hid hw0
    have hw1' := Lib.hid hw1
    clear hw0 hw1
    have N2 := Lib.hid (pname_ask B g d _ _ HT3.out)
    generalize onS σ2 nameK = y at *
    go_wp2_with fail
    refine N2.out.mono ?_
    rintro e w4 ⟨⟨c, v, rfl, rfl, hT, hA⟩, hF⟩
    have A3 := Lib.hid (A2.out c hA)
    have HT4 := Lib.hid hT
    have HF4 := Lib.hid (HF3.out.trans hF)
    have HZ4 := Lib.hid (HZ3.out.fr hF (fun e => by have : w.heap.size = g := e; have := HL.out; omega))
    have HP4 := Lib.hid (HP3.out.fr hF (fun e => by have : w1.heap.size = g := e; have := HG1.out; omega))
    clear hT hF hA N2 HT3 HF3 HZ3 HP3 p0 p1 A2
    generalize dropV y = σ3 at *
    clear y
    have FS := Lib.hid ((Fr.refl (One w1.heap.size) w4).set1 1 (.string ⟨c.toArray⟩))
    have HP5 : Hid (AgB (w4.setCell ⟨w1.heap.size, 1, none⟩ (.string ⟨c.toArray⟩)) w1.heap.size ⟨1 + i, c⟩) := Lib.hid (HP4.out.set 1 (.string ⟨c.toArray⟩))
    have HZ5 := Lib.hid (HZ4.out.fr FS.out (fun e => HNE.out e))
    have HT5 := Lib.hid (HT4.out.fresh FS.out (fun k e => by have : k = w1.heap.size := e; have := HG1.out; omega))
    have HF5 := Lib.hid (HF4.out.fresh FS.out (fun k e => by have : k = w1.heap.size := e; have := HS1.out; omega))
    have p1 := (agB_cells HP4.out).2
    have q1 := HP4.out.frozen 1
    try dsimp only at p1
    clear FS HT4 HF4 HZ4 HP4
    go_upto_region 6 with fail
    clear p1 q1
    generalize w4.setCell ⟨w1.heap.size, 1, none⟩ (.string ⟨c.toArray⟩) = W5 at *
    have N3 := Lib.hid (pneed_any B g d [41] _ _ HT5.out)
    rw [need_isM (by decide) HT5.out.finX] at N3
    go_wp2_with fail
    refine N3.out.mono ?_
    rintro e w5 ⟨rfl, hT, hF⟩
    have HT6 := Lib.hid hT
    have HF6 := Lib.hid (HF5.out.trans hF)
    have HZ6 := Lib.hid (HZ5.out.fr hF (fun e => by have : w.heap.size = g := e; have := HL.out; omega))
    have HP6 := Lib.hid (HP5.out.fr hF (fun e => by have : w1.heap.size = g := e; have := HG1.out; omega))
    clear hT hF N3 HT5 HF5 HZ5 HP5
    obtain ⟨p0, p1⟩ := agB_cells HP6.out
    obtain ⟨r0, r1⟩ := agB_cells HZ6.out
    have f0 := HZ6.out.frozen 0
    have f1 := HZ6.out.frozen 1
    try dsimp only at p0 p1 r0 r1
    have E5 := Lib.hid (setAg_B (x := ⟨0, []⟩) HZ6.out ⟨1 + i, c⟩)
    have T5 := Lib.hid (HT6.out.fresh (setAg_fr w5 w.heap.size ⟨1 + i, c⟩) (fun k e => by have : k = w.heap.size := e; have := HL.out; omega))
    have G5 := Lib.hid (HF6.out.fresh (setAg_fr w5 w.heap.size ⟨1 + i, c⟩) (fun k e => by have : k = w.heap.size := e; omega))
    clear HT6 HF6 HZ6 HP6
    unfold setAg at E5 T5 G5
    dsimp only at E5 T5 G5
    go_wp2
    exact bodyPost_ret (ret_ag (p := 2) rfl _ _ w.heap.size ⟨1 + i, c⟩ rfl E5.out) rfl ⟨⟨⟨1 + i, c⟩, _, rfl, rfl, by rw [HE0.out, A1.out]; exact T5.out, fun b r e => A3.out b r (by rw [← HE0.out]; exact e)⟩, G5.out⟩
end Go.Proofs.YtipgaafgnefmdaaGreatDoor


namespace Go.Proofs.YtipgaafgnefmdaaGreatDoor
set_option linter.unusedVariables false
set_option linter.unusedSimpArgs false
set_option maxRecDepth 100000
open Go.RowKit

/-- a query, and what is left behind it -/
def queryR (l : List Tk) : Rd Qy :=
  match mustK 1 selW l with
  | .error e => .error e
  | .ok l1 => match whatK l1 with
    | .error e => .error e
    | .ok ((c, g), l2) => match mustK 1 fromW l2 with
      | .error e => .error e
      | .ok l3 => match nameK l3 with
        | .error e => .error e
        | .ok (t, l4) => match whereK l4 with
          | .error e => .error e
          | .ok (p, l5) => match groupK l5 with
            | .error e => .error e
            | .ok (b, l6) => .ok (⟨t, c, p, g, b⟩, l6)
theorem queryK_R (l : List Tk) : queryK l = (match queryR l with | .error e => .error e | .ok (q, r) => endK q r) := by
  unfold queryK queryR
  cases mustK 1 selW l with
  | error z => rfl
  | ok l1 =>
    dsimp only
    cases whatK l1 with
    | error z => rfl
    | ok y =>
      obtain ⟨⟨c, g⟩, l2⟩ := y
      dsimp only
      cases mustK 1 fromW l2 with
      | error z => rfl
      | ok l3 =>
        dsimp only
        cases nameK l3 with
        | error z => rfl
        | ok y =>
          obtain ⟨t, l4⟩ := y
          dsimp only
          cases whereK l4 with
          | error z => rfl
          | ok y =>
            obtain ⟨p, l5⟩ := y
            dsimp only
            cases groupK l5 with
            | error z => rfl
            | ok y => rfl
/-- what is read is v, if anything is -/
def IsV {α : Type} (x : Rd α) (v : α) : Prop := ∀ b r, x = .ok (b, r) → v = b
theorem query_parts (σ : Sg) (c : List Tx) (gs : List Ag) (t : Tx) (p : Pd) (b : Tx) (σ2 σ4 σ5 σ6 : Sg)
    (h1 : dropV (onS (onM σ (mustK 1 selW)) whatK) = σ2) (v1 : IsV (onS (onM σ (mustK 1 selW)) whatK) (c, gs))
    (h2 : dropV (onS (onM σ2 (mustK 1 fromW)) nameK) = σ4) (v2 : IsV (onS (onM σ2 (mustK 1 fromW)) nameK) t)
    (h3 : dropV (onS σ4 whereK) = σ5) (v3 : IsV (onS σ4 whereK) p)
    (h4 : dropV (onS σ5 groupK) = σ6) (v4 : IsV (onS σ5 groupK) b) :
    dropV (onS σ queryR) = σ6 ∧ IsV (onS σ queryR) ⟨t, c, p, gs, b⟩ := by
  subst h1 h2 h3 h4
  unfold IsV at *
  cases σ with
  | error z => exact ⟨rfl, fun b r e => by cases e⟩
  | ok l =>
    unfold onS onM queryR at *
    dsimp only at *
    cases h1 : mustK 1 selW l with
    | error z => exact ⟨rfl, fun b r e => by cases e⟩
    | ok l1 =>
      simp only [h1] at *
      cases h2 : whatK l1 with
      | error z => exact ⟨rfl, fun b r e => by cases e⟩
      | ok y =>
        obtain ⟨⟨c', g'⟩, l2⟩ := y
        have e1 := v1 _ _ h2
        simp only [h2, dropV] at *
        cases h3 : mustK 1 fromW l2 with
        | error z => exact ⟨rfl, fun b r e => by cases e⟩
        | ok l3 =>
          simp only [h3] at *
          cases h4 : nameK l3 with
          | error z => exact ⟨rfl, fun b r e => by cases e⟩
          | ok y =>
            obtain ⟨t', l4⟩ := y
            have e2 := v2 _ _ h4
            simp only [h4] at *
            cases h5 : whereK l4 with
            | error z => exact ⟨rfl, fun b r e => by cases e⟩
            | ok y =>
              obtain ⟨p', l5⟩ := y
              have e3 := v3 _ _ h5
              simp only [h5] at *
              cases h6 : groupK l5 with
              | error z => exact ⟨rfl, fun b r e => by cases e⟩
              | ok y =>
                obtain ⟨b', l6⟩ := y
                have e4 := v4 _ _ h6
                refine ⟨rfl, fun q r e => ?_⟩
                cases e
                cases e1
                subst e2 e3 e4
                rfl
theorem what_star {σ : Sg} (h : isX 4 [42] σ = true) : onS σ whatK = .ok (([], []), (tailX σ)) := by
  obtain ⟨l, rfl, h2⟩ := isX_ok h
  unfold onS whatK tailX
  dsimp only
  rw [if_pos h2]
theorem what_names {σ : Sg} (h1 : isX 4 [42] σ = false) (h : namedX σ = true) : onS σ whatK = mapR (fun c => (c, ([] : List Ag))) (onS σ (someK 4 [44] nameK)) := by
  cases σ with
  | error z => cases h
  | ok l =>
    have h3 : isK 4 [42] l = false := h1
    have h4 : namedK l = true := h
    unfold onS whatK
    dsimp only
    rw [if_neg (by simp [h3]), if_pos h4, list_some]
    cases someK 4 [44] nameK l with
    | error z => rfl
    | ok y => rfl
theorem what_aggs {σ : Sg} (h1 : isX 4 [42] σ = false) (h : namedX σ = false) : onS σ whatK = mapR (fun g => (([] : List Tx), g)) (onS σ (someK 4 [44] aggK)) := by
  cases σ with
  | error z => rfl
  | ok l =>
    have h3 : isK 4 [42] l = false := h1
    have h4 : namedK l = false := h
    unfold onS whatK
    dsimp only
    rw [if_neg (by simp [h3]), if_neg (by simp [h4]), list_some]
    cases someK 4 [44] aggK l with
    | error z => rfl
    | ok y => rfl
theorem where_yes {σ : Sg} (h : isX 1 whereW σ = true) : onS σ whereK = onS (.ok (tailX σ)) (predK 6) := by
  obtain ⟨l, rfl, h2⟩ := isX_ok h
  unfold onS whereK tailX
  dsimp only
  rw [if_pos h2]
theorem where_no {σ : Sg} (h : isX 1 whereW σ = false) : dropV (onS σ whereK) = σ ∧ IsV (onS σ whereK) (.mk ⟨1, [], 0, zCl, 0, []⟩ []) := by
  cases σ with
  | error z => exact ⟨rfl, fun b r e => by cases e⟩
  | ok l =>
    have h2 : isK 1 whereW l = false := h
    unfold IsV onS whereK
    dsimp only
    rw [if_neg (by simp [h2])]
    exact ⟨rfl, fun b r e => by cases e; rfl⟩
theorem group_yes {σ : Sg} (h : isX 1 groupW σ = true) : onS σ groupK = onS (onM (.ok (tailX σ)) (mustK 1 byW)) nameK := by
  obtain ⟨l, rfl, h2⟩ := isX_ok h
  unfold onS onM groupK tailX
  dsimp only
  rw [if_pos h2]
  cases mustK 1 byW (tlK l) with
  | error z => rfl
  | ok y => rfl
theorem group_no {σ : Sg} (h : isX 1 groupW σ = false) : dropV (onS σ groupK) = σ ∧ IsV (onS σ groupK) [] := by
  cases σ with
  | error z => exact ⟨rfl, fun b r e => by cases e⟩
  | ok l =>
    have h2 : isK 1 groupW l = false := h
    unfold IsV onS groupK
    dsimp only
    rw [if_neg (by simp [h2])]
    exact ⟨rfl, fun b r e => by cases e; rfl⟩

/-! ### In memory -/
/-- what lies behind a query's slices, all of it in blocks from N on -/
structure QG (N : Nat) (w : World) (q : Qy) (c : Value) (s : Kv) (g : Value) : Prop where
  cols : Vs sv w c q.cols
  colB : ∀ b, c.ownBlock = some b → N ≤ b
  kids : KdS (fun b => N ≤ b) w s q.whr.kids
  aggs : Gs w g q.aggs
  aggB : ∀ b, g.ownBlock = some b → N ≤ b
  num : I64b q.whr.hd.val.num
theorem QG.fr {N : Nat} {w w' : World} {q : Qy} {c : Value} {s : Kv} {g : Value} {R : Nat → Prop} (h : QG N w q c s g) (hf : Fr R w w') (hn : ∀ b, N ≤ b → ¬ R b) : QG N w' q c s g :=
  ⟨h.cols.fr hf (fun b hb => hn b (h.colB b hb)), h.colB, h.kids.fr hf (fun b hb _ => hn b hb), h.aggs.fr hf (fun b hb => hn b (h.aggB b hb)), h.aggB, h.num⟩
theorem QG.s {N : Nat} {w : World} {q : Qy} {c : Value} {s : Kv} {g : Value} (h : QG N w q c s g) : QyS w q c s g := ⟨h.cols, h.kids.kd, h.aggs, h.num⟩
theorem QG.mono {N M : Nat} {w : World} {q : Qy} {c : Value} {s : Kv} {g : Value} (h : QG N w q c s g) (hM : M ≤ N) : QG M w q c s g :=
  ⟨h.cols, fun b hb => Nat.le_trans hM (h.colB b hb), h.kids.imp fun b hb _ => Nat.le_trans hM hb, h.aggs, fun b hb => Nat.le_trans hM (h.aggB b hb), h.num⟩
def QyF (N : Nat) (q : Qy) (w : World) (v : Value) : Prop := ∃ c s g, v = qyV q c s g ∧ QG N w q c s g
def allPd : Pd := .mk ⟨1, [], 0, zCl, 0, []⟩ []
def nilV : Value := .slice none 0 0
theorem nil_vs (w : World) : Vs sv w nilV [] := Vs.nil_ w
theorem nil_gs (w : World) : Gs w nilV [] := Ns.nil_ w
theorem nil_own {N : Nat} : ∀ b, nilV.ownBlock = some b → N ≤ b := fun b h => by simp [nilV, Value.ownBlock] at h
/-- all of a query stored in block b, as a walk spells it -/
def setQy (w : World) (b : Nat) (q : Qy) (c : Value) (s : Kv) (g : Value) : World := ((((((((((((w.setCell ⟨b, 0, none⟩ (.string ⟨q.tab.toArray⟩)).setCell ⟨b, 1, none⟩ c).setCell ⟨b, 2, none⟩ (.int .i64 q.whr.hd.op)).setCell ⟨b, 3, none⟩ (.string ⟨q.whr.hd.col.toArray⟩)).setCell ⟨b, 4, none⟩ (.int .i64 q.whr.hd.cmp)).setCell ⟨b, 5, none⟩ (.bool q.whr.hd.val.null)).setCell ⟨b, 6, none⟩ (.int .i64 q.whr.hd.val.num)).setCell ⟨b, 7, none⟩ (.string ⟨q.whr.hd.val.txt.toArray⟩)).setCell ⟨b, 8, none⟩ (.int .i64 q.whr.hd.kind)).setCell ⟨b, 9, none⟩ (.string ⟨q.whr.hd.pat.toArray⟩)).setCell ⟨b, 10, none⟩ (kidV s)).setCell ⟨b, 11, none⟩ g).setCell ⟨b, 12, none⟩ (.string ⟨q.by_.toArray⟩)
theorem setQy_fr (w : World) (b : Nat) (q : Qy) (c : Value) (s : Kv) (g : Value) : Fr (One b) w (setQy w b q c s g) := (((((((((((((Fr.refl (One b) w).set1 0 _).set1 1 _).set1 2 _).set1 3 _).set1 4 _).set1 5 _).set1 6 _).set1 7 _).set1 8 _).set1 9 _).set1 10 _).set1 11 _).set1 12 _
theorem set13 {w : World} {g : Nat} {t : TypeId} {a0 a1 a2 a3 a4 a5 a6 a7 a8 a9 a10 a11 a12 : Value} (e : Blk w g t #[a0, a1, a2, a3, a4, a5, a6, a7, a8, a9, a10, a11, a12]) (b0 b1 b2 b3 b4 b5 b6 b7 b8 b9 b10 b11 b12 : Value) :
    Blk (((((((((((((w.setCell ⟨g, 0, none⟩ b0).setCell ⟨g, 1, none⟩ b1).setCell ⟨g, 2, none⟩ b2).setCell ⟨g, 3, none⟩ b3).setCell ⟨g, 4, none⟩ b4).setCell ⟨g, 5, none⟩ b5).setCell ⟨g, 6, none⟩ b6).setCell ⟨g, 7, none⟩ b7).setCell ⟨g, 8, none⟩ b8).setCell ⟨g, 9, none⟩ b9).setCell ⟨g, 10, none⟩ b10).setCell ⟨g, 11, none⟩ b11).setCell ⟨g, 12, none⟩ b12) g t #[b0, b1, b2, b3, b4, b5, b6, b7, b8, b9, b10, b11, b12] := by
  have h1 := (((e.set 0 b0).set 1 b1).set 2 b2).set 3 b3
  simp at h1
  have h2 := (((h1.set 4 b4).set 5 b5).set 6 b6).set 7 b7
  simp at h2
  have h3 := ((((h2.set 8 b8).set 9 b9).set 10 b10).set 11 b11).set 12 b12
  simp at h3
  exact h3
theorem setQy_B {w : World} {b : Nat} {q0 : Qy} {c0 : Value} {s0 : Kv} {g0 : Value} (e : QB w b q0 c0 s0 g0) (q : Qy) (c : Value) (s : Kv) (g : Value) : QB (setQy w b q c s g) b q c s g := set13 e _ _ _ _ _ _ _ _ _ _ _ _ _
theorem ret_qy {fn : Func} {p : Tmp} (h : fn.results = #[.cell p 31]) (tmps : Array Value) (w : World) (b : Nat) (q : Qy) (c : Value) (s : Kv) (g : Value)
    (hp : tmps.getD p undef = .pointer (some ⟨b, 0, none⟩)) (hg : QB w b q c s g) : (results fn tmps).run Tryz.prog w = .ok (qyV q c s g) w :=
  results_cell_row h tmps w b 31 _ (0, 0) _ hp hg Tryz.underlying31 rfl (by kernel_rfl)
def QFz (w : World) (g : Nat) : Prop := w.frozen? ⟨g, 0, none⟩ = false ∧ w.frozen? ⟨g, 1, none⟩ = false ∧ w.frozen? ⟨g, 2, none⟩ = false ∧ w.frozen? ⟨g, 3, none⟩ = false ∧ w.frozen? ⟨g, 4, none⟩ = false ∧ w.frozen? ⟨g, 5, none⟩ = false ∧ w.frozen? ⟨g, 6, none⟩ = false ∧ w.frozen? ⟨g, 7, none⟩ = false ∧ w.frozen? ⟨g, 8, none⟩ = false ∧ w.frozen? ⟨g, 9, none⟩ = false ∧ w.frozen? ⟨g, 10, none⟩ = false ∧ w.frozen? ⟨g, 11, none⟩ = false ∧ w.frozen? ⟨g, 12, none⟩ = false
theorem qB_frozen {w : World} {b : Nat} {q : Qy} {c : Value} {s : Kv} {g : Value} (e : QB w b q c s g) : QFz w b :=
  ⟨e.frozen 0, e.frozen 1, e.frozen 2, e.frozen 3, e.frozen 4, e.frozen 5, e.frozen 6, e.frozen 7, e.frozen 8, e.frozen 9, e.frozen 10, e.frozen 11, e.frozen 12⟩
/-- a part of a query stored -/
theorem qB_cols {w : World} {b : Nat} {t : Tx} {cl : List Tx} {p : Pd} {a : List Ag} {y : Tx} {c : Value} {s : Kv} {g : Value} (e : QB w b ⟨t, cl, p, a, y⟩ c s g) (c2 : Value) (cl2 : List Tx) : QB (w.setCell ⟨b, 1, none⟩ c2) b ⟨t, cl2, p, a, y⟩ c2 s g := by
  have h := e.set 1 c2; simp [qyC] at h ⊢; exact h
theorem qB_aggs {w : World} {b : Nat} {t : Tx} {cl : List Tx} {p : Pd} {a : List Ag} {y : Tx} {c : Value} {s : Kv} {g : Value} (e : QB w b ⟨t, cl, p, a, y⟩ c s g) (g2 : Value) (a2 : List Ag) : QB (w.setCell ⟨b, 11, none⟩ g2) b ⟨t, cl, p, a2, y⟩ c s g2 := by
  have h := e.set 11 g2; simp [qyC] at h ⊢; exact h
theorem qB_tab {w : World} {b : Nat} {t : Tx} {cl : List Tx} {p : Pd} {a : List Ag} {y : Tx} {c : Value} {s : Kv} {g : Value} (e : QB w b ⟨t, cl, p, a, y⟩ c s g) (t2 : Tx) : QB (w.setCell ⟨b, 0, none⟩ (.string ⟨t2.toArray⟩)) b ⟨t2, cl, p, a, y⟩ c s g := by
  have h := e.set 0 (.string ⟨t2.toArray⟩); simp [qyC] at h ⊢; exact h
theorem qB_by {w : World} {b : Nat} {t : Tx} {cl : List Tx} {p : Pd} {a : List Ag} {y : Tx} {c : Value} {s : Kv} {g : Value} (e : QB w b ⟨t, cl, p, a, y⟩ c s g) (y2 : Tx) : QB (w.setCell ⟨b, 12, none⟩ (.string ⟨y2.toArray⟩)) b ⟨t, cl, p, a, y2⟩ c s g := by
  have h := e.set 12 (.string ⟨y2.toArray⟩); simp [qyC] at h ⊢; exact h
/-- its predicate stored whole -/
def setWh (w : World) (b : Nat) (h : Ph) (s : Kv) : World := ((((((((w.setCell ⟨b, 2, none⟩ (.int .i64 h.op)).setCell ⟨b, 3, none⟩ (.string ⟨h.col.toArray⟩)).setCell ⟨b, 4, none⟩ (.int .i64 h.cmp)).setCell ⟨b, 5, none⟩ (.bool h.val.null)).setCell ⟨b, 6, none⟩ (.int .i64 h.val.num)).setCell ⟨b, 7, none⟩ (.string ⟨h.val.txt.toArray⟩)).setCell ⟨b, 8, none⟩ (.int .i64 h.kind)).setCell ⟨b, 9, none⟩ (.string ⟨h.pat.toArray⟩)).setCell ⟨b, 10, none⟩ (kidV s)
theorem setWh_fr (w : World) (b : Nat) (h : Ph) (s : Kv) : Fr (One b) w (setWh w b h s) := (((((((((Fr.refl (One b) w).set1 2 _).set1 3 _).set1 4 _).set1 5 _).set1 6 _).set1 7 _).set1 8 _).set1 9 _).set1 10 _
theorem qB_whr {w : World} {b : Nat} {t : Tx} {cl : List Tx} {p : Pd} {a : List Ag} {y : Tx} {c : Value} {s : Kv} {g : Value} (e : QB w b ⟨t, cl, p, a, y⟩ c s g) (p2 : Pd) (s2 : Kv) : QB (setWh w b p2.hd s2) b ⟨t, cl, p2, a, y⟩ c s2 g := by
  have h1 := (((e.set 2 (.int .i64 p2.hd.op)).set 3 (.string ⟨p2.hd.col.toArray⟩)).set 4 (.int .i64 p2.hd.cmp)).set 5 (.bool p2.hd.val.null)
  simp [qyC] at h1
  have h2 := (((h1.set 6 (.int .i64 p2.hd.val.num)).set 7 (.string ⟨p2.hd.val.txt.toArray⟩)).set 8 (.int .i64 p2.hd.kind)).set 9 (.string ⟨p2.hd.pat.toArray⟩)
  simp at h2
  have h3 := h2.set 10 (kidV s2)
  simp at h3
  exact h3
end Go.Proofs.YtipgaafgnefmdaaGreatDoor


namespace Go.Proofs.YtipgaafgnefmdaaGreatDoor
set_option linter.unusedVariables false
set_option linter.unusedSimpArgs false
set_option maxRecDepth 100000
open Go.RowKit

/-- how the reader and its query stand, behind some of its parts -/
structure QSt (B g : Nat) (w w' : World) (σ : Sg) (q : Qy) (c : Value) (s : Kv) (a : Value) : Prop where
  st : PX B g 0 w' σ
  fr : Fr (One g) w w'
  res : QB w' w.heap.size ⟨[], [], noPd, [], []⟩ nilV noKv nilV
  qry : QB w' (w.heap.size + 1) q c s a
  sls : QG (w.heap.size + 2) w' q c s a
theorem QSt.step {B g : Nat} {w w1 w2 : World} {σ σ' : Sg} {q : Qy} {c : Value} {s : Kv} {a : Value} (h : QSt B g w w1 σ q c s a) (hg : g < w.heap.size) (hT : PX B g 0 w2 σ') (hF : Fr (One g) w1 w2) : QSt B g w w2 σ' q c s a :=
  ⟨hT, h.fr.trans hF, h.res.fr hF (fun e => by have : w.heap.size = g := e; omega), h.qry.fr hF (fun e => by have : w.heap.size + 1 = g := e; omega), h.sls.fr hF (fun b hb e => by have : b = g := e; omega)⟩
theorem QSt.sz {B g : Nat} {w w1 : World} {σ : Sg} {q : Qy} {c : Value} {s : Kv} {a : Value} (h : QSt B g w w1 σ q c s a) : w.heap.size + 2 ≤ w1.heap.size := by have := h.qry.lt; omega
/-- a part stored -/
theorem QSt.put {B g : Nat} {w w1 w2 : World} {σ : Sg} {q q2 : Qy} {c c2 : Value} {s s2 : Kv} {a a2 : Value} (h : QSt B g w w1 σ q c s a) (hg : g < w.heap.size) (hB : B ≤ w.heap.size) (hF : Fr (One (w.heap.size + 1)) w1 w2) (hq : QB w2 (w.heap.size + 1) q2 c2 s2 a2) (hs : QG (w.heap.size + 2) w2 q2 c2 s2 a2) : QSt B g w w2 σ q2 c2 s2 a2 :=
  ⟨h.st.fresh hF (fun k e => by have : k = w.heap.size + 1 := e; omega), h.fr.fresh hF (fun k e => by have : k = w.heap.size + 1 := e; omega), h.res.fr hF (fun e => by have : w.heap.size = w.heap.size + 1 := e; omega), hq, hs⟩
theorem set1_fr (w : World) (b i : Nat) (u : Value) : Fr (One b) w (w.setCell ⟨b, i, none⟩ u) := (Fr.refl (One b) w).set1 i u
set_option maxHeartbeats 4000000 in
theorem pquery_any (B g : Nat) : StepP B g 0 19 queryR QyF := by
  intro w σ h
  have HL := Lib.hid h.lt
  have HGS : Hid (g < w.heap.size) := Lib.hid (by have := h.lt; omega)
  have FA : Fr Non w ((w.alloc (.cells #[.string ⟨#[]⟩, .slice none 0 0, .int .i64 0, .string ⟨#[]⟩, .int .i64 0, .bool false, .int .i64 0, .string ⟨#[]⟩, .int .i64 0, .string ⟨#[]⟩, .slice none 0 0, .slice none 0 0, .string ⟨#[]⟩] 31)).alloc (.cells #[.string ⟨#[]⟩, .slice none 0 0, .int .i64 1, .string ⟨#[]⟩, .int .i64 0, .bool false, .int .i64 0, .string ⟨#[]⟩, .int .i64 0, .string ⟨#[]⟩, .slice none 0 0, .slice none 0 0, .string ⟨#[]⟩] 31)) := ((Fr.refl Non w).alloc _).alloc _
  have HQ : Hid (QSt B g w ((w.alloc (.cells #[.string ⟨#[]⟩, .slice none 0 0, .int .i64 0, .string ⟨#[]⟩, .int .i64 0, .bool false, .int .i64 0, .string ⟨#[]⟩, .int .i64 0, .string ⟨#[]⟩, .slice none 0 0, .slice none 0 0, .string ⟨#[]⟩] 31)).alloc (.cells #[.string ⟨#[]⟩, .slice none 0 0, .int .i64 1, .string ⟨#[]⟩, .int .i64 0, .bool false, .int .i64 0, .string ⟨#[]⟩, .int .i64 0, .string ⟨#[]⟩, .slice none 0 0, .slice none 0 0, .string ⟨#[]⟩] 31)) σ ⟨[], [], allPd, [], []⟩ nilV noKv nilV) := Lib.hid ⟨h.non FA, FA.any, (qy_new w _ ⟨[], [], noPd, [], []⟩ nilV noKv nilV rfl).fr ((Fr.refl Non _).alloc _) (fun e => e), by
      have := qy_new (w.alloc (.cells #[.string ⟨#[]⟩, .slice none 0 0, .int .i64 0, .string ⟨#[]⟩, .int .i64 0, .bool false, .int .i64 0, .string ⟨#[]⟩, .int .i64 0, .string ⟨#[]⟩, .slice none 0 0, .slice none 0 0, .string ⟨#[]⟩] 31)) _ ⟨[], [], allPd, [], []⟩ nilV noKv nilV rfl
      rw [show (w.alloc (.cells #[.string ⟨#[]⟩, .slice none 0 0, .int .i64 0, .string ⟨#[]⟩, .int .i64 0, .bool false, .int .i64 0, .string ⟨#[]⟩, .int .i64 0, .string ⟨#[]⟩, .slice none 0 0, .slice none 0 0, .string ⟨#[]⟩] 31)).heap.size = w.heap.size + 1 by simp] at this
      exact this, ⟨nil_vs _, nil_own, KdS.nil_ _ _, nil_gs _, nil_own, i64b_0⟩⟩
  have N1 := Lib.hid (pneed_any B g 0 selW σ _ (h.non FA))
  rw [need_isW (by decide) h.finX] at N1
  have HPARTS := Lib.hid (query_parts σ)
  clear h FA
  generalize onS σ queryR = X at *
  generalize onM σ (mustK 1 selW) = σ1 at *
  go_enter Tryz.func19, Tryz.ntmps19
  go_wp2_with fail
  refine N1.out.mono ?_
  rintro e w1 ⟨rfl, hT, hF⟩
  have HQ1 := Lib.hid (HQ.out.step HGS.out hT hF)
  clear hT hF N1 HQ
  have hmf : ∀ (fn : Fn) (first cap : Array Value) (w : World), (Instr.makeFunc fn first cap).run Tryz.prog w = .ok (.func fn first cap) w := fun _ _ _ _ => rfl
  go_upto_block 0 with fail
  go_cut [3] from 4 to 61 (fun q wx => q = .pointer (some ⟨w.heap.size + 1, 0, none⟩) ∧ ∃ (c : List Tx) (cv : Value) (gs : List Ag) (gv : Value), Hid (QSt B g w wx (dropV (onS σ1 whatK)) ⟨[], c, allPd, gs, []⟩ cv noKv gv) ∧ Hid (IsV (onS σ1 whatK) (c, gs)))
  case first =>
    have S1 := Lib.hid (pskip_any B g 0 [42] σ1 w1 HQ1.out.st)
    have W1 := Lib.hid (fun e => what_star (σ := σ1) e)
    have W2 := Lib.hid (fun e e2 => what_names (σ := σ1) e e2)
    have W3 := Lib.hid (fun e e2 => what_aggs (σ := σ1) e e2)
    have HSI := Lib.hid (say_isM (s := [42]) (by decide) HQ1.out.st.finX)
    have Y1 := Lib.hid (fun e => skip_yes (s := [42]) (σ := σ1) e)
    have Z1 := Lib.hid (fun e => skip_no (s := [42]) (σ := σ1) e)
    generalize sayX [42] σ1 = b1 at *
    go_wp2_with fail
    refine S1.out.mono ?_
    rintro e w2 ⟨rfl, hT, hF⟩
    have HQ2 := Lib.hid (HQ1.out.step HGS.out hT hF)
    clear hT hF S1 HQ1 HPARTS
    cases b1
    · rw [Z1.out (by first | rfl | trivial)] at HQ2
      have NM := Lib.hid (pnamed_any B g 0 σ1 w2 HQ2.out.st)
      generalize namedX σ1 = b2 at *
      go_wp2_with fail
      refine NM.out.mono ?_
      rintro e w3 ⟨rfl, hF⟩
      have HQ3 := Lib.hid (HQ2.out.step HGS.out (HQ2.out.st.non hF) hF.any)
      clear hF NM HQ2
      cases b2
      · have W31 := Lib.hid (W3.out HSI.out.symm (by first | rfl | trivial))
        clear W1 W2 W3 Y1 Z1 HSI
        have LG := Lib.hid (plistG_any B g 0 4 [44] 49 aggK _ reads_agg (by decide) (fun σ hf => say_isM (by decide) hf) Tryz.call49 (pagg_any B g 0) σ1 w3 HQ3.out.st)
        go_wp2_with fail
        refine LG.out.mono ?_
        rintro e w4 ⟨⟨gs, v, rfl, ⟨hR, h1⟩, hT, hA⟩, hF⟩
        have HQ4 := Lib.hid (HQ3.out.step HGS.out hT hF)
        have HA := Lib.hid (map_ok (f := fun g => (([] : List Tx), g)) hA)
        have HGR := Lib.hid hR
        have HS3 := Lib.hid HQ3.out.sz
        clear hR h1 hT hA hF LG HQ3
        obtain ⟨vA, vc, rfl⟩ := (No.ns fd_ag HGR.out).shape
        have r1 := HQ4.out.qry.cell 11
        have f1 := HQ4.out.qry.frozen 11
        simp [qyC] at r1
        have FS := Lib.hid (set1_fr w4 (w.heap.size + 1) 11 (.slice vA gs.length vc))
        have HQ5 := Lib.hid (HQ4.out.put HGS.out HL.out.2 FS.out (qB_aggs HQ4.out.qry (.slice vA gs.length vc) gs) ((⟨nil_vs _, nil_own, KdS.nil_ _ _, No.ns fd_ag HGR.out, fun b hb => Nat.le_trans HS3.out (No.lt HGR.out b hb).1, i64b_0⟩ : QG (w.heap.size + 2) w4 ⟨[], [], allPd, gs, []⟩ nilV noKv (.slice vA gs.length vc)).fr FS.out (fun b hb e => by have : b = w.heap.size + 1 := e; omega)))
        clear FS HQ4 HGR
        go_wp2
        go_meet
        exact ⟨rfl, [], nilV, gs, _, Lib.hid (by rw [W31.out, drop_map]; exact HQ5.out), Lib.hid (by rw [W31.out]; exact HA.out)⟩
      · have W21 := Lib.hid (W2.out HSI.out.symm (by first | rfl | trivial))
        clear W1 W2 W3 Y1 Z1 HSI
        have LN := Lib.hid (plistN_any B g 0 4 [44] 47 nameK _ reads_name (by decide) (fun σ hf => say_isM (by decide) hf) Tryz.call47 (fun W σ h => pname_ask B g 0 σ W h) σ1 w3 HQ3.out.st)
        go_wp2_with fail
        refine LN.out.mono ?_
        rintro e w4 ⟨⟨c, v, rfl, ⟨hR, h1⟩, hT, hA⟩, hF⟩
        have HQ4 := Lib.hid (HQ3.out.step HGS.out hT hF)
        have HA := Lib.hid (map_ok (f := fun c => (c, ([] : List Ag))) hA)
        have HGR := Lib.hid hR
        have HS3 := Lib.hid HQ3.out.sz
        clear hR h1 hT hA hF LN HQ3
        obtain ⟨vA, vc, rfl⟩ := (Ow.vs HGR.out).shape
        have r1 := HQ4.out.qry.cell 1
        have f1 := HQ4.out.qry.frozen 1
        simp [qyC] at r1
        have FS := Lib.hid (set1_fr w4 (w.heap.size + 1) 1 (.slice vA c.length vc))
        have HQ5 := Lib.hid (HQ4.out.put HGS.out HL.out.2 FS.out (qB_cols HQ4.out.qry (.slice vA c.length vc) c) ((⟨Ow.vs HGR.out, fun b hb => Nat.le_trans HS3.out (Ow.lt HGR.out b hb).1, KdS.nil_ _ _, nil_gs _, nil_own, i64b_0⟩ : QG (w.heap.size + 2) w4 ⟨[], c, allPd, [], []⟩ (.slice vA c.length vc) noKv nilV).fr FS.out (fun b hb e => by have : b = w.heap.size + 1 := e; omega)))
        clear FS HQ4 HGR
        go_wp2
        go_meet
        exact ⟨rfl, c, _, [], nilV, Lib.hid (by rw [W21.out, drop_map]; exact HQ5.out), Lib.hid (by rw [W21.out]; exact HA.out)⟩
    · have W11 := Lib.hid (W1.out HSI.out.symm)
      rw [Y1.out (by first | rfl | trivial)] at HQ2
      clear W1 W2 W3 Y1 Z1 HSI
      go_wp2
      go_meet
      exact ⟨rfl, [], nilV, [], nilV, Lib.hid (by rw [W11.out]; exact HQ2.out), Lib.hid (by rw [W11.out]; exact fun b r e => by cases e; rfl)⟩
  case rest =>
    obtain ⟨rfl, c, cv, gs, gv, HQ2, HV1⟩ := hcut
    clear HQ1
    have HPT := Lib.hid (fun t p b σ4 σ5 σ6 => HPARTS.out c gs t p b _ σ4 σ5 σ6 rfl HV1.out)
    clear HPARTS HV1
    generalize dropV (onS σ1 whatK) = σ2 at *
    have N2 := Lib.hid (pneed_any B g 0 fromW σ2 wc HQ2.out.st)
    rw [need_isW (by decide) HQ2.out.st.finX] at N2
    go_wp2_with fail
    refine N2.out.mono ?_
    rintro e w3 ⟨rfl, hT, hF⟩
    have HQ3 := Lib.hid (HQ2.out.step HGS.out hT hF)
    clear hT hF N2 HQ2
    generalize onM σ2 (mustK 1 fromW) = σ3 at *
    have NM := Lib.hid (pname_ask B g 0 σ3 w3 HQ3.out.st)
    go_wp2_with fail
    refine NM.out.mono ?_
    rintro e w4 ⟨⟨t, v, rfl, rfl, hT, hA⟩, hF⟩
    have HQ4 := Lib.hid (HQ3.out.step HGS.out hT hF)
    have HPT2 := Lib.hid (fun p b σ5 σ6 => HPT.out t p b _ σ5 σ6 rfl hA)
    clear hT hA hF NM HQ3 HPT
    generalize dropV (onS σ3 nameK) = σ4 at *
    have r1 := HQ4.out.qry.cell 0
    have f1 := HQ4.out.qry.frozen 0
    simp [qyC] at r1
    have FS := Lib.hid (set1_fr w4 (w.heap.size + 1) 0 (.string ⟨t.toArray⟩))
    have HQ5 := Lib.hid (HQ4.out.put HGS.out HL.out.2 FS.out (qB_tab HQ4.out.qry t) ((⟨HQ4.out.sls.cols, HQ4.out.sls.colB, HQ4.out.sls.kids, HQ4.out.sls.aggs, HQ4.out.sls.aggB, HQ4.out.sls.num⟩ : QG (w.heap.size + 2) w4 ⟨t, c, allPd, gs, []⟩ cv noKv gv).fr FS.out (fun b hb e => by have : b = w.heap.size + 1 := e; omega)))
    clear FS HQ4
    go_upto_region 9 with fail
    clear r1 f1
    generalize w4.setCell ⟨w.heap.size + 1, 0, none⟩ (.string ⟨t.toArray⟩) = W5 at *
    have S2 := Lib.hid (pskip_any B g 0 whereW σ4 W5 HQ5.out.st)
    have HSI := Lib.hid (say_isW (s := whereW) (by decide) HQ5.out.st.finX)
    have Y1 := Lib.hid (fun e => skip_yes (s := whereW) (σ := σ4) e)
    have Z1 := Lib.hid (fun e => skip_no (s := whereW) (σ := σ4) e)
    have W1 := Lib.hid (fun e => where_yes (σ := σ4) e)
    have W2 := Lib.hid (fun e => where_no (σ := σ4) e)
    generalize sayX whereW σ4 = b1 at *
    go_wp2_with fail
    refine S2.out.mono ?_
    rintro e w6 ⟨rfl, hT, hF⟩
    have HQ6 := Lib.hid (HQ5.out.step HGS.out hT hF)
    clear hT hF S2 HQ5
    go_upto_if 44 with fail
    go_cut [3] from 4 to 61 (fun q wx => q = .pointer (some ⟨w.heap.size + 1, 0, none⟩) ∧ ∃ (p : Pd) (s : Kv), Hid (QSt B g w wx (dropV (onS σ4 whereK)) ⟨t, c, p, gs, []⟩ cv s gv) ∧ Hid (IsV (onS σ4 whereK) p))
    case first =>
      cases b1
      · obtain ⟨a1, a2⟩ := W2.out HSI.out.symm
        rw [Z1.out (by first | rfl | trivial)] at HQ6
        have A1 := Lib.hid a1
        have A2 := Lib.hid a2
        clear a1 a2 W1 W2 Y1 Z1 HSI
        go_wp2
        go_meet
        exact ⟨rfl, allPd, noKv, Lib.hid (by rw [A1.out]; exact HQ6.out), A2⟩
      · have W11 := Lib.hid (W1.out HSI.out.symm)
        rw [Y1.out (by first | rfl | trivial)] at HQ6
        clear W1 W2 Y1 Z1 HSI
        have PR := Lib.hid (ppred_any B g w6 _ HQ6.out.st)
        go_wp2_with fail
        refine PR.out.mono ?_
        rintro e w7 ⟨⟨p, v, rfl, ⟨s, rfl, hk, hb⟩, hT, hA⟩, hF⟩
        have HQ7 := Lib.hid (HQ6.out.step HGS.out hT hF)
        have HA := Lib.hid hA
        have HS6 := Lib.hid HQ6.out.sz
        have HKD : Hid (KdS (fun b => w.heap.size + 2 ≤ b) w7 s p.kids) := Lib.hid (hk.imp fun b hb _ => Nat.le_trans HS6.out hb)
        have HB := Lib.hid hb
        clear hk hb hT hA hF PR HQ6
        have FS := Lib.hid (setWh_fr w7 (w.heap.size + 1) p.hd s)
        have HQ8 := Lib.hid (HQ7.out.put HGS.out HL.out.2 FS.out (qB_whr HQ7.out.qry p s) ((⟨HQ7.out.sls.cols, HQ7.out.sls.colB, HKD.out, HQ7.out.sls.aggs, HQ7.out.sls.aggB, HB.out⟩ : QG (w.heap.size + 2) w7 ⟨t, c, p, gs, []⟩ cv s gv).fr FS.out (fun b hb e => by have : b = w.heap.size + 1 := e; omega)))
        obtain ⟨r0, r1, r2, r3, r4, r5, r6, r7, r8, r9, r10, r11, r12⟩ := qB_cells HQ7.out.qry
        obtain ⟨f0, f1, f2, f3, f4, f5, f6, f7, f8, f9, f10, f11, f12⟩ := qB_frozen HQ7.out.qry
        dsimp only [noKv, allPd, zCl, Pd.hd] at r0 r1 r2 r3 r4 r5 r6 r7 r8 r9 r10 r11 r12
        clear FS HKD HB HQ7
        obtain ⟨⟨xo, xc, xm, ⟨xn, xi, xt⟩, xk, xp⟩, xks⟩ := p
        obtain ⟨sA, sn, sc⟩ := s
        unfold pdV pdC kidV
        unfold setWh kidV at HQ8
        dsimp only [Pd.hd, Pd.kids] at *
        go_wp2
        go_meet
        exact ⟨rfl, .mk ⟨xo, xc, xm, ⟨xn, xi, xt⟩, xk, xp⟩ xks, ⟨sA, sn, sc⟩, Lib.hid (by rw [W11.out]; exact HQ8.out), Lib.hid (by rw [W11.out]; exact HA.out)⟩
    case rest =>
      obtain ⟨rfl, p, s, HQ7, HV3⟩ := hcut
      have HPT3 := Lib.hid (fun b σ6 => HPT2.out p b _ σ6 rfl HV3.out)
      clear HPT2 HV3 HQ6 HSI Y1 Z1 W1 W2
      generalize dropV (onS σ4 whereK) = σ5 at *
      have S3 := Lib.hid (pskip_any B g 0 groupW σ5 wc HQ7.out.st)
      have HSI := Lib.hid (say_isW (s := groupW) (by decide) HQ7.out.st.finX)
      have Y1 := Lib.hid (fun e => skip_yes (s := groupW) (σ := σ5) e)
      have Z1 := Lib.hid (fun e => skip_no (s := groupW) (σ := σ5) e)
      have W1 := Lib.hid (fun e => group_yes (σ := σ5) e)
      have W2 := Lib.hid (fun e => group_no (σ := σ5) e)
      generalize sayX groupW σ5 = b2 at *
      go_wp2_with fail
      refine S3.out.mono ?_
      rintro e w8 ⟨rfl, hT, hF⟩
      have HQ8 := Lib.hid (HQ7.out.step HGS.out hT hF)
      clear hT hF S3 HQ7
      go_upto_if 51 with fail
      go_cut [3] from 4 to 61 (fun q wx => q = .pointer (some ⟨w.heap.size + 1, 0, none⟩) ∧ ∃ (b : Tx), Hid (QSt B g w wx (dropV (onS σ5 groupK)) ⟨t, c, p, gs, b⟩ cv s gv) ∧ Hid (IsV (onS σ5 groupK) b))
      case first =>
        cases b2
        · obtain ⟨a1, a2⟩ := W2.out HSI.out.symm
          rw [Z1.out (by first | rfl | trivial)] at HQ8
          have A1 := Lib.hid a1
          have A2 := Lib.hid a2
          clear a1 a2 W1 W2 Y1 Z1 HSI
          go_wp2
          go_meet
          exact ⟨rfl, [], Lib.hid (by rw [A1.out]; exact HQ8.out), A2⟩
        · have W11 := Lib.hid (W1.out HSI.out.symm)
          rw [Y1.out (by first | rfl | trivial)] at HQ8
          clear W1 W2 Y1 Z1 HSI
          have N4 := Lib.hid (pneed_any B g 0 byW _ w8 HQ8.out.st)
          rw [need_isW (by decide) HQ8.out.st.finX] at N4
          go_wp2_with fail
          refine N4.out.mono ?_
          rintro e w9 ⟨rfl, hT, hF⟩
          have HQ9 := Lib.hid (HQ8.out.step HGS.out hT hF)
          clear hT hF N4 HQ8
          have NM := Lib.hid (pname_ask B g 0 _ w9 HQ9.out.st)
          go_wp2_with fail
          refine NM.out.mono ?_
          rintro e wa ⟨⟨b, v, rfl, rfl, hT, hA⟩, hF⟩
          have HQA := Lib.hid (HQ9.out.step HGS.out hT hF)
          have HA := Lib.hid hA
          clear hT hA hF NM HQ9
          have r1 := HQA.out.qry.cell 12
          have f1 := HQA.out.qry.frozen 12
          simp [qyC] at r1
          have FS := Lib.hid (set1_fr wa (w.heap.size + 1) 12 (.string ⟨b.toArray⟩))
          have HQB := Lib.hid (HQA.out.put HGS.out HL.out.2 FS.out (qB_by HQA.out.qry b) ((⟨HQA.out.sls.cols, HQA.out.sls.colB, HQA.out.sls.kids, HQA.out.sls.aggs, HQA.out.sls.aggB, HQA.out.sls.num⟩ : QG (w.heap.size + 2) wa ⟨t, c, p, gs, b⟩ cv s gv).fr FS.out (fun b hb e => by have : b = w.heap.size + 1 := e; omega)))
          clear FS HQA
          go_wp2
          go_meet
          exact ⟨rfl, b, Lib.hid (by rw [W11.out]; exact HQB.out), Lib.hid (by rw [W11.out]; exact HA.out)⟩
      case rest =>
        obtain ⟨rfl, b, HQ9, HV4⟩ := hcut
        obtain ⟨a1, a2⟩ := HPT3.out b _ rfl HV4.out
        have A1 := Lib.hid a1
        have A2 := Lib.hid a2
        clear a1 a2 HPT3 HV4 HQ8 HSI Y1 Z1 W1 W2
        generalize dropV (onS σ5 groupK) = σ6 at *
        obtain ⟨cA, cc, hcv⟩ := HQ9.out.sls.cols.shape
        obtain ⟨gA, gc, hgv⟩ := HQ9.out.sls.aggs.shape
        dsimp only at hcv hgv
        subst hcv hgv
        obtain ⟨r0, r1, r2, r3, r4, r5, r6, r7, r8, r9, r10, r11, r12⟩ := qB_cells HQ9.out.res
        obtain ⟨f0, f1, f2, f3, f4, f5, f6, f7, f8, f9, f10, f11, f12⟩ := qB_frozen HQ9.out.res
        obtain ⟨p0, p1, p2, p3, p4, p5, p6, p7, p8, p9, p10, p11, p12⟩ := qB_cells HQ9.out.qry
        have E5 := Lib.hid (setQy_B HQ9.out.res ⟨t, c, p, gs, b⟩ (.slice cA c.length cc) s (.slice gA gs.length gc))
        have T5 := Lib.hid (HQ9.out.st.fresh (setQy_fr wc w.heap.size ⟨t, c, p, gs, b⟩ (.slice cA c.length cc) s (.slice gA gs.length gc)) (fun k e => by have : k = w.heap.size := e; have := HL.out; omega))
        have G5 := Lib.hid (HQ9.out.fr.fresh (setQy_fr wc w.heap.size ⟨t, c, p, gs, b⟩ (.slice cA c.length cc) s (.slice gA gs.length gc)) (fun k e => by have : k = w.heap.size := e; omega))
        have K5 := Lib.hid ((HQ9.out.sls.fr (setQy_fr wc w.heap.size ⟨t, c, p, gs, b⟩ (.slice cA c.length cc) s (.slice gA gs.length gc)) (fun k hk e => by have : k = w.heap.size := e; omega)).mono (M := w.heap.size) (by omega))
        clear HQ9
        obtain ⟨⟨xo, xc, xm, ⟨xn, xi, xt⟩, xk, xp⟩, xks⟩ := p
        obtain ⟨sA, sn, sc⟩ := s
        unfold setQy kidV at E5 T5 G5 K5
        dsimp only [noKv, noPd, zCl, Pd.hd, nilV] at *
        go_wp2
        exact bodyPost_ret (ret_qy (p := 2) rfl _ _ w.heap.size ⟨t, c, .mk ⟨xo, xc, xm, ⟨xn, xi, xt⟩, xk, xp⟩ xks, gs, b⟩ (.slice cA c.length cc) ⟨sA, sn, sc⟩ (.slice gA gs.length gc) rfl E5.out) rfl ⟨⟨_, _, rfl, ⟨_, ⟨sA, sn, sc⟩, _, rfl, K5.out⟩, by rw [A1.out]; exact T5.out, A2.out⟩, G5.out⟩
end Go.Proofs.YtipgaafgnefmdaaGreatDoor


namespace Go.Proofs.YtipgaafgnefmdaaGreatDoor
set_option linter.unusedVariables false
set_option linter.unusedSimpArgs false
set_option maxRecDepth 100000
open Go.RowKit

theorem tq_err {s : Tx} (h : (wsB s).2.2 ≠ 0) : telQ s = (noQy, ((wsB s).2.1 : Int), ((wsB s).2.2 : Int)) := by unfold telQ; rw [if_pos h]
theorem tq_no {s : Tx} (h : (wsB s).2.2 = 0) (hk : kindX 0 (dropV (queryR (wsB s).1)) = false) : telQ s = (noQy, placeX (dropV (queryR (wsB s).1)), 2) := by
  unfold telQ
  rw [if_neg (by simp [h]), queryK_R]
  cases hx : queryR (wsB s).1 with
  | error z => rfl
  | ok y =>
    obtain ⟨q, r⟩ := y
    rw [hx] at hk
    have e : ¬ (hdT r).kind = 0 := of_decide_eq_false hk
    dsimp only
    unfold endK
    rw [if_neg e]
    rfl
theorem tq_yes {s : Tx} (h : (wsB s).2.2 = 0) (hk : kindX 0 (dropV (queryR (wsB s).1)) = true) : ∃ q r, queryR (wsB s).1 = .ok (q, r) ∧ BgQ q ∧ (mayQ q = true → telQ s = (q, (s.length : Int), 0)) ∧ (mayQ q = false → telQ s = (noQy, 0, 1)) := by
  cases hx : queryR (wsB s).1 with
  | error z => rw [hx] at hk; cases hk
  | ok y =>
    obtain ⟨q, r⟩ := y
    rw [hx] at hk
    have e : (hdT r).kind = 0 := of_decide_eq_true hk
    have eq : queryK (wsB s).1 = .ok q := by rw [queryK_R, hx]; dsimp only; unfold endK; rw [if_pos e]
    refine ⟨q, r, rfl, (query_gd (ws_end h) eq).1, fun hm => ?_, fun hm => ?_⟩
    · unfold telQ; rw [if_neg (by simp [h]), eq]; dsimp only; rw [if_pos hm]
    · unfold telQ; rw [if_neg (by simp [h]), eq]; dsimp only; rw [if_neg (by simp [hm])]
theorem results_cell_tmp2 {fn : Func} {p u v : Tmp} {ty : TypeId} (h : fn.results = #[.cell p ty, .tmp u, .tmp v]) (tmps : Array Value) (P : Program) (w : World) :
    (results fn tmps).run P w =
      ((asAddr (tmps.getD p undef)).run P w).andThen fun a w₁ => ((loadVar ty a).run P w₁).andThen fun x w₂ => .ok (.tuple #[x, tmps.getD u undef, tmps.getD v undef]) w₂ := by
  simp only [results, h]
  simp [Sem.run_bind, Result.andThen]
theorem ret_qy3 {fn : Func} {p u v : Tmp} (h : fn.results = #[.cell p 31, .tmp u, .tmp v]) (tmps : Array Value) (w : World) (b : Nat) (q : Qy) (c : Value) (s : Kv) (g x y : Value)
    (hp : tmps.getD p undef = .pointer (some ⟨b, 0, none⟩)) (hx : tmps.getD u undef = x) (hy : tmps.getD v undef = y) (hg : QB w b q c s g) : (results fn tmps).run Tryz.prog w = .ok (.tuple #[qyV q c s g, x, y]) w := by
  have hl : (loadVar 31 ⟨b, 0, none⟩).run Tryz.prog w = .ok (qyV q c s g) w :=
    run_loadVar_row w b 31 31 _ (0, 0) _ hg Tryz.underlying31 rfl (by kernel_rfl)
  rw [results_cell_tmp2 h, hp, hx, hy]
  simp [asAddr, hl, Result.andThen]
/-- how Query, Where end: what they tell -/
def TelQ (s : Tx) (w : World) (e : Ending) (w' : World) : Prop := ∃ c k g, e = .returned (.tuple #[qyV (telQ s).1 c k g, .int .i64 (telQ s).2.1, .int .i64 (telQ s).2.2]) ∧ QG w.heap.size w' (telQ s).1 c k g ∧ Fr Non w w'
def TelP (s : Tx) (w : World) (e : Ending) (w' : World) : Prop := ∃ k, e = .returned (.tuple #[pdV (telP s).1.hd k, .int .i64 (telP s).2.1, .int .i64 (telP s).2.2]) ∧ KdS (fun b => w.heap.size ≤ b) w' k (telP s).1.kids ∧ I64b (telP s).1.hd.val.num ∧ Fr Non w w'
theorem TelQ.none {s : Tx} {w w' : World} {n e : Int} (h : telQ s = (noQy, n, e)) (hf : Fr Non w w') : TelQ s w (.returned (.tuple #[qyV noQy nilV noKv nilV, .int .i64 n, .int .i64 e])) w' := by
  unfold TelQ
  rw [h]
  exact ⟨nilV, noKv, nilV, rfl, ⟨nil_vs _, nil_own, KdS.nil_ _ _, nil_gs _, nil_own, i64b_0⟩, hf⟩
theorem TelQ.some {s : Tx} {w w' : World} {n e : Int} {q : Qy} {c : Value} {k : Kv} {g : Value} (h : telQ s = (q, n, e)) (hs : QG w.heap.size w' q c k g) (hf : Fr Non w w') : TelQ s w (.returned (.tuple #[qyV q c k g, .int .i64 n, .int .i64 e])) w' := by
  unfold TelQ
  rw [h]
  exact ⟨c, k, g, rfl, hs, hf⟩
theorem TelP.some {s : Tx} {w w' : World} {n e : Int} {h0 : Ph} {ks : List Pd} {k : Kv} (h : telP s = (.mk h0 ks, n, e)) (hs : KdS (fun b => w.heap.size ≤ b) w' k ks) (hb : I64b h0.val.num) (hf : Fr Non w w') : TelP s w (.returned (.tuple #[pdV h0 k, .int .i64 n, .int .i64 e])) w' := by
  unfold TelP
  rw [h]
  exact ⟨k, rfl, hs, hb, hf⟩
theorem TelP.none {s : Tx} {w w' : World} {n e : Int} (h : telP s = (noPd, n, e)) (hf : Fr Non w w') : TelP s w (.returned (.tuple #[pdV noPd.hd noKv, .int .i64 n, .int .i64 e])) w' := by
  unfold TelP
  rw [h]
  exact ⟨noKv, rfl, KdS.nil_ _ _, i64b_0, hf⟩
end Go.Proofs.YtipgaafgnefmdaaGreatDoor
