/-
  Joined: Layer 19: the document's reader: a single, by the levels left; predicates. · Layer 19: the document's reader: what is asked for. · Layer 16: the document's quoted, mark. · Layer 16: the first word (the document's). · Layer 16: all the words of a text (the document's).
-/
import Derived.Deep.Slices
import Derived.Laws.StructEq
import Derived.Laws.Rows
import Derived.Laws.ResultCell
import Derived.Lib.Zigzag
import Derived.Laws.Cover1
import Derived.Deep.QuietTactic
import Derived.BigQuiet
import Derived.Deep.RegionHeld3
import Derived.Deep.DrawnRows
import Derived.StillTail
import Derived.Test.YtipgaafgnefmdaaGreatDoorZ7
import Derived.Test.YtipgaafgnefmdaaGreatDoorZ4
import Derived.Test.YtipgaafgnefmdaaGreatDoorZ5

namespace Go.Proofs.YtipgaafgnefmdaaGreatDoor
set_option linter.unusedVariables false
set_option linter.unusedSimpArgs false
set_option maxRecDepth 100000
open Go.RowKit

theorem kd_setT {w1 : World} {n : Nat} (h : Ph) (t : Kv) (s : Kv) (ks : List Pd) (hk : KdS (fun b => n + 1 ≤ b) w1 s ks) : KdS (fun b => n ≤ b) (setPd w1 n h t) s ks :=
  (hk.fr (setPd_fr w1 n h t) (fun b hb _ e => by have : b = n := e; omega)).imp fun b hb _ => by omega
theorem TX.bad {B g : Nat} {w : World} {k : Int} (h : TX B g w (.error k)) : w.cell? ⟨g, 1, none⟩ = some (.bool true) ∧ g < w.heap.size := by
  obtain ⟨l, A, c, hR⟩ := h
  exact ⟨hR.cells.2.1, hR.blk.lt⟩
theorem TX.good {B g : Nat} {w : World} {l : List Tk} (h : TX B g w (.ok l)) : w.cell? ⟨g, 1, none⟩ = some (.bool false) ∧ g < w.heap.size := by
  obtain ⟨A, c, hR⟩ := h
  exact ⟨hR.cells.2.1, hR.blk.lt⟩
set_option maxHeartbeats 2000000 in
theorem tsingle_0 (B g : Nat) : StepT B g 7 84 (singleK 0) := by
  intro w σ h
  have F0 : Fr Non w (w.alloc (.cells #[.int .i64 0, .string ⟨#[]⟩, .int .i64 0, .bool false, .int .i64 0, .string ⟨#[]⟩, .int .i64 0, .string ⟨#[]⟩, .slice none 0 0] 28)) := (Fr.refl Non w).alloc _
  have FL := Lib.hid (xfail_any B g σ _ (h.non F0))
  have HL := Lib.hid h.lt
  have HE : Hid (dropV (onS σ (singleK 0)) = onM σ errK ∧ (∃ k, onM σ errK = .error k) ∧ ∀ b r, onS σ (singleK 0) = .ok (b, r) → (Pd.mk ⟨0, [], 0, zCl, 0, []⟩ []) = b) := Lib.hid (by
    clear h FL
    cases σ with
    | ok l => exact ⟨rfl, ⟨_, rfl⟩, fun b r e => by cases e⟩
    | error z => exact ⟨rfl, ⟨_, rfl⟩, fun b r e => by cases e⟩)
  clear h F0
  generalize onS σ (singleK 0) = X at *
  go_enter Tryz.func84, Tryz.ntmps84
  go_wp2_with fail
  refine FL.out.mono ?_
  rintro e w1 ⟨rfl, hT, hF⟩
  have HT1 := Lib.hid hT
  have HF1 := Lib.hid (((Fr.refl (One g) w).alloc _).trans hF)
  have HZ1 : Hid (PdB w1 w.heap.size ⟨0, [], 0, zCl, 0, []⟩ noKv) := Lib.hid ((pd_new w _ ⟨0, [], 0, zCl, 0, []⟩ noKv rfl).fr hF (fun e => by have : w.heap.size = g := e; have := HL.out; omega))
  clear hF FL
  obtain ⟨e1, ⟨k, e2⟩, e3⟩ := HE.out
  rw [e2] at hT
  obtain ⟨cb, _⟩ := hT.bad
  clear hT e1 e2 e3
  obtain ⟨f0, f1, f2, f3, f4, f5, f6, f7, f8⟩ := pdB_frozen HZ1.out
  obtain ⟨r0, r1, r2, r3, r4, r5, r6, r7, r8⟩ := pdB_cells HZ1.out
  dsimp only [noKv, zCl] at r0 r1 r2 r3 r4 r5 r6 r7 r8
  have E5 := Lib.hid (setPd_B HZ1.out ⟨0, [], 0, zCl, 0, []⟩ noKv)
  have T5 := Lib.hid (HT1.out.fresh (setPd_fr w1 w.heap.size ⟨0, [], 0, zCl, 0, []⟩ noKv) (fun k e => by have : k = w.heap.size := e; have := HL.out; omega))
  have G5 := Lib.hid (setPd_end HF1.out ⟨0, [], 0, zCl, 0, []⟩ noKv)
  clear HF1 HT1 HZ1
  unfold setPd kidV noKv zCl at E5 T5 G5
  dsimp only at E5 T5 G5
  go_wp2
  exact bodyPost_ret (ret_pd (p := 4) rfl _ _ w.heap.size ⟨0, [], 0, zCl, 0, []⟩ noKv rfl E5.out) rfl ⟨⟨.mk ⟨0, [], 0, zCl, 0, []⟩ [], _, rfl, ⟨noKv, rfl, KdS.nil_ _ _, i64b_0⟩, by rw [HE.out.1]; exact T5.out, HE.out.2.2⟩, G5.out⟩
set_option maxHeartbeats 4000000 in
theorem tsingle_of (B g : Nat) (d : Int) (hd1 : 1 ≤ d) (hd6 : d ≤ 6) (n : Nat) (hs : StepT B g (d + 1) 84 (singleK n)) (hp : StepT B g (d + 1) 27 (predK n)) : StepT B g d 84 (singleK (n + 1)) := by
  intro w σ h
  have F0 : Fr Non w (w.alloc (.cells #[.int .i64 0, .string ⟨#[]⟩, .int .i64 0, .bool false, .int .i64 0, .string ⟨#[]⟩, .int .i64 0, .string ⟨#[]⟩, .slice none 0 0] 28)) := (Fr.refl Non w).alloc _
  have h0 := h.non F0
  have HL := Lib.hid h.lt
  have HP := Lib.hid hp
  have HSg := Lib.hid hs
  have HF0 : Hid (Fr (One g) w (w.alloc (.cells #[.int .i64 0, .string ⟨#[]⟩, .int .i64 0, .bool false, .int .i64 0, .string ⟨#[]⟩, .int .i64 0, .string ⟨#[]⟩, .slice none 0 0] 28))) := Lib.hid F0.any
  have HZ0 : Hid (PdB (w.alloc (.cells #[.int .i64 0, .string ⟨#[]⟩, .int .i64 0, .bool false, .int .i64 0, .string ⟨#[]⟩, .int .i64 0, .string ⟨#[]⟩, .slice none 0 0] 28)) w.heap.size ⟨0, [], 0, zCl, 0, []⟩ noKv) := Lib.hid (pd_new w _ ⟨0, [], 0, zCl, 0, []⟩ noKv rfl)
  have hd7 : decide ((6 : Int) < d) = false := decide_eq_false (by omega)
  have hw1 : IntKind.i64.wrap (d + 1) = d + 1 := IntWalk.i64_in _ ⟨by omega, by omega⟩
  have HS0 : Hid (w.heap.size + 1 = (w.alloc (.cells #[.int .i64 0, .string ⟨#[]⟩, .int .i64 0, .bool false, .int .i64 0, .string ⟨#[]⟩, .int .i64 0, .string ⟨#[]⟩, .slice none 0 0] 28)).heap.size) := Lib.hid (by simp)
  clear hs hp F0
  cases σ with
  | error z =>
    have HT0 := Lib.hid h0
    obtain ⟨cb, _⟩ := h0.bad
    clear h h0 HP HSg
    go_enter Tryz.func84, Tryz.ntmps84
    go_upto_region 3 with fail
    generalize hW : w.alloc (.cells #[.int .i64 0, .string ⟨#[]⟩, .int .i64 0, .bool false, .int .i64 0, .string ⟨#[]⟩, .int .i64 0, .string ⟨#[]⟩, .slice none 0 0] 28) = w1 at *
    clear hW
    go_upto_region 4 with fail
    clear cb
    obtain ⟨f0, f1, f2, f3, f4, f5, f6, f7, f8⟩ := pdB_frozen HZ0.out
    obtain ⟨r0, r1, r2, r3, r4, r5, r6, r7, r8⟩ := pdB_cells HZ0.out
    dsimp only [noKv, zCl] at r0 r1 r2 r3 r4 r5 r6 r7 r8
    have E5 := Lib.hid (setPd_B HZ0.out ⟨0, [], 0, zCl, 0, []⟩ noKv)
    have T5 := Lib.hid (HT0.out.fresh (setPd_fr w1 w.heap.size ⟨0, [], 0, zCl, 0, []⟩ noKv) (fun k e => by have : k = w.heap.size := e; have := HL.out; omega))
    have G5 := Lib.hid (setPd_end HF0.out ⟨0, [], 0, zCl, 0, []⟩ noKv)
    clear HF0 HT0 HZ0
    unfold setPd kidV noKv zCl at E5 T5 G5
    dsimp only at E5 T5 G5
    go_wp2
    exact bodyPost_ret (ret_pd (p := 4) rfl _ _ w.heap.size ⟨0, [], 0, zCl, 0, []⟩ noKv rfl E5.out) rfl ⟨⟨.mk ⟨0, [], 0, zCl, 0, []⟩ [], _, rfl, ⟨noKv, rfl, KdS.nil_ _ _, i64b_0⟩, T5.out, fun b r e => by cases e⟩, G5.out⟩
  | ok l =>
    have HT0 := Lib.hid h0
    obtain ⟨cb, _⟩ := h0.good
    have I1 := Lib.hid (xis_any B g 1 notW (.ok l) _ h0)
    have I2 := Lib.hid (xis_any B g 4 [40] (.ok l) _ h0)
    have I3 := Lib.hid (xis_any B g 1 allW (.ok l) _ h0)
    have TK := Lib.hid (xtake_any B g l _ h0)
    have AK := Lib.hid (xasked_any B g (.ok l) _ h0)
    have HE : Hid (onS (.ok l) (singleK (n + 1)) = singleK (n + 1) l) := Lib.hid rfl
    have C1 := Lib.hid (fun e => single_not (d := n) (l := l) e)
    have C2 := Lib.hid (fun e e2 => single_open (d := n) (l := l) e e2)
    have C3 := Lib.hid (fun e e2 e3 => single_all (d := n) (l := l) e e2 e3)
    have C4 := Lib.hid (fun e e2 e3 => single_asked (d := n) (l := l) e e2 e3)
    have J1 : Hid (isX 1 notW (.ok l) = isK 1 notW l) := Lib.hid rfl
    have J2 : Hid (isX 4 [40] (.ok l) = isK 4 [40] l) := Lib.hid rfl
    have J3 : Hid (isX 1 allW (.ok l) = isK 1 allW l) := Lib.hid rfl
    rw [J1.out] at I1
    rw [J2.out] at I2
    rw [J3.out] at I3
    clear J1 J2 J3 h h0
    rw [HE.out]
    clear HE
    generalize singleK (n + 1) l = X at *
    generalize isK 1 notW l = b1 at *
    generalize isK 4 [40] l = b2 at *
    generalize isK 1 allW l = b3 at *
    have HXA : Hid (onS (.ok l) askedK = askedK l) := Lib.hid rfl
    rw [HXA.out] at AK
    clear HXA
    generalize askedK l = XA at *
    go_enter Tryz.func84, Tryz.ntmps84
    go_upto_region 3 with fail
    generalize hW : w.alloc (.cells #[.int .i64 0, .string ⟨#[]⟩, .int .i64 0, .bool false, .int .i64 0, .string ⟨#[]⟩, .int .i64 0, .string ⟨#[]⟩, .slice none 0 0] 28) = w1 at *
    clear hW
    go_wp2_with fail
    refine I1.out.mono ?_
    rintro e wx ⟨rfl, rfl⟩
    clear I1 cb
    cases b1
    · go_wp2_with fail
      refine I2.out.mono ?_
      rintro e wx ⟨rfl, rfl⟩
      clear I2 C1
      cases b2
      · go_wp2_with fail
        refine I3.out.mono ?_
        rintro e wx ⟨rfl, rfl⟩
        clear I3 C2
        cases b3
        · have A41 := Lib.hid (C4.out (by first | rfl | trivial) (by first | rfl | trivial) (by first | rfl | trivial))
          clear C3 C4 TK HP HSg
          go_wp2_with fail
          refine AK.out.mono ?_
          rintro e w4 ⟨⟨p, v, rfl, ⟨s, rfl, hk, hb⟩, hT, hA⟩, hF⟩
          have HT4 := Lib.hid hT
          have HF4 := Lib.hid (HF0.out.trans hF)
          have HZ4 := Lib.hid (HZ0.out.fr hF (fun e => by have : w.heap.size = g := e; have := HL.out; omega))
          have HK4 : Hid (KdS (fun b => w.heap.size + 1 ≤ b) w4 s p.kids) := Lib.hid (hk.imp fun b hb _ => by have := HS0.out; omega)
          have HB := Lib.hid hb
          have HA := Lib.hid hA
          clear hT hF hA hk hb AK HT0 HF0 HZ0
          obtain ⟨⟨xo, xc, xm, ⟨xn, xi, xt⟩, xk, xp⟩, xks⟩ := p
          obtain ⟨sA, sn, sc⟩ := s
          unfold pdV pdC kidV
          dsimp only [Pd.hd, Pd.kids] at *
          obtain ⟨f0, f1, f2, f3, f4, f5, f6, f7, f8⟩ := pdB_frozen HZ4.out
          obtain ⟨r0, r1, r2, r3, r4, r5, r6, r7, r8⟩ := pdB_cells HZ4.out
          dsimp only [noKv, zCl] at r0 r1 r2 r3 r4 r5 r6 r7 r8
          have E5 := Lib.hid (setPd_B HZ4.out ⟨xo, xc, xm, ⟨xn, xi, xt⟩, xk, xp⟩ ⟨sA, sn, sc⟩)
          have T5 := Lib.hid (HT4.out.fresh (setPd_fr w4 w.heap.size ⟨xo, xc, xm, ⟨xn, xi, xt⟩, xk, xp⟩ ⟨sA, sn, sc⟩) (fun k e => by have : k = w.heap.size := e; have := HL.out; omega))
          have G5 := Lib.hid (setPd_end HF4.out ⟨xo, xc, xm, ⟨xn, xi, xt⟩, xk, xp⟩ ⟨sA, sn, sc⟩)
          have K5 := Lib.hid (kd_setT ⟨xo, xc, xm, ⟨xn, xi, xt⟩, xk, xp⟩ ⟨sA, sn, sc⟩ _ _ HK4.out)
          clear HK4 HF4 HT4 HZ4
          unfold setPd kidV at E5 T5 G5 K5
          dsimp only at E5 T5 G5 K5
          go_wp2
          exact bodyPost_ret (ret_pd (p := 4) rfl _ _ w.heap.size ⟨xo, xc, xm, ⟨xn, xi, xt⟩, xk, xp⟩ ⟨sA, sn, sc⟩ rfl E5.out) rfl ⟨⟨.mk ⟨xo, xc, xm, ⟨xn, xi, xt⟩, xk, xp⟩ xks, _, rfl, ⟨⟨sA, sn, sc⟩, rfl, K5.out, HB.out⟩, by rw [A41.out]; exact T5.out, fun b r e => HA.out b r (by rw [← A41.out]; exact e)⟩, G5.out⟩
        · have A31 := Lib.hid (C3.out (by first | rfl | trivial) (by first | rfl | trivial) (by first | rfl | trivial))
          clear C3 C4 AK HP HSg
          go_wp2_with fail
          refine TK.out.mono ?_
          rintro e w3 ⟨⟨tv, rfl⟩, hT, hF⟩
          have HT3 := Lib.hid hT
          have HF3 := Lib.hid (HF0.out.trans hF)
          have HZ3 := Lib.hid (HZ0.out.fr hF (fun e => by have : w.heap.size = g := e; have := HL.out; omega))
          clear hT hF TK HT0 HF0 HZ0
          obtain ⟨f0, f1, f2, f3, f4, f5, f6, f7, f8⟩ := pdB_frozen HZ3.out
          obtain ⟨r0, r1, r2, r3, r4, r5, r6, r7, r8⟩ := pdB_cells HZ3.out
          dsimp only [noKv, zCl] at r0 r1 r2 r3 r4 r5 r6 r7 r8
          have E5 := Lib.hid (setPd_B HZ3.out ⟨1, [], 0, zCl, 0, []⟩ noKv)
          have T5 := Lib.hid (HT3.out.fresh (setPd_fr w3 w.heap.size ⟨1, [], 0, zCl, 0, []⟩ noKv) (fun k e => by have : k = w.heap.size := e; have := HL.out; omega))
          have G5 := Lib.hid (setPd_end HF3.out ⟨1, [], 0, zCl, 0, []⟩ noKv)
          clear HF3 HT3 HZ3
          unfold setPd kidV noKv zCl at E5 T5 G5
          dsimp only at E5 T5 G5
          go_wp2
          exact bodyPost_ret (ret_pd (p := 4) rfl _ _ w.heap.size ⟨1, [], 0, zCl, 0, []⟩ noKv rfl E5.out) rfl ⟨⟨.mk ⟨1, [], 0, zCl, 0, []⟩ [], _, rfl, ⟨noKv, rfl, KdS.nil_ _ _, i64b_0⟩, by rw [A31.out]; exact T5.out, fun b r e => by rw [A31.out] at e; cases e; rfl⟩, G5.out⟩
      · have A21 := Lib.hid (C2.out (by first | rfl | trivial) (by first | rfl | trivial))
        clear C2 C3 C4 I3 AK HSg
        go_wp2_with fail
        refine TK.out.mono ?_
        rintro e w2 ⟨⟨tv, rfl⟩, hT, hF⟩
        have HT2 := Lib.hid hT
        have HF2 := Lib.hid (HF0.out.trans hF)
        have HZ2 := Lib.hid (HZ0.out.fr hF (fun e => by have : w.heap.size = g := e; have := HL.out; omega))
        have HS2 : Hid (w.heap.size + 1 ≤ w2.heap.size) := Lib.hid (by have := hF.size; have := HS0.out; omega)
        clear hT hF TK HT0 HF0 HZ0
        have PC := Lib.hid (HP.out w2 _ HT2.out)
        have HON : Hid (onS (.ok (tlK l)) (predK n) = predK n (tlK l)) := Lib.hid rfl
        rw [HON.out] at PC
        clear HON
        generalize predK n (tlK l) = y at *
        go_wp2_with fail
        refine PC.out.mono ?_
        rintro e w3 ⟨⟨p, v, rfl, ⟨s, rfl, hk, hb⟩, hT, hA⟩, hF⟩
        have HT3 := Lib.hid hT
        have HF3 := Lib.hid (HF2.out.trans hF)
        have HZ3 := Lib.hid (HZ2.out.fr hF (fun e => by have : w.heap.size = g := e; have := HL.out; omega))
        have HK3 : Hid (KdS (fun b => w.heap.size + 1 ≤ b) w3 s p.kids) := Lib.hid (hk.imp fun b hb _ => by have := HS2.out; omega)
        have HS3 : Hid (w.heap.size + 1 ≤ w3.heap.size) := Lib.hid (Nat.le_trans HS2.out hF.size)
        have HB := Lib.hid hb
        have HA : Hid (dropV X = onM (dropV y) (mustK 4 [41]) ∧ ∀ b r, X = .ok (b, r) → p = b) := Lib.hid (by
          rw [A21.out]
          cases y with
          | error z => exact ⟨rfl, fun b r e => by cases e⟩
          | ok y =>
            obtain ⟨y1, y2⟩ := y
            obtain rfl := hA y1 y2 rfl
            unfold onM dropV
            dsimp only
            cases mustK 4 [41] y2 with
            | error z => exact ⟨rfl, fun b r e => by cases e⟩
            | ok r2 => exact ⟨rfl, fun b r e => by cases e; rfl⟩)
        clear hT hF hA hk hb PC HT2 HF2 HZ2 A21
        obtain ⟨⟨xo, xc, xm, ⟨xn, xi, xt⟩, xk, xp⟩, xks⟩ := p
        obtain ⟨sA, sn, sc⟩ := s
        unfold pdV pdC kidV
        dsimp only [Pd.hd, Pd.kids] at *
        have FA : Fr Non w3 (w3.alloc (.cells #[.int .i64 xo, .string ⟨xc.toArray⟩, .int .i64 xm, .bool xn, .int .i64 xi, .string ⟨xt.toArray⟩, .int .i64 xk, .string ⟨xp.toArray⟩, .slice sA sn sc] 28)) := (Fr.refl Non w3).alloc _
        have HV3 : Hid (PdB (w3.alloc (.cells #[.int .i64 xo, .string ⟨xc.toArray⟩, .int .i64 xm, .bool xn, .int .i64 xi, .string ⟨xt.toArray⟩, .int .i64 xk, .string ⟨xp.toArray⟩, .slice sA sn sc] 28)) w3.heap.size ⟨xo, xc, xm, ⟨xn, xi, xt⟩, xk, xp⟩ ⟨sA, sn, sc⟩) := Lib.hid (pd_new w3 _ ⟨xo, xc, xm, ⟨xn, xi, xt⟩, xk, xp⟩ ⟨sA, sn, sc⟩ rfl)
        have ND := Lib.hid (xmust_any B g 4 [41] _ _ (HT3.out.non FA))
        have HFA := Lib.hid FA
        clear FA HT3
        go_wp2_with fail
        refine ND.out.mono ?_
        rintro e w4 ⟨rfl, hT, hF⟩
        have HT4 := Lib.hid hT
        have HF4 := Lib.hid ((HF3.out.trans HFA.out.any).trans hF)
        have HZ4 := Lib.hid ((HZ3.out.fr HFA.out (fun e => e)).fr hF (fun e => by have : w.heap.size = g := e; have := HL.out; omega))
        have HV4 := Lib.hid (HV3.out.fr hF (fun e => by have : w3.heap.size = g := e; have := HL.out; have := HS3.out; omega))
        have HK4 := Lib.hid ((HK3.out.non HFA.out).fr hF (fun b hb _ e => by have : b = g := e; have := HL.out; omega))
        clear hT hF ND HFA HF3 HZ3 HV3 HK3
        obtain ⟨f0, f1, f2, f3, f4, f5, f6, f7, f8⟩ := pdB_frozen HZ4.out
        obtain ⟨r0, r1, r2, r3, r4, r5, r6, r7, r8⟩ := pdB_cells HZ4.out
        obtain ⟨p0, p1, p2, p3, p4, p5, p6, p7, p8⟩ := pdB_cells HV4.out
        dsimp only [noKv, zCl] at r0 r1 r2 r3 r4 r5 r6 r7 r8 p0 p1 p2 p3 p4 p5 p6 p7 p8
        have E5 := Lib.hid (setPd_B HZ4.out ⟨xo, xc, xm, ⟨xn, xi, xt⟩, xk, xp⟩ ⟨sA, sn, sc⟩)
        have T5 := Lib.hid (HT4.out.fresh (setPd_fr w4 w.heap.size ⟨xo, xc, xm, ⟨xn, xi, xt⟩, xk, xp⟩ ⟨sA, sn, sc⟩) (fun k e => by have : k = w.heap.size := e; have := HL.out; omega))
        have G5 := Lib.hid (setPd_end HF4.out ⟨xo, xc, xm, ⟨xn, xi, xt⟩, xk, xp⟩ ⟨sA, sn, sc⟩)
        have K5 := Lib.hid (kd_setT ⟨xo, xc, xm, ⟨xn, xi, xt⟩, xk, xp⟩ ⟨sA, sn, sc⟩ _ _ HK4.out)
        clear HK4 HF4 HT4 HZ4 HV4
        unfold setPd kidV at E5 T5 G5 K5
        dsimp only at E5 T5 G5 K5
        go_wp2
        exact bodyPost_ret (ret_pd (p := 4) rfl _ _ w.heap.size ⟨xo, xc, xm, ⟨xn, xi, xt⟩, xk, xp⟩ ⟨sA, sn, sc⟩ rfl E5.out) rfl ⟨⟨.mk ⟨xo, xc, xm, ⟨xn, xi, xt⟩, xk, xp⟩ xks, _, rfl, ⟨⟨sA, sn, sc⟩, rfl, K5.out, HB.out⟩, by rw [HA.out.1]; exact T5.out, HA.out.2⟩, G5.out⟩
    · have A11 := Lib.hid (C1.out (by first | rfl | trivial))
      clear C1 C2 C3 C4 I2 I3 AK HP
      go_wp2_with fail
      refine TK.out.mono ?_
      rintro e w2 ⟨⟨tv, rfl⟩, hT, hF⟩
      have HT2 := Lib.hid hT
      have HF2 := Lib.hid (HF0.out.trans hF)
      have HZ2 := Lib.hid (HZ0.out.fr hF (fun e => by have : w.heap.size = g := e; have := HL.out; omega))
      have HS2 : Hid (w.heap.size + 1 ≤ w2.heap.size) := Lib.hid (by have := hF.size; have := HS0.out; omega)
      clear hT hF TK HT0 HF0 HZ0
      have PC := Lib.hid (HSg.out w2 _ HT2.out)
      have HON : Hid (onS (.ok (tlK l)) (singleK n) = singleK n (tlK l)) := Lib.hid rfl
      rw [HON.out] at PC
      clear HON
      generalize singleK n (tlK l) = y at *
      go_wp2_with fail
      refine PC.out.mono ?_
      rintro e w3 ⟨⟨p, v, rfl, ⟨s, rfl, hk, hb⟩, hT, hA⟩, hF⟩
      have HT3 := Lib.hid hT
      have HF3 := Lib.hid (HF2.out.trans hF)
      have HZ3 := Lib.hid (HZ2.out.fr hF (fun e => by have : w.heap.size = g := e; have := HL.out; omega))
      have HS3 : w.heap.size + 1 ≤ w3.heap.size := Nat.le_trans HS2.out hF.size
      have HA : Hid (dropV X = dropV y ∧ ∀ b r, X = .ok (b, r) → Pd.mk ⟨5, [], 0, zCl, 0, []⟩ [p] = b) := Lib.hid (by
        rw [A11.out]
        cases y with
        | error z => exact ⟨rfl, fun b r e => by cases e⟩
        | ok y => obtain ⟨y1, y2⟩ := y; obtain rfl := hA y1 y2 rfl; exact ⟨rfl, fun b r e => by cases e; rfl⟩)
      have R1 := Lib.hid (PRow.lit w3 (w.heap.size + 1) w3.heap.size p s (pdC p.hd s) rfl rfl HS3 hb (hk.imp fun b hb _ => by have := HS2.out; omega))
      clear hT hF hA hk hb PC HT2 HF2 HZ2 A11 HS3
      obtain ⟨⟨xo, xc, xm, ⟨xn, xi, xt⟩, xk, xp⟩, xks⟩ := p
      obtain ⟨sA, sn, sc⟩ := s
      unfold pdV pdC kidV
      unfold pdC kidV at R1
      dsimp only [Pd.hd, Pd.kids] at *
      have FA : Fr Non w3 (w3.alloc (.cells #[.int .i64 xo, .string ⟨xc.toArray⟩, .int .i64 xm, .bool xn, .int .i64 xi, .string ⟨xt.toArray⟩, .int .i64 xk, .string ⟨xp.toArray⟩, .slice sA sn sc] 28)) := (Fr.refl Non w3).alloc _
      have HT4 := Lib.hid (HT3.out.non FA)
      have HF4 := Lib.hid (HF3.out.trans FA.any)
      have HZ4 := Lib.hid (HZ3.out.fr FA (fun e => e))
      clear FA HT3 HF3 HZ3
      have K4 := Lib.hid R1.out.kds
      clear R1
      obtain ⟨f0, f1, f2, f3, f4, f5, f6, f7, f8⟩ := pdB_frozen HZ4.out
      obtain ⟨r0, r1, r2, r3, r4, r5, r6, r7, r8⟩ := pdB_cells HZ4.out
      dsimp only [noKv, zCl] at r0 r1 r2 r3 r4 r5 r6 r7 r8
      generalize hW : w3.alloc (.cells #[.int .i64 xo, .string ⟨xc.toArray⟩, .int .i64 xm, .bool xn, .int .i64 xi, .string ⟨xt.toArray⟩, .int .i64 xk, .string ⟨xp.toArray⟩, .slice sA sn sc] 28) = W4 at *
      have E5 := Lib.hid (setPd_B HZ4.out ⟨5, [], 0, zCl, 0, []⟩ ⟨some ⟨w3.heap.size, 0, none⟩, 1, 1⟩)
      have T5 := Lib.hid (HT4.out.fresh (setPd_fr W4 w.heap.size ⟨5, [], 0, zCl, 0, []⟩ ⟨some ⟨w3.heap.size, 0, none⟩, 1, 1⟩) (fun k e => by have : k = w.heap.size := e; have := HL.out; omega))
      have G5 := Lib.hid (setPd_end HF4.out ⟨5, [], 0, zCl, 0, []⟩ ⟨some ⟨w3.heap.size, 0, none⟩, 1, 1⟩)
      have K5 := Lib.hid (kd_setT ⟨5, [], 0, zCl, 0, []⟩ ⟨some ⟨w3.heap.size, 0, none⟩, 1, 1⟩ _ _ K4.out)
      clear K4 HF4 HT4 HZ4
      unfold setPd kidV zCl at E5 T5 G5 K5
      dsimp only at E5 T5 G5 K5
      subst hW
      go_wp2
      exact bodyPost_ret (ret_pd (p := 4) rfl _ _ w.heap.size ⟨5, [], 0, zCl, 0, []⟩ ⟨some ⟨w3.heap.size, 0, none⟩, 1, 1⟩ rfl E5.out) rfl ⟨⟨.mk ⟨5, [], 0, zCl, 0, []⟩ [.mk ⟨xo, xc, xm, ⟨xn, xi, xt⟩, xk, xp⟩ xks], _, rfl, ⟨⟨some ⟨w3.heap.size, 0, none⟩, 1, 1⟩, rfl, K5.out, i64b_0⟩, by rw [HA.out.1]; exact T5.out, HA.out.2⟩, G5.out⟩
theorem tsingle_any (B g : Nat) : ∀ n : Nat, n ≤ 6 → StepT B g (7 - (n : Int)) 84 (singleK n)
  | 0, _ => tsingle_0 B g
  | n + 1, h => by
    have hs := tsingle_any B g n (by omega)
    have hp := tpred_of B g _ (bothK n) _ (reads_both n) (tboth_of B g _ (singleK n) _ (reads_single n) hs)
    have e : (7 : Int) - ((n + 1 : Nat) : Int) + 1 = 7 - (n : Int) := by omega
    exact tsingle_of B g _ (by omega) (by omega) n (by rw [e]; exact hs) (by rw [e]; exact hp)
/-- a predicate, from the outermost -/
theorem tpred_any (B g : Nat) : StepT B g 1 27 (predK 6) := tpred_of B g 1 (bothK 6) _ (reads_both 6) (tboth_of B g 1 (singleK 6) _ (reads_single 6) (tsingle_any B g 6 (Nat.le_refl _)))
end Go.Proofs.YtipgaafgnefmdaaGreatDoor


namespace Go.Proofs.YtipgaafgnefmdaaGreatDoor
set_option linter.unusedVariables false
set_option linter.unusedSimpArgs false
set_option maxRecDepth 100000
open Go.RowKit

/-- of the old blocks only these two may have changed -/
def ReQ (g q : Nat) : Nat → Prop := fun k => k = g ∨ k = q
theorem Fr.two {g q : Nat} {w w' : World} (h : Fr (One g) w w') : Fr (ReQ g q) w w' := h.mono fun k _ e => .inl e
end Go.Proofs.YtipgaafgnefmdaaGreatDoor


namespace Go.Proofs.YtipgaafgnefmdaaGreatDoor
set_option linter.unusedVariables false
set_option linter.unusedSimpArgs false
set_option maxRecDepth 100000
open Go.RowKit

/-- the text that a text begins with, told -/
def QtE (x : Option (List UInt8 × Nat)) (e : Ending) : Prop := match x with
  | none => e = .returned (.tuple #[.string ⟨([] : List UInt8).toArray⟩, .int .i64 0])
  | some (t, n) => e = .returned (.tuple #[.string ⟨t.toArray⟩, .int .i64 ((n : Int) + 1)])
/-- so far -/
def QtI (r : List UInt8) (l : List UInt8) (i : Nat) (D : List UInt8) : Prop := qtB r = (qtB (l.drop i)).map fun x => (D ++ x.1, x.2 + (i - 1))
theorem qt_skip {c : UInt8} {r : List UInt8} (h : c ≠ 39) : qtB (c :: r) = (qtB r).map fun x => (c :: x.1, x.2 + 1) := by
  cases r with
  | nil =>
    show (if c = 39 then some ([], 1) else none) = none
    rw [if_neg h]
  | cons d r => rw [qtB, if_neg h]
theorem qti_more {r l D : List UInt8} {i : Nat} {c : UInt8} (h : QtI r l i D) (h1 : 1 ≤ i) (hc : l[i]? = some c) (hq : c ≠ 39) : QtI r l (i + 1) (D ++ [c]) := by
  obtain ⟨hi, rfl⟩ := List.getElem?_eq_some_iff.1 hc
  unfold QtI at h ⊢
  rw [h, List.drop_eq_getElem_cons hi, qt_skip hq]
  cases qtB (l.drop (i + 1)) <;> simp; omega
theorem qti_two {r l D : List UInt8} {i : Nat} (h : QtI r l i D) (h1 : 1 ≤ i) (hc : l[i]? = some 39) (hd : l[i + 1]? = some 39) : QtI r l (i + 2) (D ++ [39]) := by
  obtain ⟨hi, hc⟩ := List.getElem?_eq_some_iff.1 hc
  obtain ⟨hi2, hd⟩ := List.getElem?_eq_some_iff.1 hd
  unfold QtI at h ⊢
  rw [h, List.drop_eq_getElem_cons hi, List.drop_eq_getElem_cons hi2, hc, hd, qtB, if_pos rfl, if_pos rfl]
  cases qtB (l.drop (i + 1 + 1)) <;> simp; omega
theorem qti_end {r l D : List UInt8} {i : Nat} (h : QtI r l i D) (h1 : 1 ≤ i) (hc : l[i]? = some 39) (hd : l[i + 1]? ≠ some 39) : qtB r = some (D, i) := by
  obtain ⟨hi, hc⟩ := List.getElem?_eq_some_iff.1 hc
  unfold QtI at h
  have e : qtB (l.drop i) = some ([], 1) := by
    rw [List.drop_eq_getElem_cons hi, hc]
    by_cases hi2 : i + 1 < l.length
    · rw [List.drop_eq_getElem_cons hi2, qtB, if_pos rfl, if_neg (fun e => hd (by rw [List.getElem?_eq_getElem hi2, e]))]
    · rw [List.drop_eq_nil_of_le (by omega)]; rfl
  rw [h, e]
  simp; omega
theorem qti_none {r l D : List UInt8} {i : Nat} (h : QtI r l i D) (hi : ¬ i < l.length) : qtB r = none := by
  unfold QtI at h
  rw [h, List.drop_eq_nil_of_le (by omega)]; rfl

set_option maxHeartbeats 1000000 in
theorem rquoted_any (l : List UInt8) (w : World) (h1 : 1 ≤ l.length) (hl : l.length ≤ 100000000) : Calls Tryz.prog 82 #[.string ⟨l.toArray⟩] w fun e w' => QtE (qtB (l.drop 1)) e ∧ Fr Non w w' := by
  have hz : Hid (QtI (l.drop 1) l 1 []) := Lib.hid (by unfold QtI; cases qtB (l.drop 1) <;> simp)
  generalize l.drop 1 = r at *
  go_enter Tryz.func82, Tryz.ntmps82
  go_wp2
  go_loopw [4, 5] (fun v b wr => ∃ (i : Nat) (D : List UInt8), b = .int .i64 (i : Int) ∧ 1 ≤ i ∧ i ≤ l.length ∧ D.length ≤ i ∧ Ow bv 5 wr w.heap.size v D ∧ Fr Non w wr ∧ Hid (QtI r l i D)) (fun _ b _ => l.length - (intOf b).toNat)
  case atStart => exact ⟨1, [], rfl, by omega, h1, by simp, ow_lit0 w w.heap.size w.heap.size rfl (Nat.le_refl _), (Fr.refl _ _).alloc _, hz⟩
  case round =>
    obtain ⟨i, D, rfl, hi1, hi, hD, hO, hF, hn⟩ := hrel
    have hsz := hF.size
    by_cases hlt : i < l.length
    · obtain ⟨c, r', _, hc, _⟩ := drop_is hlt
      have hg := byteW hc
      by_cases hq : c = 39
      · subst hq
        by_cases hlt2 : i + 1 < l.length
        · have hb1 : decide ((l.length : Int) ≤ (i : Int) + 1) = false := by simp; omega
          obtain ⟨d, r2, _, hd, _⟩ := drop_is hlt2
          have hg2 := byteW hd
          by_cases hq2 : d = 39
          · subst hq2
            have HM := Lib.hid (qti_two hn.out hi1 hc hd)
            have HO := Lib.hid hO
            have HF := Lib.hid hF
            clear hO hF hn hc hd
            go_wp2_with (at_builtin; refine wpList_pushG el_u8 (fun _ => rfl) rfl (.tmp 39) (.tmp 40) rfl w.heap.size _ D rfl HO.out _ (39 : UInt8) rfl rfl (by omega) (by omega) ?_; intro v5 w5 hO5 f5)
            have hF5 := HF.out.fresh f5 (fun q hq => by have := (HO.out.lt q hq).1; omega)
            go_roundw
            case rel => exact ⟨i + 2, D ++ [39], by push_cast; rfl, by omega, by omega, by rw [List.length_append]; simp; omega, hO5, hF5, HM⟩
            case measure => simp [intOf]; omega
          · have hqb : ((d.toNat : Int) == 39) = false := by rw [beq_eq_false_iff_ne]; intro e; exact hq2 ((byt_is d 39 (by omega)).2 (by omega))
            have HE := Lib.hid (qti_end hn.out hi1 hc (by rw [hd]; simpa using hq2))
            have cv := run_conv_Bs (Own.bs hO) 116 9 5 Tryz.underlying116 Tryz.underlying5 Tryz.underlying9
            have HF := Lib.hid hF
            clear hO hF hn hc hd
            go_wp2
            go_ret2
            exact ⟨by rw [HE.out]; rfl, HF.out⟩
        · have hb1 : decide ((l.length : Int) ≤ (i : Int) + 1) = true := by simp; omega
          have HE := Lib.hid (qti_end hn.out hi1 hc (by rw [List.getElem?_eq_none (by omega)]; simp))
          have cv := run_conv_Bs (Own.bs hO) 116 9 5 Tryz.underlying116 Tryz.underlying5 Tryz.underlying9
          have HF := Lib.hid hF
          clear hO hF hn hc
          go_wp2
          go_ret2
          exact ⟨by rw [HE.out]; rfl, HF.out⟩
      · have hqb : ((c.toNat : Int) == 39) = false := by rw [beq_eq_false_iff_ne]; intro e; exact hq ((byt_is c 39 (by omega)).2 (by omega))
        have HM := Lib.hid (qti_more hn.out hi1 hc hq)
        have HO := Lib.hid hO
        have HF := Lib.hid hF
        clear hO hF hn hc
        go_wp2_with (at_builtin; refine wpList_pushG el_u8 (fun _ => rfl) rfl (.tmp 15) (.tmp 19) rfl w.heap.size _ D rfl HO.out _ c rfl rfl (by omega) (by omega) ?_; intro v5 w5 hO5 f5)
        have hF5 := HF.out.fresh f5 (fun q hq => by have := (HO.out.lt q hq).1; omega)
        go_roundw
        case rel => exact ⟨i + 1, D ++ [c], by push_cast; rfl, by omega, by omega, by rw [List.length_append]; simp; omega, hO5, hF5, HM⟩
        case measure => simp [intOf]; omega
    · have HE := Lib.hid (qti_none hn.out hlt)
      have HF := Lib.hid hF
      clear hO hF hn
      go_wp2
      go_ret2
      exact ⟨by rw [HE.out]; rfl, HF.out⟩

/-! ### Marks -/
/-- of how many bytes the mark is -/
def mkR (l : List UInt8) : Nat := match mkT l with
  | none => 0
  | some t => t.length
def twosL : List (List UInt8) := [[60, 62], [60, 61], [62, 61]]
def onesL : List UInt8 := [44, 40, 41, 42, 61, 60, 62]
theorem mk_two {l t : List UInt8} (ht : t ∈ twosL) (h : t.isPrefixOf l = true) : mkR l = 2 := by
  cases l with
  | nil => simp only [twosL, List.mem_cons, List.mem_nil_iff, or_false] at ht; rcases ht with rfl | rfl | rfl <;> simp [List.isPrefixOf] at h
  | cons c l =>
    cases l with
    | nil => simp only [twosL, List.mem_cons, List.mem_nil_iff, or_false] at ht; rcases ht with rfl | rfl | rfl <;> simp [List.isPrefixOf] at h
    | cons d l =>
      simp only [twosL, List.mem_cons, List.mem_nil_iff, or_false] at ht
      rcases ht with rfl | rfl | rfl
      all_goals
        simp [List.isPrefixOf] at h
        obtain ⟨rfl, rfl⟩ := h
        simp [mkR, mkT, marksL, List.isPrefixOf]
theorem mk_one {c : UInt8} {l : List UInt8} (h2 : ∀ t ∈ twosL, t.isPrefixOf (c :: l) = false) (h : c ∈ onesL) : mkR (c :: l) = 1 := by
  have h20 := h2 [60, 62] (by simp [twosL])
  have h21 := h2 [60, 61] (by simp [twosL])
  have h22 := h2 [62, 61] (by simp [twosL])
  simp only [onesL, List.mem_cons, List.mem_nil_iff, or_false] at h
  unfold mkR mkT marksL
  simp only [List.find?_cons, h20, h21, h22]
  rcases h with rfl | rfl | rfl | rfl | rfl | rfl | rfl <;> simp [List.isPrefixOf]
theorem mkR_zero {c : UInt8} {l : List UInt8} (h2 : ∀ t ∈ twosL, t.isPrefixOf (c :: l) = false) (h : c ∉ onesL) : mkR (c :: l) = 0 := by
  have h20 := h2 [60, 62] (by simp [twosL])
  have h21 := h2 [60, 61] (by simp [twosL])
  have h22 := h2 [62, 61] (by simp [twosL])
  simp only [onesL, List.mem_cons, List.mem_nil_iff, or_false, not_or] at h
  obtain ⟨n1, n2, n3, n4, n5, n6, n7⟩ := h
  have f : ∀ (m : UInt8), c ≠ m → List.isPrefixOf [m] (c :: l) = false := fun m e => by simp [List.isPrefixOf]; exact fun x => e x.symm
  unfold mkR mkT marksL
  simp only [List.find?_cons, h20, h21, h22, f _ n1, f _ n2, f _ n3, f _ n4, f _ n5, f _ n6, f _ n7, List.find?_nil]
theorem pre_two (l : List UInt8) (a b : UInt8) : List.isPrefixOf [a, b] l = (decide (2 ≤ l.length) && (l.take 2 == [a, b])) := by
  cases l with
  | nil => rfl
  | cons c l =>
    cases l with
    | nil => simp [List.isPrefixOf]
    | cons d l =>
      rw [Bool.eq_iff_iff]
      simp [List.isPrefixOf]
      constructor <;> (rintro ⟨h1, h2⟩; exact ⟨h1.symm, h2.symm⟩)

set_option maxHeartbeats 4000000 in
theorem rmark_any (l : List UInt8) (w : World) (h1 : 1 ≤ l.length) (hl : l.length ≤ 100000000) : Calls Tryz.prog 83 #[.string ⟨l.toArray⟩] w fun e w' => e = .returned (.int .i64 (mkR l : Nat)) ∧ Fr Non w w' := by
  obtain ⟨c, r, hcr, hc, _⟩ := drop_is (l := l) (k := 0) (by omega)
  rw [List.drop_zero] at hcr
  have hg0 := byteW hc
  have HT := Lib.hid (fun (t : List UInt8) (ht : t ∈ twosL) => mk_two (l := l) ht)
  have HO := Lib.hid (hcr ▸ mk_one (c := c) (l := r) : (∀ t ∈ twosL, t.isPrefixOf l = false) → c ∈ onesL → mkR l = 1)
  have HZ := Lib.hid (hcr ▸ mkR_zero (c := c) (l := r) : (∀ t ∈ twosL, t.isPrefixOf l = false) → c ∉ onesL → mkR l = 0)
  have hx := ext_to l 2
  clear hcr hc
  go_enter Tryz.func83, Tryz.ntmps83
  go_wp2
  have B0 := Blk.new w 9 #[.string ⟨#[60, 62]⟩, .string ⟨#[60, 61]⟩, .string ⟨#[62, 61]⟩]
  go_loopw [4] (fun b wr => ∃ (i : Nat), b = .int .i64 (i : Int) ∧ i ≤ 3 ∧ Fr Non (w.alloc (.cells #[.string ⟨#[60, 62]⟩, .string ⟨#[60, 61]⟩, .string ⟨#[62, 61]⟩] 9)) wr ∧ Hid (∀ t ∈ twosL.take i, t.isPrefixOf l = false)) (fun b _ => 3 - (intOf b).toNat)
  case atStart => exact ⟨0, rfl, by omega, Fr.refl _ _, Lib.hid (by simp)⟩
  case round =>
    obtain ⟨i, rfl, hi, hF, hn⟩ := hrel
    by_cases h3 : i = 3
    · subst h3
      have HN : Hid (∀ t ∈ twosL, t.isPrefixOf l = false) := hn
      have HF := Lib.hid (((Fr.refl Non w).alloc _).then hF)
      clear hn hF B0 hi
      go_wp2
      go_loopw [6] (fun b wq => ∃ (i : Nat), b = .int .i64 (i : Int) ∧ i ≤ 7 ∧ Fr Non w wq ∧ Hid (∀ o ∈ onesL.take i, c ≠ o)) (fun b _ => 7 - (intOf b).toNat)
      case atStart => exact ⟨0, rfl, by omega, HF.out, Lib.hid (by simp)⟩
      case round =>
        obtain ⟨i, rfl, hi, hF, hn⟩ := hrel
        by_cases h7 : i = 7
        · subst h7
          have HE := Lib.hid (HZ.out HN.out (fun h => hn.out c h rfl))
          have HF2 := Lib.hid hF
          clear hF hn
          go_wp2
          go_ret
          exact ⟨by rw [HE.out]; rfl, HF2.out⟩
        · obtain ⟨o, ho⟩ : ∃ o, onesL[i]? = some o := ⟨onesL[i]'(by show i < 7; omega), List.getElem?_eq_getElem _⟩
          have hone : ∀ h : i < ByteArray.size ⟨#[44, 40, 41, 42, 61, 60, 62]⟩, (⟨#[44, 40, 41, 42, 61, 60, 62]⟩ : ByteArray)[i] = o := byteW (l := onesL) ho
          have hi7 : decide ((i : Int) < 7) = true := by simp; omega
          have hi8 : i < ByteArray.size ⟨#[44, 40, 41, 42, 61, 60, 62]⟩ := by show i < 7; omega
          by_cases hco : c = o
          · have HE := Lib.hid (HO.out HN.out (by rw [hco]; exact List.mem_of_getElem? ho))
            have hcb : ((c.toNat : Int) == (o.toNat : Int)) = true := by rw [hco]; simp
            have HF2 := Lib.hid hF
            clear hF hn hco ho
            go_wp2_with fail
            go_quiet (fail)
            go_wp2
            go_ret
            exact ⟨by rw [HE.out]; rfl, HF2.out.drewN _⟩
          · have HM : Hid (∀ o ∈ onesL.take (i + 1), c ≠ o) := Lib.hid (by
              intro x hx
              rw [List.take_add_one, ho] at hx
              rcases List.mem_append.1 hx with hx | hx
              · exact hn.out x hx
              · obtain rfl : x = o := by simpa using hx
                exact hco)
            have hcb : ((c.toNat : Int) == (o.toNat : Int)) = false := by rw [beq_eq_false_iff_ne]; intro e; exact hco (UInt8.toNat.inj (by omega))
            have HF2 := Lib.hid hF
            clear hF hn hco ho
            go_wp2_with fail
            go_quiet (fail)
            go_wp2
            go_roundw
            case rel => exact ⟨i + 1, by push_cast; rfl, by omega, HF2.out.drewN _, HM⟩
            case measure => simp [intOf]; omega
    · obtain ⟨t, ht⟩ : ∃ t, twosL[i]? = some t := ⟨twosL[i]'(by show i < 3; omega), List.getElem?_eq_getElem _⟩
      have B1 := B0.fr hF (fun e => e)
      have d0 := B1.cell 0
      have d1 := B1.cell 1
      have d2 := B1.cell 2
      simp at d0 d1 d2
      have HF := Lib.hid hF
      have HF0 := Lib.hid (((Fr.refl Non w).alloc _).then hF)
      clear B1 hF
      by_cases h2 : 2 ≤ l.length
      · have hb2 : decide ((2 : Int) ≤ (l.length : Int)) = true := by simp; omega
        cases hp : t.isPrefixOf l with
        | true =>
          have HE := Lib.hid (HT.out t (List.mem_of_getElem? ht) hp)
          clear hn
          rcases (by omega : i = 0 ∨ i = 1 ∨ i = 2) with rfl | rfl | rfl
          all_goals
            simp only [twosL, List.getElem?_cons_succ, List.getElem?_cons_zero, Option.some.injEq] at ht
            subst ht
            rw [pre_two] at hp
            simp only [h2, decide_true, Bool.true_and] at hp
            go_wp2_with fail
            go_quiet (fail)
            go_wp2
            go_ret
            exact ⟨by rw [HE.out]; rfl, HF0.out.drewN _⟩
        | false =>
          have HM : Hid (∀ t ∈ twosL.take (i + 1), t.isPrefixOf l = false) := Lib.hid (by
            intro x hx
            rw [List.take_add_one, ht] at hx
            rcases List.mem_append.1 hx with hx | hx
            · exact hn.out x hx
            · obtain rfl : x = t := by simpa using hx
              exact hp)
          clear hn
          rcases (by omega : i = 0 ∨ i = 1 ∨ i = 2) with rfl | rfl | rfl
          all_goals
            simp only [twosL, List.getElem?_cons_succ, List.getElem?_cons_zero, Option.some.injEq] at ht
            subst ht
            rw [pre_two] at hp
            simp only [h2, decide_true, Bool.true_and] at hp
            go_wp2_with fail
            go_quiet (fail)
            go_wp2
            go_roundw
            case rel => refine ⟨_, ?_, ?_, HF.out.drewN _, HM⟩ <;> first | trivial | rfl | omega
            case measure => simp [intOf]
      · have hb2 : decide ((2 : Int) ≤ (l.length : Int)) = false := by simp; omega
        have HM : Hid (∀ t ∈ twosL.take (i + 1), t.isPrefixOf l = false) := Lib.hid (by
          intro x hx
          have hm := List.mem_of_mem_take hx
          simp only [twosL, List.mem_cons, List.mem_nil_iff, or_false] at hm
          rcases hm with rfl | rfl | rfl <;> (rw [pre_two]; simp [h2]))
        clear h2 hn
        rcases (by omega : i = 0 ∨ i = 1 ∨ i = 2) with rfl | rfl | rfl
        all_goals
          go_wp2_with fail
          go_quiet (fail)
          go_wp2
          go_roundw
          case rel => refine ⟨_, ?_, ?_, HF.out.drewN _, HM⟩ <;> first | trivial | rfl | omega
          case measure => simp [intOf]
end Go.Proofs.YtipgaafgnefmdaaGreatDoor


namespace Go.Proofs.YtipgaafgnefmdaaGreatDoor
set_option linter.unusedVariables false
set_option linter.unusedSimpArgs false
set_option maxRecDepth 100000
open Go.RowKit

theorem tkB_mark {l t : List UInt8} (h : mkT l = some t) : mkR l = t.length ∧ l.take t.length = t := by
  refine ⟨by unfold mkR; rw [h], ?_⟩
  have := (mkT_pre h).1
  rw [List.isPrefixOf_iff_prefix] at this
  exact (List.prefix_iff_eq_take.1 this).symm
theorem spi_more {p : UInt8 → Bool} {l : List UInt8} {n : Nat} {c : UInt8} (h : spanN p l = n + spanN p (l.drop n)) (hc : l[n]? = some c) (hp : p c = true) : spanN p l = n + 1 + spanN p (l.drop (n + 1)) := by
  obtain ⟨hi, rfl⟩ := List.getElem?_eq_some_iff.1 hc
  rw [List.drop_eq_getElem_cons hi, span_yes hp] at h
  omega
theorem spi_stop {p : UInt8 → Bool} {l : List UInt8} {n : Nat} {c : UInt8} (h : spanN p l = n + spanN p (l.drop n)) (hc : l[n]? = some c) (hp : p c = false) : spanN p l = n := by
  obtain ⟨hi, rfl⟩ := List.getElem?_eq_some_iff.1 hc
  rw [List.drop_eq_getElem_cons hi, span_no hp] at h
  omega
/-- so far, of a number's digits -/
def DgI (l : List UInt8) (n : Nat) : Prop := spanN digB (l.drop 1) + 1 = n + spanN digB (l.drop n)
theorem dgi_more {l : List UInt8} {n : Nat} {c : UInt8} (h : DgI l n) (hc : l[n]? = some c) (hp : digB c = true) : DgI l (n + 1) := by
  obtain ⟨hi, rfl⟩ := List.getElem?_eq_some_iff.1 hc
  unfold DgI at h ⊢
  rw [List.drop_eq_getElem_cons hi, span_yes hp] at h
  omega
theorem dgi_stop {l : List UInt8} {n : Nat} {c : UInt8} (h : DgI l n) (hc : l[n]? = some c) (hp : digB c = false) : 1 + spanN digB (l.drop 1) = n := by
  obtain ⟨hi, rfl⟩ := List.getElem?_eq_some_iff.1 hc
  unfold DgI at h
  rw [List.drop_eq_getElem_cons hi, span_no hp] at h
  omega
theorem dgi_end {l : List UInt8} {n : Nat} (h : DgI l n) (hn : ¬ n < l.length) : 1 + spanN digB (l.drop 1) = n := by
  unfold DgI at h
  have e : l.drop n = [] := List.drop_eq_nil_of_le (by omega)
  rw [e] at h
  have e0 : spanN digB ([] : List UInt8) = 0 := rfl
  omega
theorem spi_end {p : UInt8 → Bool} {l : List UInt8} {n : Nat} (h : spanN p l = n + spanN p (l.drop n)) (hn : ¬ n < l.length) : spanN p l = n := by
  rw [List.drop_eq_nil_of_le (by omega)] at h
  simpa [spanN] using h
/-- the first word, by its first byte -/
theorem one_let {l : List UInt8} {c : UInt8} (hc : l[0]? = some c) (h : letB c = true) {n : Nat} (hn : spanN innB l = n) : oneB l = some (⟨1, l.take n, 0, 0⟩, n) := by
  cases l with
  | nil => simp at hc
  | cons d r =>
    obtain rfl : d = c := by simpa using hc
    subst hn
    simp only [oneB, if_pos h]
theorem one_num {l : List UInt8} {c : UInt8} (hc : l[0]? = some c) (h : letB c = false) (h2 : (digB c || decide (c = 45)) = true) {n : Nat} (hn : 1 + spanN digB (l.drop 1) = n) : oneB l = (valB (l.take n)).map fun v => (⟨2, [], v, 0⟩, n) := by
  cases l with
  | nil => simp at hc
  | cons d r =>
    obtain rfl : d = c := by simpa using hc
    subst hn
    have h' : ¬ (letB d = true) := by rw [h]; simp
    simp only [oneB, if_neg h', if_pos h2]
    rfl
theorem one_txt {l : List UInt8} {c : UInt8} (hc : l[0]? = some c) (h : c = 39) : oneB l = (qtB (l.drop 1)).map fun x => (⟨3, x.1, 0, 0⟩, x.2 + 1) := by
  cases l with
  | nil => simp at hc
  | cons d r =>
    obtain rfl : d = c := by simpa using hc
    subst h
    rfl
theorem one_mrk {l : List UInt8} {c : UInt8} (hc : l[0]? = some c) (h : letB c = false) (h2 : ¬ (digB c || decide (c = 45)) = true) (h3 : c ≠ 39) : oneB l = (mkT l).map fun t => (⟨4, t, 0, 0⟩, t.length) := by
  cases l with
  | nil => simp at hc
  | cons d r =>
    obtain rfl : d = c := by simpa using hc
    have h' : ¬ (letB d = true) := by rw [h]; simp
    simp only [oneB, if_neg h', if_neg h2, if_neg h3]

set_option maxHeartbeats 4000000 in
theorem rone_let (l : List UInt8) (c : UInt8) (w : World) (hc : l[0]? = some c) (hl : l.length ≤ 1000000) (hlet : letB c = true) : Calls Tryz.prog 53 #[.string ⟨l.toArray⟩] w fun e w' => TkEnd (oneB l) e ∧ Fr Non w w' := by
  have h0 : 0 < l.length := (List.getElem?_eq_some_iff.1 hc).1
  have hg0 := byteW hc
  have HL := Lib.hid (fun V => rlet_any c V)
  rw [hlet] at HL
  have HO := Lib.hid (fun n => one_let (n := n) hc hlet)
  have hz : Hid (spanN innB l = 1 + spanN innB (l.drop 1)) := Lib.hid (spi_more (n := 0) (by simp) hc (by simp [innB, hlet]))
  have hpos : decide (0 < l.length) = true := by simp; omega
  clear hlet hc
  go_enter Tryz.func53, Tryz.ntmps53
  go_wp2_with fail
  refine (HL.out _).mono ?_
  rintro e w1 ⟨rfl, rfl⟩
  clear HL
  go_wp2
  clear hg0 hpos
  have HF0 := Lib.hid (tkR_after (w := w) (Fr.refl Non _))
  go_loopw [5] (fun b wr => ∃ n : Nat, b = .int .i64 (n : Int) ∧ 1 ≤ n ∧ n ≤ l.length ∧ wr = w.alloc (.cells #[.int .i64 0, .string ⟨#[]⟩, .int .i64 0, .int .i64 0] 64) ∧ Hid (spanN innB l = n + spanN innB (l.drop n))) (fun b _ => l.length - (intOf b).toNat)
  case atStart => exact ⟨1, rfl, by omega, by omega, rfl, hz⟩
  case round =>
    obtain ⟨n, rfl, hn1, hn, rfl, hd⟩ := hrel
    obtain ⟨hB, hf⟩ := HF0.out
    obtain ⟨c0, c1, c2, c3, z0, z1, z2, z3⟩ := hB.facts
    dsimp only [noTk] at c0 c1 c2 c3
    have HB := Lib.hid hB
    have HF := Lib.hid hf
    clear hB hf
    generalize w.alloc (.cells #[.int .i64 0, .string ⟨#[]⟩, .int .i64 0, .int .i64 0] 64) = W at *
    by_cases hlt : n < l.length
    · obtain ⟨x, r, _, hx, _⟩ := drop_is hlt
      have hg := byteW hx
      have HL := Lib.hid (fun V => rlet_any x V)
      have HD := Lib.hid (fun V => rdig_any x V)
      have hltb : decide (n < l.length) = true := by simp; omega
      cases hi : innB x with
      | true =>
        have HM := Lib.hid (spi_more hd.out hx hi)
        clear hd hx
        cases h1 : letB x with
        | true =>
          rw [h1] at HL
          clear hi HD
          go_wp2_with fail
          refine (HL.out _).mono ?_
          rintro e w1 ⟨rfl, rfl⟩
          clear HL
          go_wp2
          go_roundw
          case rel => exact ⟨n + 1, by push_cast; rfl, by omega, by omega, (by first | rfl | trivial), HM⟩
          case measure => simp [intOf]; omega
        | false =>
          rw [h1] at HL
          cases h2 : digB x with
          | true =>
            rw [h2] at HD
            clear hi
            go_wp2_with fail
            refine (HL.out _).mono ?_
            rintro e w1 ⟨rfl, rfl⟩
            clear HL
            go_wp2_with fail
            refine (HD.out _).mono ?_
            rintro e w1 ⟨rfl, rfl⟩
            clear HD
            go_wp2
            go_roundw
            case rel => exact ⟨n + 1, by push_cast; rfl, by omega, by omega, (by first | rfl | trivial), HM⟩
            case measure => simp [intOf]; omega
          | false =>
            rw [h2] at HD
            have hb95 : ((x.toNat : Int) == 95) = true := by simp [innB, h1, h2] at hi; simp; omega
            clear hi
            go_wp2_with fail
            refine (HL.out _).mono ?_
            rintro e w1 ⟨rfl, rfl⟩
            clear HL
            go_wp2_with fail
            refine (HD.out _).mono ?_
            rintro e w1 ⟨rfl, rfl⟩
            clear HD
            go_wp2
            go_roundw
            case rel => exact ⟨n + 1, by push_cast; rfl, by omega, by omega, (by first | rfl | trivial), HM⟩
            case measure => simp [intOf]; omega
      | false =>
        have HE := Lib.hid (HO.out n (spi_stop hd.out hx hi))
        have hxt := ext_to l n
        have h1 : letB x = false := by simp [innB] at hi; exact hi.1.1
        have h2 : digB x = false := by simp [innB] at hi; exact hi.1.2
        have hb95 : ((x.toNat : Int) == 95) = false := by simp [innB] at hi; rw [beq_eq_false_iff_ne]; omega
        rw [h1] at HL
        rw [h2] at HD
        clear hd hx hi h1 h2
        generalize l.take n = m at *
        go_wp2_with fail
        refine (HL.out _).mono ?_
        rintro e w1 ⟨rfl, rfl⟩
        clear HL
        go_wp2_with fail
        refine (HD.out _).mono ?_
        rintro e w1 ⟨rfl, rfl⟩
        clear HD
        go_wp2
        rw [HE.out]
        exact bodyPost_ret (ret_tkR (p := 2) (u := 3) rfl _ _ w.heap.size ⟨1, m, 0, 0⟩ (.int .i64 (n : Int)) rfl rfl (setTk_R HB.out ⟨1, m, 0, 0⟩)) rfl ⟨rfl, setTk_end HF.out ⟨1, m, 0, 0⟩⟩
    · have HE := Lib.hid (HO.out n (spi_end hd.out hlt))
      have hxt := ext_to l n
      have hltb : decide (n < l.length) = false := by simp; omega
      clear hd
      generalize l.take n = m at *
      go_wp2
      rw [HE.out]
      exact bodyPost_ret (ret_tkR (p := 2) (u := 3) rfl _ _ w.heap.size ⟨1, m, 0, 0⟩ (.int .i64 (n : Int)) rfl rfl (setTk_R HB.out ⟨1, m, 0, 0⟩)) rfl ⟨rfl, setTk_end HF.out ⟨1, m, 0, 0⟩⟩

set_option maxHeartbeats 4000000 in
theorem rone_num (l : List UInt8) (c : UInt8) (w : World) (hc : l[0]? = some c) (hl : l.length ≤ 1000000) (hlet : letB c = false) (hnum : (digB c || decide (c = 45)) = true) : Calls Tryz.prog 53 #[.string ⟨l.toArray⟩] w fun e w' => TkEnd (oneB l) e ∧ Fr Non w w' := by
  have h0 : 0 < l.length := (List.getElem?_eq_some_iff.1 hc).1
  have hg0 := byteW hc
  have HL := Lib.hid (fun V => rlet_any c V)
  have HD := Lib.hid (fun V => rdig_any c V)
  rw [hlet] at HL
  have HO := Lib.hid (fun n => one_num (n := n) hc hlet hnum)
  have hz : Hid (DgI l 1) := Lib.hid (by unfold DgI; omega)
  have hpos : decide (0 < l.length) = true := by simp; omega
  have H45 : digB c = false → c = 45 := fun h => by simpa [h] using hnum
  replace H45 := Lib.hid H45
  clear hlet hc hnum
  have HF0 := Lib.hid (tkR_after (w := w) (Fr.refl Non _))
  have HV := Lib.hid (fun V n => rvalue_any (l.take n) V (by rw [List.length_take]; omega))
  have key : ∀ (b : Bool), digB c = b → Calls Tryz.prog 53 #[.string ⟨l.toArray⟩] w fun e w' => TkEnd (oneB l) e ∧ Fr Non w w' := by
    intro b hb
    rw [hb] at HD
    cases b with
    | true =>
      clear H45
      go_enter Tryz.func53, Tryz.ntmps53
      go_wp2_with fail
      refine (HL.out _).mono ?_
      rintro e w1 ⟨rfl, rfl⟩
      clear HL
      go_wp2_with fail
      refine (HD.out _).mono ?_
      rintro e w1 ⟨rfl, rfl⟩
      clear HD
      go_wp2
      clear hg0 hpos
      go_loopw [6] (fun b wr => ∃ n : Nat, b = .int .i64 (n : Int) ∧ 1 ≤ n ∧ n ≤ l.length ∧ wr = w.alloc (.cells #[.int .i64 0, .string ⟨#[]⟩, .int .i64 0, .int .i64 0] 64) ∧ Hid (DgI l n)) (fun b _ => l.length - (intOf b).toNat)
      case atStart => exact ⟨1, rfl, by omega, by omega, rfl, hz⟩
      case round =>
        obtain ⟨n, rfl, hn1, hn, rfl, hd⟩ := hrel
        by_cases hlt : n < l.length
        · obtain ⟨x, r, _, hx, _⟩ := drop_is hlt
          have hg := byteW hx
          have HD := Lib.hid (fun V => rdig_any x V)
          have hltb : decide (n < l.length) = true := by simp; omega
          cases h2 : digB x with
          | true =>
            have HM := Lib.hid (dgi_more hd.out hx h2)
            rw [h2] at HD
            clear hd hx h2
            go_wp2_with fail
            refine (HD.out _).mono ?_
            rintro e w1 ⟨rfl, rfl⟩
            clear HD
            go_wp2
            go_roundw
            case rel => exact ⟨n + 1, by push_cast; rfl, by omega, by omega, (by first | rfl | trivial), HM⟩
            case measure => simp [intOf]; omega
          | false =>
            have HE := Lib.hid (HO.out n (dgi_stop hd.out hx h2))
            have HV2 := Lib.hid (fun V => HV.out V n)
            have hxt := ext_to l n
            rw [h2] at HD
            clear hd hx h2 HV HO
            generalize l.take n = m at *
            go_wp2_with fail
            refine (HD.out _).mono ?_
            rintro e w1 ⟨rfl, rfl⟩
            clear HD
            go_wp2_with fail
            refine (HV2.out _).mono ?_
            rintro e w2 ⟨x, rfl, hv, hf2⟩
            obtain ⟨hB, hf⟩ := tkR_after hf2
            obtain ⟨c0, c1, c2, c3, z0, z1, z2, z3⟩ := hB.facts
            dsimp only [noTk] at c0 c1 c2 c3
            have HB := Lib.hid hB
            have HF := Lib.hid hf
            clear hB hf hf2 HV2
            cases hm : valB m with
            | none =>
              clear hv
              go_wp2
              rw [HE.out, hm]
              exact bodyPost_ret (ret_tkR (p := 2) (u := 3) rfl _ _ w.heap.size noTk (.int .i64 0) rfl rfl (setTk_R HB.out noTk)) rfl ⟨⟨noTk, rfl⟩, setTk_end HF.out noTk⟩
            | some v =>
              obtain rfl := hv v hm
              clear hv
              go_wp2
              rw [HE.out, hm]
              exact bodyPost_ret (ret_tkR (p := 2) (u := 3) rfl _ _ w.heap.size ⟨2, [], x, 0⟩ (.int .i64 (n : Int)) rfl rfl (setTk_R HB.out ⟨2, [], x, 0⟩)) rfl ⟨rfl, setTk_end HF.out ⟨2, [], x, 0⟩⟩
        · have HE := Lib.hid (HO.out n (dgi_end hd.out hlt))
          have HV2 := Lib.hid (fun V => HV.out V n)
          have hxt := ext_to l n
          have hltb : decide (n < l.length) = false := by simp; omega
          clear hd HV HO
          generalize l.take n = m at *
          go_wp2_with fail
          refine (HV2.out _).mono ?_
          rintro e w2 ⟨x, rfl, hv, hf2⟩
          obtain ⟨hB, hf⟩ := tkR_after hf2
          obtain ⟨c0, c1, c2, c3, z0, z1, z2, z3⟩ := hB.facts
          dsimp only [noTk] at c0 c1 c2 c3
          have HB := Lib.hid hB
          have HF := Lib.hid hf
          clear hB hf hf2 HV2
          cases hm : valB m with
          | none =>
            clear hv
            go_wp2
            rw [HE.out, hm]
            exact bodyPost_ret (ret_tkR (p := 2) (u := 3) rfl _ _ w.heap.size noTk (.int .i64 0) rfl rfl (setTk_R HB.out noTk)) rfl ⟨⟨noTk, rfl⟩, setTk_end HF.out noTk⟩
          | some v =>
            obtain rfl := hv v hm
            clear hv
            go_wp2
            rw [HE.out, hm]
            exact bodyPost_ret (ret_tkR (p := 2) (u := 3) rfl _ _ w.heap.size ⟨2, [], x, 0⟩ (.int .i64 (n : Int)) rfl rfl (setTk_R HB.out ⟨2, [], x, 0⟩)) rfl ⟨rfl, setTk_end HF.out ⟨2, [], x, 0⟩⟩

    | false =>
      obtain rfl := H45.out hb
      clear H45
      go_enter Tryz.func53, Tryz.ntmps53
      go_wp2_with fail
      refine (HL.out _).mono ?_
      rintro e w1 ⟨rfl, rfl⟩
      clear HL
      go_wp2_with fail
      refine (HD.out _).mono ?_
      rintro e w1 ⟨rfl, rfl⟩
      clear HD
      go_wp2
      clear hg0 hpos
      go_loopw [6] (fun b wr => ∃ n : Nat, b = .int .i64 (n : Int) ∧ 1 ≤ n ∧ n ≤ l.length ∧ wr = w.alloc (.cells #[.int .i64 0, .string ⟨#[]⟩, .int .i64 0, .int .i64 0] 64) ∧ Hid (DgI l n)) (fun b _ => l.length - (intOf b).toNat)
      case atStart => exact ⟨1, rfl, by omega, by omega, rfl, hz⟩
      case round =>
        obtain ⟨n, rfl, hn1, hn, rfl, hd⟩ := hrel
        by_cases hlt : n < l.length
        · obtain ⟨x, r, _, hx, _⟩ := drop_is hlt
          have hg := byteW hx
          have HD := Lib.hid (fun V => rdig_any x V)
          have hltb : decide (n < l.length) = true := by simp; omega
          cases h2 : digB x with
          | true =>
            have HM := Lib.hid (dgi_more hd.out hx h2)
            rw [h2] at HD
            clear hd hx h2
            go_wp2_with fail
            refine (HD.out _).mono ?_
            rintro e w1 ⟨rfl, rfl⟩
            clear HD
            go_wp2
            go_roundw
            case rel => exact ⟨n + 1, by push_cast; rfl, by omega, by omega, (by first | rfl | trivial), HM⟩
            case measure => simp [intOf]; omega
          | false =>
            have HE := Lib.hid (HO.out n (dgi_stop hd.out hx h2))
            have HV2 := Lib.hid (fun V => HV.out V n)
            have hxt := ext_to l n
            rw [h2] at HD
            clear hd hx h2 HV HO
            generalize l.take n = m at *
            go_wp2_with fail
            refine (HD.out _).mono ?_
            rintro e w1 ⟨rfl, rfl⟩
            clear HD
            go_wp2_with fail
            refine (HV2.out _).mono ?_
            rintro e w2 ⟨x, rfl, hv, hf2⟩
            obtain ⟨hB, hf⟩ := tkR_after hf2
            obtain ⟨c0, c1, c2, c3, z0, z1, z2, z3⟩ := hB.facts
            dsimp only [noTk] at c0 c1 c2 c3
            have HB := Lib.hid hB
            have HF := Lib.hid hf
            clear hB hf hf2 HV2
            cases hm : valB m with
            | none =>
              clear hv
              go_wp2
              rw [HE.out, hm]
              exact bodyPost_ret (ret_tkR (p := 2) (u := 3) rfl _ _ w.heap.size noTk (.int .i64 0) rfl rfl (setTk_R HB.out noTk)) rfl ⟨⟨noTk, rfl⟩, setTk_end HF.out noTk⟩
            | some v =>
              obtain rfl := hv v hm
              clear hv
              go_wp2
              rw [HE.out, hm]
              exact bodyPost_ret (ret_tkR (p := 2) (u := 3) rfl _ _ w.heap.size ⟨2, [], x, 0⟩ (.int .i64 (n : Int)) rfl rfl (setTk_R HB.out ⟨2, [], x, 0⟩)) rfl ⟨rfl, setTk_end HF.out ⟨2, [], x, 0⟩⟩
        · have HE := Lib.hid (HO.out n (dgi_end hd.out hlt))
          have HV2 := Lib.hid (fun V => HV.out V n)
          have hxt := ext_to l n
          have hltb : decide (n < l.length) = false := by simp; omega
          clear hd HV HO
          generalize l.take n = m at *
          go_wp2_with fail
          refine (HV2.out _).mono ?_
          rintro e w2 ⟨x, rfl, hv, hf2⟩
          obtain ⟨hB, hf⟩ := tkR_after hf2
          obtain ⟨c0, c1, c2, c3, z0, z1, z2, z3⟩ := hB.facts
          dsimp only [noTk] at c0 c1 c2 c3
          have HB := Lib.hid hB
          have HF := Lib.hid hf
          clear hB hf hf2 HV2
          cases hm : valB m with
          | none =>
            clear hv
            go_wp2
            rw [HE.out, hm]
            exact bodyPost_ret (ret_tkR (p := 2) (u := 3) rfl _ _ w.heap.size noTk (.int .i64 0) rfl rfl (setTk_R HB.out noTk)) rfl ⟨⟨noTk, rfl⟩, setTk_end HF.out noTk⟩
          | some v =>
            obtain rfl := hv v hm
            clear hv
            go_wp2
            rw [HE.out, hm]
            exact bodyPost_ret (ret_tkR (p := 2) (u := 3) rfl _ _ w.heap.size ⟨2, [], x, 0⟩ (.int .i64 (n : Int)) rfl rfl (setTk_R HB.out ⟨2, [], x, 0⟩)) rfl ⟨rfl, setTk_end HF.out ⟨2, [], x, 0⟩⟩

  exact key _ rfl

set_option maxHeartbeats 1000000 in
theorem rone_txt (l : List UInt8) (w : World) (hc : l[0]? = some 39) (hl : l.length ≤ 1000000) : Calls Tryz.prog 53 #[.string ⟨l.toArray⟩] w fun e w' => TkEnd (oneB l) e ∧ Fr Non w w' := by
  have h0 : 0 < l.length := (List.getElem?_eq_some_iff.1 hc).1
  have hg0 := byteW hc
  have HL := Lib.hid (fun V => rlet_any 39 V)
  have HD := Lib.hid (fun V => rdig_any 39 V)
  rw [show letB 39 = false by decide] at HL
  rw [show digB 39 = false by decide] at HD
  have HO := Lib.hid (one_txt hc rfl)
  have HQ := Lib.hid (fun V => rquoted_any l V (by omega) (by omega))
  have hpos : decide (0 < l.length) = true := by simp; omega
  clear hc
  go_enter Tryz.func53, Tryz.ntmps53
  go_wp2_with fail
  refine (HL.out _).mono ?_
  rintro e w1 ⟨rfl, rfl⟩
  clear HL
  go_wp2_with fail
  refine (HD.out _).mono ?_
  rintro e w1 ⟨rfl, rfl⟩
  clear HD
  go_wp2_with fail
  refine (HQ.out _).mono ?_
  rintro e w2 ⟨hE, hf2⟩
  obtain ⟨hB, hf⟩ := tkR_after hf2
  obtain ⟨c0, c1, c2, c3, z0, z1, z2, z3⟩ := hB.facts
  dsimp only [noTk] at c0 c1 c2 c3
  have HB := Lib.hid hB
  have HF := Lib.hid hf
  clear hB hf hf2 HQ
  cases hq : qtB (l.drop 1) with
  | none =>
    rw [hq] at hE HO
    obtain rfl : e = _ := hE
    clear hq
    go_wp2
    rw [HO.out]
    exact bodyPost_ret (ret_tkR (p := 2) (u := 3) rfl _ _ w.heap.size ⟨3, [], 0, 0⟩ (.int .i64 0) rfl rfl (setTk_R HB.out ⟨3, [], 0, 0⟩)) rfl ⟨⟨⟨3, [], 0, 0⟩, rfl⟩, setTk_end HF.out ⟨3, [], 0, 0⟩⟩
  | some x =>
    obtain ⟨t, n⟩ := x
    rw [hq] at hE HO
    obtain rfl : e = .returned (.tuple #[.string ⟨t.toArray⟩, .int .i64 ((n : Int) + 1)]) := hE
    clear hq
    go_wp2
    rw [HO.out]
    exact bodyPost_ret (ret_tkR (p := 2) (u := 3) rfl _ _ w.heap.size ⟨3, t, 0, 0⟩ (.int .i64 ((n : Int) + 1)) rfl rfl (setTk_R HB.out ⟨3, t, 0, 0⟩)) rfl ⟨tk_end1 ⟨3, t, 0, 0⟩ n, setTk_end HF.out ⟨3, t, 0, 0⟩⟩

set_option maxHeartbeats 1000000 in
theorem rone_mrk (l : List UInt8) (c : UInt8) (w : World) (hc : l[0]? = some c) (hl : l.length ≤ 1000000) (hlet : letB c = false) (hnum : ¬ (digB c || decide (c = 45)) = true) (h39 : c ≠ 39) : Calls Tryz.prog 53 #[.string ⟨l.toArray⟩] w fun e w' => TkEnd (oneB l) e ∧ Fr Non w w' := by
  have h0 : 0 < l.length := (List.getElem?_eq_some_iff.1 hc).1
  have hg0 := byteW hc
  have HL := Lib.hid (fun V => rlet_any c V)
  have HD := Lib.hid (fun V => rdig_any c V)
  rw [hlet] at HL
  have HO := Lib.hid (one_mrk hc hlet hnum h39)
  have HQ := Lib.hid (fun V => rmark_any l V (by omega) (by omega))
  have hpos : decide (0 < l.length) = true := by simp; omega
  simp only [Bool.or_eq_true, not_or, Bool.not_eq_true, decide_eq_true_eq] at hnum
  have hb45 : ((c.toNat : Int) == 45) = false := by rw [beq_eq_false_iff_ne]; intro e; exact hnum.2 ((byt_is c 45 (by omega)).2 (by omega))
  have hb39 : ((c.toNat : Int) == 39) = false := by rw [beq_eq_false_iff_ne]; intro e; exact h39 ((byt_is c 39 (by omega)).2 (by omega))
  rw [hnum.1] at HD
  clear hc hnum h39 hlet
  have hnl : mkR l ≤ l.length ∧ ∀ t, mkT l = some t → mkR l = t.length ∧ l.take (mkR l) = t := by
    cases hm : mkT l with
    | none => exact ⟨by unfold mkR; rw [hm]; simp, fun t h => by cases h⟩
    | some t =>
      obtain ⟨e1, e2⟩ := tkB_mark hm
      refine ⟨?_, fun t' h => by cases h; exact ⟨e1, by rw [e1]; exact e2⟩⟩
      rw [e1]
      have := congrArg List.length e2
      rw [List.length_take] at this
      omega
  have hnone : mkT l = none → mkR l = 0 := fun h => by unfold mkR; rw [h]
  have hxt := ext_to l (mkR l)
  obtain ⟨hnl, hsome⟩ := hnl
  replace hsome := Lib.hid hsome
  replace hnone := Lib.hid hnone
  generalize mkR l = n at *
  generalize l.take n = m at *
  go_enter Tryz.func53, Tryz.ntmps53
  go_wp2_with fail
  refine (HL.out _).mono ?_
  rintro e w1 ⟨rfl, rfl⟩
  clear HL
  go_wp2_with fail
  refine (HD.out _).mono ?_
  rintro e w1 ⟨rfl, rfl⟩
  clear HD
  go_wp2_with fail
  refine (HQ.out _).mono ?_
  rintro e w2 ⟨rfl, hf2⟩
  obtain ⟨hB, hf⟩ := tkR_after hf2
  obtain ⟨c0, c1, c2, c3, z0, z1, z2, z3⟩ := hB.facts
  dsimp only [noTk] at c0 c1 c2 c3
  have HB := Lib.hid hB
  have HF := Lib.hid hf
  clear hB hf hf2 HQ
  go_wp2
  rw [HO.out]
  refine bodyPost_ret (ret_tkR (p := 2) (u := 3) rfl _ _ w.heap.size ⟨4, m, 0, 0⟩ (.int .i64 (n : Int)) rfl rfl (setTk_R HB.out ⟨4, m, 0, 0⟩)) rfl ⟨?_, setTk_end HF.out ⟨4, m, 0, 0⟩⟩
  cases hm : mkT l with
  | none =>
    obtain rfl := hnone.out hm
    exact ⟨_, rfl⟩
  | some t =>
    obtain ⟨rfl, rfl⟩ := hsome.out t hm
    exact rfl
theorem rone_any (l : List UInt8) (w : World) (h1 : 1 ≤ l.length) (hl : l.length ≤ 1000000) : Calls Tryz.prog 53 #[.string ⟨l.toArray⟩] w fun e w' => TkEnd (oneB l) e ∧ Fr Non w w' := by
  obtain ⟨c, r, _, hc, _⟩ := drop_is (l := l) (k := 0) (by omega)
  cases hlet : letB c with
  | true => exact rone_let l c w hc hl hlet
  | false =>
    by_cases hnum : (digB c || decide (c = 45)) = true
    · exact rone_num l c w hc hl hlet hnum
    · by_cases h39 : c = 39
      · exact rone_txt l w (by rw [← h39]; exact hc) hl
      · exact rone_mrk l c w hc hl hlet hnum h39
end Go.Proofs.YtipgaafgnefmdaaGreatDoor


namespace Go.Proofs.YtipgaafgnefmdaaGreatDoor
set_option linter.unusedVariables false
set_option linter.unusedSimpArgs false
set_option maxRecDepth 100000
open Go.RowKit

/-- so far: the words' bytes ended at i -/
structure RI (l : List UInt8) (i : Nat) (D : List Tk) : Prop where
  rest : tokB 0 l = preT D (tokB i (l.drop i))
  few : D.length ≤ i
theorem ri_zero (l : List UInt8) : RI l 0 [] := ⟨by simp [preT_nil], by simp⟩
theorem RI.blank {l : List UInt8} {i : Nat} {D : List Tk} {c : UInt8} (h : RI l i D) (hc : l[i]? = some c) (hk : blkB c = true) : RI l (i + 1) D := by
  obtain ⟨hi, rfl⟩ := List.getElem?_eq_some_iff.1 hc
  have hr := h.rest
  rw [List.drop_eq_getElem_cons hi, tok_blank i hk] at hr
  exact ⟨hr, by have := h.few; omega⟩
theorem RI.bad {l : List UInt8} {i : Nat} {D : List Tk} {c : UInt8} (h : RI l i D) (hc : l[i]? = some c) (hk : blkB c = false) (ho : oneB (l.drop i) = none) : tokB 0 l = .error i := by
  obtain ⟨hi, rfl⟩ := List.getElem?_eq_some_iff.1 hc
  have hr := h.rest
  rw [List.drop_eq_getElem_cons hi] at hr ho
  rw [tok_bad i hk ho] at hr
  exact hr
theorem RI.word {l : List UInt8} {i : Nat} {D : List Tk} {t : Tk} {n : Nat} (h : RI l i D) (hi : i < l.length) (ho : oneB (l.drop i) = some (t, n)) : RI l (i + n) (D ++ [putAt t i]) ∧ 1 ≤ n ∧ i + n ≤ l.length := by
  have hr := h.rest
  have hf := h.few
  rw [List.drop_eq_getElem_cons hi] at ho
  obtain ⟨h1, h2, _⟩ := one_is ho
  rw [← List.drop_eq_getElem_cons hi, List.length_drop] at h2
  rw [List.drop_eq_getElem_cons hi, tok_one i ho, preT_app, ← List.drop_eq_getElem_cons hi, List.drop_drop] at hr
  exact ⟨⟨hr, by simp; omega⟩, h1, by omega⟩
theorem RI.end_ {l : List UInt8} {i : Nat} {D : List Tk} (h : RI l i D) (hi : ¬ i < l.length) (hi2 : i ≤ l.length) : tokB 0 l = .ok (D ++ [⟨0, [], 0, l.length⟩]) := by
  have hr := h.rest
  rw [show i = l.length by omega, List.drop_length, tok_nil] at hr
  exact hr

set_option maxHeartbeats 4000000 in
theorem wordsR_any (l : List UInt8) (w : World) : Calls Tryz.prog 21 #[.string ⟨l.toArray⟩] w fun e w' => ∃ v, e = .returned (.tuple #[v, .int .i64 ((wsB l).2.1 : Nat), .int .i64 ((wsB l).2.2 : Nat)]) ∧ Tks w' v (wsB l).1 ∧ Fr Non w w' := by
  by_cases hlong : 400 < l.length
  · have HE := Lib.hid (all_long hlong)
    have hb : decide ((400 : Int) < (l.length : Int)) = true := by simp; omega
    clear hlong
    go_enter Tryz.func21, Tryz.ntmps21
    go_wp2
    go_ret3
    rw [HE.out]
    exact ⟨_, rfl, Ns.nil_ w, Fr.refl _ _⟩
  · have hb : decide ((400 : Int) < (l.length : Int)) = false := by simp; omega
    have HS := Lib.hid hlong
    have hl4 : l.length ≤ 400 := by omega
    clear hlong
    go_enter Tryz.func21, Tryz.ntmps21
    go_wp2
    clear hb
    go_loopw [5, 6] (fun v bv wr => ∃ i D, i ≤ l.length ∧ bv = .int .i64 (i : Nat) ∧ D.length ≤ 400 ∧ TkoR wr w.heap.size v D ∧ Fr Non w wr ∧ Hid (RI l i D)) (fun _ bv _ => l.length - (intOf bv).toNat)
    case atStart => exact ⟨0, [], by omega, rfl, by simp, no_lit0 w w.heap.size w.heap.size rfl (Nat.le_refl _), (Fr.refl _ _).alloc _, Lib.hid (ri_zero l)⟩
    case round =>
      obtain ⟨i, D, hi, rfl, hD4, hown, hfr, hd⟩ := hrel
      by_cases hlt : i < l.length
      · obtain ⟨c, r, -, hc, -⟩ := drop_is hlt
        have hg := byteW hc
        have hltb : decide (i < l.length) = true := by simp; omega
        have HO := Lib.hid hown
        have HF := Lib.hid hfr
        clear hown hfr
        cases hk : blkB c with
        | true =>
          have HM := Lib.hid (hd.out.blank hc hk)
          clear hd hc
          simp only [blkB, decide_eq_true_eq] at hk
          by_cases k1 : c.toNat = 32
          · have kb1 : ((c.toNat : Int) == 32) = true := by simp; omega
            clear hk k1
            go_wp2
            go_roundw
            case rel => exact ⟨i + 1, D, by omega, by push_cast; rfl, hD4, HO.out, HF.out, HM⟩
            case measure => simp [intOf]; omega
          · have kb1 : ((c.toNat : Int) == 32) = false := by rw [beq_eq_false_iff_ne]; omega
            by_cases k2 : c.toNat = 9
            · have kb2 : ((c.toNat : Int) == 9) = true := by simp; omega
              clear hk k1 k2
              go_wp2
              go_roundw
              case rel => exact ⟨i + 1, D, by omega, by push_cast; rfl, hD4, HO.out, HF.out, HM⟩
              case measure => simp [intOf]; omega
            · have kb2 : ((c.toNat : Int) == 9) = false := by rw [beq_eq_false_iff_ne]; omega
              have kb3 : ((c.toNat : Int) == 10) = true := by simp; omega
              clear hk k1 k2
              go_wp2
              go_roundw
              case rel => exact ⟨i + 1, D, by omega, by push_cast; rfl, hD4, HO.out, HF.out, HM⟩
              case measure => simp [intOf]; omega
        | false =>
          have HFst := Lib.hid (fun V => rone_any (l.drop i) V (by rw [List.length_drop]; omega) (by rw [List.length_drop]; omega))
          have hx := ext_from l i hi
          have HWB := Lib.hid (hd.out.bad hc hk)
          have HWW := Lib.hid (fun t n => hd.out.word (t := t) (n := n) hlt)
          simp only [blkB, decide_eq_false_iff_not, not_or] at hk
          have kb1 : ((c.toNat : Int) == 32) = false := by rw [beq_eq_false_iff_ne]; omega
          have kb2 : ((c.toNat : Int) == 9) = false := by rw [beq_eq_false_iff_ne]; omega
          have kb3 : ((c.toNat : Int) == 10) = false := by rw [beq_eq_false_iff_ne]; omega
          clear hd hc hk
          generalize l.drop i = m at *
          go_wp2_with fail
          refine (HFst.out _).mono ?_
          rintro e w2 ⟨hE, hf2⟩
          clear HFst
          have HO2 := Lib.hid (HO.out.non hf2)
          have HF2 := Lib.hid (HF.out.then hf2)
          clear hf2 HO HF
          cases ho : oneB m with
          | none =>
            rw [ho] at hE
            obtain ⟨t, rfl⟩ := hE
            have HE := Lib.hid (all_bad HS.out (HWB.out ho))
            clear ho HWB HWW
            dsimp only [tkV, tkA]
            go_wp2
            go_ret3
            rw [HE.out]
            exact ⟨_, rfl, Ns.nil_ _, HF2.out.alloc _⟩
          | some y =>
            obtain ⟨t, n⟩ := y
            rw [ho] at hE
            obtain rfl : e = .returned (.tuple #[tkV t, .int .i64 (n : Nat)]) := hE
            obtain ⟨hM, hn1, hin⟩ := HWW.out t n ho
            have hDn := hM.few
            rw [List.length_append] at hDn
            have hn0 : ((n : Int) == 0) = false := by rw [beq_eq_false_iff_ne]; omega
            have HM := Lib.hid hM
            clear ho hM HWB HWW
            have hO4 := HO2.out.alloc (.cells #[.int .i64 t.kind, .string ⟨t.txt.toArray⟩, .int .i64 t.num, .int .i64 (i : Int)] 64)
            have hF4 := HF2.out.alloc (.cells #[.int .i64 t.kind, .string ⟨t.txt.toArray⟩, .int .i64 t.num, .int .i64 (i : Int)] 64)
            have hsz := hF4.size
            have HO4 := Lib.hid hO4
            have HF4 := Lib.hid hF4
            clear hO4 hF4 HO2 HF2
            dsimp only [tkV, tkA]
            go_wp2_with (at_builtin; refine wpList_pushN fd_tk eln_tkR rfl (.tmp 47) (.tmp 49) rfl w.heap.size _ D rfl HO4.out (putAt t i) #[.int .i64 t.kind, .string ⟨t.txt.toArray⟩, .int .i64 t.num, .int .i64 i] rfl _ rfl (by simp) (by omega) (by omega) ?_; intro v5 w5 hO5 f5)
            have hF5 := HF4.out.fresh f5 (fun q hq => by have := (HO4.out.lt q hq).1; omega)
            go_roundw
            case rel => exact ⟨i + n, _, by omega, by push_cast; rfl, by rw [List.length_append]; omega, hO5, hF5, HM⟩
            case measure => simp [intOf]; omega
      · have hltb : decide (i < l.length) = false := by simp; omega
        have HE := Lib.hid (all_ok HS.out (hd.out.end_ hlt hi))
        have HO := Lib.hid hown
        have HF := Lib.hid hfr
        have hsz := hfr.size
        clear hd hown hfr
        go_wp2_with (at_builtin; refine wpList_pushN fd_tk eln_tkR rfl (.tmp 54) (.tmp 58) rfl w.heap.size _ D rfl HO.out ⟨0, [], 0, l.length⟩ #[.int .i64 0, .string ⟨#[]⟩, .int .i64 0, .int .i64 l.length] rfl _ rfl rfl (by omega) (by omega) ?_; intro v5 w5 hO5 f5)
        have hF5 := HF.out.fresh f5 (fun q hq => by have := (HO.out.lt q hq).1; omega)
        go_ret3
        rw [HE.out]
        exact ⟨_, rfl, hO5.ns fd_tk, hF5⟩
end Go.Proofs.YtipgaafgnefmdaaGreatDoor
